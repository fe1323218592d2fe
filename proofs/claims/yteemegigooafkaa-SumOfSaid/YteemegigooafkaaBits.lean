import Derived.Test.YteemegigooafkaaCrc
/- Lists of bits, and the division by which a sum is defined: plain, no program. -/
namespace Go.Proofs.Yteemegigooafkaa.Crc

def nbits : Nat → Nat → List Nat
  | 0, _ => []
  | k + 1, c => c % 2 :: nbits k (c / 2)
def val2 (l : List Nat) : Nat := l.foldr (fun x v => x + 2 * v) 0
def bitsOf (bs : List Nat) : List Nat := bs.flatMap (nbits 8)
theorem val2_cons (x : Nat) (l : List Nat) : val2 (x :: l) = x + 2 * val2 l := by unfold val2; rw [List.foldr_cons]
theorem val2_nil : val2 [] = 0 := rfl
theorem nbits_len (k c : Nat) : (nbits k c).length = k := by
  induction k generalizing c with
  | zero => rfl
  | succ k ih => simp [nbits, ih]
theorem nbits_snoc (k c : Nat) : nbits (k + 1) c = nbits k c ++ [c / 2 ^ k % 2] := by
  induction k generalizing c with
  | zero => simp [nbits]
  | succ k ih =>
    rw [nbits, ih, nbits, List.cons_append, Nat.div_div_eq_div_mul, Nat.pow_succ, Nat.mul_comm 2]
theorem nbits_le (k c : Nat) : ∀ x ∈ nbits k c, x ≤ 1 := by
  induction k generalizing c with
  | zero => intro x hx; cases hx
  | succ k ih =>
    intro x hx
    simp only [nbits, List.mem_cons] at hx
    rcases hx with rfl | hx
    · omega
    · exact ih _ x hx
theorem bitsOf_len (bs : List Nat) : (bitsOf bs).length = 8 * bs.length := by
  induction bs with
  | nil => rfl
  | cons x bs ih =>
    unfold bitsOf at *
    rw [List.flatMap_cons, List.length_append, ih, nbits_len, List.length_cons]
    omega
theorem bitsOf_snoc (bs : List Nat) (x : Nat) : bitsOf (bs ++ [x]) = bitsOf bs ++ nbits 8 x := by
  unfold bitsOf; rw [List.flatMap_append]; simp
theorem bitsOf_le (bs : List Nat) : ∀ x ∈ bitsOf bs, x ≤ 1 := by
  intro x hx
  unfold bitsOf at hx
  rw [List.mem_flatMap] at hx
  obtain ⟨b, _, hx⟩ := hx
  exact nbits_le 8 b x hx
theorem val2_append (a b : List Nat) : val2 (a ++ b) = val2 a + 2 ^ a.length * val2 b := by
  induction a with
  | nil => simp [val2_nil]
  | cons x a ih =>
    rw [List.cons_append, val2_cons, val2_cons, ih, List.length_cons, Nat.pow_succ, Nat.mul_add, ← Nat.mul_assoc, Nat.mul_comm 2 (2 ^ a.length)]
    omega
theorem val2_nbits (k c : Nat) (h : c < 2 ^ k) : val2 (nbits k c) = c := by
  induction k generalizing c with
  | zero => simp at h; subst h; rfl
  | succ k ih =>
    simp only [nbits]
    rw [val2_cons, ih (c / 2) (by rw [Nat.pow_succ] at h; omega)]
    omega
theorem val2_bitsOf (bs : List Nat) (h : ∀ x ∈ bs, x < 256) : val2 (bitsOf bs) = val bs := by
  induction bs with
  | nil => rfl
  | cons x bs ih =>
    have e : bitsOf (x :: bs) = nbits 8 x ++ bitsOf bs := by unfold bitsOf; rw [List.flatMap_cons]
    rw [e, val2_append, nbits_len, val2_nbits 8 x (by have := h x (by simp); simpa using this), ih (fun y hy => h y (List.mem_cons_of_mem _ hy)), val_cons]
theorem val2_zeros (k : Nat) : val2 (List.replicate k 0) = 0 := by
  induction k with
  | zero => rfl
  | succ k ih => rw [List.replicate_succ, val2_cons, ih]
theorem val2_lt (l : List Nat) (h : ∀ x ∈ l, x ≤ 1) : val2 l < 2 ^ l.length := by
  induction l with
  | nil => simp [val2_nil]
  | cons x l ih =>
    have h1 := ih (fun y hy => h y (List.mem_cons_of_mem _ hy))
    have h2 := h x (by simp)
    rw [val2_cons, List.length_cons, Nat.pow_succ]
    omega
theorem flip_bit (x : Nat) (h : x ≤ 1) : 1 - x = x ^^^ 1 := by
  rcases (show x = 0 ∨ x = 1 by omega) with rfl | rfl <;> rfl
theorem two_mul_xor (a b : Nat) : 2 * (a ^^^ b) = 2 * a ^^^ 2 * b := by
  have h1 := Nat.shiftLeft_xor_distrib (a := a) (b := b) (i := 1)
  rw [Nat.shiftLeft_eq, Nat.shiftLeft_eq, Nat.shiftLeft_eq] at h1
  rw [Nat.mul_comm 2, Nat.mul_comm 2, Nat.mul_comm 2]
  simpa using h1
theorem val2_cons_xor (x : Nat) (l : List Nat) (hx : x ≤ 1) : val2 (x :: l) = x ^^^ (2 * val2 l) := by
  have h := low_add 1 x (val2 l) (by omega)
  rw [val2_cons]; simpa using h
/-- one bit is turned -/
theorem val2_set (l : List Nat) (j : Nat) (hj : j < l.length) (h : ∀ x ∈ l, x ≤ 1) : val2 (l.set j (1 - l.getD j 0)) = val2 l ^^^ 2 ^ j := by
  induction l generalizing j with
  | nil => simp at hj
  | cons x l ih =>
    have hx := h x (by simp)
    cases j with
    | zero =>
      rw [List.set_cons_zero, show (x :: l).getD 0 0 = x from rfl, val2_cons_xor _ _ (by omega), val2_cons_xor _ _ hx, flip_bit x hx, Nat.pow_zero, Nat.xor_assoc, Nat.xor_assoc, Nat.xor_comm 1]
    | succ j =>
      have e : (x :: l).getD (j + 1) 0 = l.getD j 0 := by simp [List.getD]
      rw [List.set_cons_succ, e, val2_cons_xor _ _ hx, val2_cons_xor _ _ hx, ih j (by simpa using hj) (fun y hy => h y (List.mem_cons_of_mem _ hy)), two_mul_xor, Nat.xor_assoc, Nat.pow_succ, Nat.mul_comm 2 (2 ^ j)]
theorem set_le (l : List Nat) (j x : Nat) (h : ∀ y ∈ l, y ≤ 1) (hx : x ≤ 1) : ∀ y ∈ l.set j x, y ≤ 1 := by
  intro y hy
  rcases List.mem_or_eq_of_mem_set hy with hy | rfl
  · exact h y hy
  · exact hx
theorem getD_le (l : List Nat) (j : Nat) (h : ∀ y ∈ l, y ≤ 1) : l.getD j 0 ≤ 1 := by
  by_cases hj : j < l.length
  · have e : l.getD j 0 = l[j] := by simp [List.getD, hj]
    rw [e]; exact h _ (List.getElem_mem hj)
  · simp [List.getD, List.getElem?_eq_none (Nat.le_of_not_lt hj)]
theorem drop_getD (l : List Nat) (i : Nat) (h : i < l.length) : l.drop i = l.getD i 0 :: l.drop (i + 1) := by
  have e : l.getD i 0 = l[i] := by simp [List.getD, h]
  rw [e, List.drop_eq_getElem_cons h]
theorem drop_set (l : List Nat) (i j x : Nat) : (l.set (i + j) x).drop i = (l.drop i).set j x := by
  rw [List.drop_set, if_neg (by omega), show i + j - i = j by omega]
theorem poly_bit (k : Nat) : 2197175160 % 2 ^ (k + 1) = if 2197175160 / 2 ^ k % 2 = 1 then 2197175160 % 2 ^ k ^^^ 2 ^ k else 2197175160 % 2 ^ k := by
  have h1 : 2197175160 % 2 ^ (k + 1) = 2197175160 % 2 ^ k + 2 ^ k * (2197175160 / 2 ^ k % 2) := by rw [Nat.pow_succ, Nat.mod_mul]
  rw [h1]
  split
  · rename_i h
    have h2 := low_add k (2197175160 % 2 ^ k) 1 (Nat.mod_lt _ (Nat.two_pow_pos k))
    rw [h]; simpa using h2
  · rename_i h
    have : 2197175160 / 2 ^ k % 2 = 0 := by omega
    rw [this]; simp
theorem stps_succ' (k n : Nat) : stps (k + 1) n = stp (stps k n) := by rw [stps_add]; rfl
/-- One step of the division: the first bit is taken off, and the poly's bits turn those behind it. -/
theorem step_val {V y r : Nat} (hy : y ≤ 1) (hv : y + 2 * r = V) : (y = 1 → r ^^^ 2197175160 = stp V) ∧ (y = 0 → r = stp V) := by
  subst hv
  constructor
  · intro h; subst h; unfold stp; rw [if_pos (by omega), show (1 + 2 * r) / 2 = r by omega]
  · intro h; subst h; unfold stp; rw [if_neg (by omega)]; omega
theorem nbits_getD (k c j : Nat) (h : j < k) : (nbits k c).getD j 0 = c / 2 ^ j % 2 := by
  induction k generalizing c j with
  | zero => omega
  | succ k ih =>
    cases j with
    | zero => simp [nbits, List.getD]
    | succ j =>
      have e : (nbits (k + 1) c).getD (j + 1) 0 = (nbits k (c / 2)).getD j 0 := by simp [nbits, List.getD]
      rw [e, ih (c / 2) j (by omega), Nat.div_div_eq_div_mul, Nat.pow_succ, Nat.mul_comm 2]
theorem turn_val {L : List Nat} {i k r : Nat} (hk : i + 1 + k < L.length) (h1 : ∀ x ∈ L, x ≤ 1) (hv : val2 (L.drop (i + 1)) = r ^^^ 2197175160 % 2 ^ k) (hb : 2197175160 / 2 ^ k % 2 = 1) :
    val2 ((L.set (i + 1 + k) (1 - L.getD (i + 1 + k) 0)).drop (i + 1)) = r ^^^ 2197175160 % 2 ^ (k + 1) := by
  have e : L.getD (i + 1 + k) 0 = (L.drop (i + 1)).getD k 0 := by simp [List.getD, List.getElem?_drop]
  rw [drop_set, e, val2_set (L.drop (i + 1)) k (by rw [List.length_drop]; omega) (fun x hx => h1 x (List.mem_of_mem_drop hx)), hv, poly_bit, if_pos hb, Nat.xor_assoc]
theorem stay_val {v r k : Nat} (hv : v = r ^^^ 2197175160 % 2 ^ k) (hb : ¬ 2197175160 / 2 ^ k % 2 = 1) : v = r ^^^ 2197175160 % 2 ^ (k + 1) := by
  rw [poly_bit, if_neg hb]; exact hv
theorem getD_set_ne (L : List Nat) (i j x : Nat) (h : i ≠ j) : (L.set j x).getD i 0 = L.getD i 0 := by
  simp [List.getD, Ne.symm h]
theorem next_val {L L' : List Nat} {i : Nat} {V0 : Nat} (hi : i < L.length) (h1 : ∀ x ∈ L, x ≤ 1) (hv : val2 (L.drop i) = stps i V0)
    (hy : (L.getD i 0 = 1 → val2 (L'.drop (i + 1)) = val2 (L.drop (i + 1)) ^^^ 2197175160) ∧ (L.getD i 0 = 0 → val2 (L'.drop (i + 1)) = val2 (L.drop (i + 1)))) : val2 (L'.drop (i + 1)) = stps (i + 1) V0 := by
  rw [drop_getD L i hi, val2_cons] at hv
  have hle := getD_le L i h1
  have hs := step_val hle hv
  rw [stps_succ']
  rcases (show L.getD i 0 = 0 ∨ L.getD i 0 = 1 by omega) with h | h
  · rw [hy.2 h]; exact hs.2 h
  · rw [hy.1 h]; exact hs.1 h
/-- The bits turned, all of them. -/
def comp (l : List Nat) : Nat := val2 (l.map (1 - ·))
theorem comp_add (l : List Nat) (h : ∀ x ∈ l, x ≤ 1) : comp l + val2 l + 1 = 2 ^ l.length := by
  induction l with
  | nil => rfl
  | cons x l ih =>
    have h1 := ih (fun y hy => h y (List.mem_cons_of_mem _ hy))
    have h2 := h x (by simp)
    unfold comp at *
    rw [List.map_cons, val2_cons, val2_cons, List.length_cons, Nat.pow_succ]
    omega
theorem comp_cons (x : Nat) (l : List Nat) : comp (x :: l) = (1 - x) + 2 * comp l := by unfold comp; rw [List.map_cons, val2_cons]
theorem of_division (bs : List Nat) (hb : ∀ x ∈ bs, x < 256) (L : List Nat) (h1 : ∀ x ∈ L, x ≤ 1) (hl : L.length = 32) (hv : val2 L = stps (8 * bs.length) (val bs ^^^ 4294967295)) : comp L = of bs := by
  have h := comp_add L h1
  rw [hl, hv] at h
  unfold of
  rw [run_eq _ bs hb, Nat.xor_comm 4294967295]
  omega
end Go.Proofs.Yteemegigooafkaa.Crc
