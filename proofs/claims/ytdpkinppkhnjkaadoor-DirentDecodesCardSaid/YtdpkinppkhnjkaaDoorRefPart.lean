/- The contracts of gabionref01's Bytes and Zeros. -/
import Derived.Test.YtdpkinppkhnjkaaDoorAppend
namespace Go.Proofs.YtdpkinppkhnjkaaDoor.Crc
def stp (n : Nat) : Nat := if n % 2 = 1 then (n / 2) ^^^ 2197175160 else n / 2
def stps : Nat → Nat → Nat
  | 0, n => n
  | k + 1, n => stps k (stp n)
def run (s : Nat) (l : List Nat) : Nat := l.foldl (fun s x => stps 8 (s ^^^ x)) s
def val (l : List Nat) : Nat := l.foldr (fun x v => x + 256 * v) 0
def of (l : List Nat) : Nat := 4294967295 - run 4294967295 l

theorem xor_half (a b : Nat) : (a ^^^ b) / 2 = (a / 2) ^^^ (b / 2) := by
  apply Nat.eq_of_testBit_eq
  intro i
  rw [Nat.testBit_xor, Nat.testBit_div_two, Nat.testBit_div_two, Nat.testBit_div_two, Nat.testBit_xor]
theorem xor_mod (a b : Nat) : (a ^^^ b) % 2 = (a % 2 + b % 2) % 2 := by
  have h : (a ^^^ b).testBit 0 = (a.testBit 0 ^^ b.testBit 0) := Nat.testBit_xor a b 0
  rw [Nat.testBit_zero, Nat.testBit_zero, Nat.testBit_zero] at h
  rcases Nat.mod_two_eq_zero_or_one a with ha | ha <;> rcases Nat.mod_two_eq_zero_or_one b with hb | hb <;> simp [ha, hb] at h ⊢ <;> first | assumption | (rw [← Nat.mod_two_ne_one] ; simp [ha, hb]) | omega
theorem stp_xor (a b : Nat) : stp (a ^^^ b) = stp a ^^^ stp b := by
  unfold stp
  rw [xor_mod, xor_half]
  rcases Nat.mod_two_eq_zero_or_one a with ha | ha <;> rcases Nat.mod_two_eq_zero_or_one b with hb | hb <;> simp [ha, hb]
  · rw [Nat.xor_assoc]
  · rw [Nat.xor_assoc, Nat.xor_assoc, Nat.xor_comm (b / 2)]
  · rw [Nat.xor_comm (b / 2), Nat.xor_assoc, ← Nat.xor_assoc 2197175160, Nat.xor_self, Nat.zero_xor]
theorem stps_xor (k a b : Nat) : stps k (a ^^^ b) = stps k a ^^^ stps k b := by
  induction k generalizing a b with
  | zero => rfl
  | succ k ih => simp only [stps]; rw [stp_xor, ih]
theorem stps_zero (k : Nat) : stps k 0 = 0 := by
  induction k with
  | zero => rfl
  | succ k ih => simp only [stps]; rw [show stp 0 = 0 from rfl, ih]
theorem stp_two (m : Nat) : stp (2 * m) = m := by
  unfold stp; rw [if_neg (by omega)]; omega
theorem stps_shl (k m : Nat) : stps k (2 ^ k * m) = m := by
  induction k with
  | zero => simp [stps]
  | succ k ih => simp only [stps]; rw [show 2 ^ (k + 1) * m = 2 * (2 ^ k * m) by rw [Nat.pow_succ, Nat.mul_comm (2 ^ k) 2, Nat.mul_assoc], stp_two, ih]
theorem stps_add (j k n : Nat) : stps (j + k) n = stps k (stps j n) := by
  induction j generalizing n with
  | zero => simp [stps]
  | succ j ih => rw [show j + 1 + k = (j + k) + 1 by omega]; simp only [stps]; exact ih _
theorem stp_lt {n : Nat} (h : n < 4294967296) : stp n < 4294967296 := by
  unfold stp
  split
  · exact Nat.xor_lt_two_pow (n := 32) (by omega) (by omega)
  · omega
theorem stps_lt {n : Nat} (k : Nat) (h : n < 4294967296) : stps k n < 4294967296 := by
  induction k generalizing n with
  | zero => exact h
  | succ k ih => exact ih (stp_lt h)
theorem stp_pos {n : Nat} (h : n < 4294967296) (h0 : n ≠ 0) : stp n ≠ 0 := by
  unfold stp
  split
  · intro e
    have e' : n / 2 = 2197175160 := by
      have := congrArg (· ^^^ 2197175160) e
      simpa [Nat.xor_assoc] using this
    omega
  · omega
theorem stps_pos {n : Nat} (k : Nat) (h : n < 4294967296) (h0 : n ≠ 0) : stps k n ≠ 0 := by
  induction k generalizing n with
  | zero => exact h0
  | succ k ih => exact ih (stp_lt h) (stp_pos h h0)
theorem low_add (i x y : Nat) (hx : x < 2 ^ i) : x + 2 ^ i * y = x ^^^ (2 ^ i * y) := by
  apply Nat.eq_of_testBit_eq
  intro j
  rw [Nat.testBit_xor, Nat.add_comm, Nat.testBit_two_pow_mul_add _ hx, Nat.testBit_two_pow_mul]
  by_cases h : j < i
  · have h' : ¬ i ≤ j := by omega
    simp [h, h']
  · have : x.testBit j = false := Nat.testBit_lt_two_pow (Nat.lt_of_lt_of_le hx (Nat.pow_le_pow_right (by omega) (by omega)))
    simp [h, this]; omega
theorem val_cons (x : Nat) (l : List Nat) : val (x :: l) = x + 256 * val l := by unfold val; rw [List.foldr_cons]
theorem run_cons (s x : Nat) (l : List Nat) : run s (x :: l) = run (stps 8 (s ^^^ x)) l := by unfold run; rw [List.foldl_cons]
theorem val_cons_xor (x : Nat) (l : List Nat) (hx : x < 256) : val (x :: l) = x ^^^ (256 * val l) := by
  have h := low_add 8 x (val l) (by simpa using hx)
  rw [val_cons]; simpa using h
theorem stps8_shl (m : Nat) : stps 8 (256 * m) = m := by have h := stps_shl 8 m; simpa using h
theorem run_eq (s : Nat) (l : List Nat) (hl : ∀ x ∈ l, x < 256) : run s l = stps (8 * l.length) (s ^^^ val l) := by
  induction l generalizing s with
  | nil => simp [run, val, stps]
  | cons x l ih =>
    rw [run_cons, ih _ (fun y hy => hl y (List.mem_cons_of_mem _ hy)), val_cons_xor x l (hl x (by simp)), List.length_cons, show 8 * (l.length + 1) = 8 + 8 * l.length by omega, stps_add, ← Nat.xor_assoc, stps_xor 8 (s ^^^ x) (256 * val l), stps8_shl]
theorem run_append (s : Nat) (a b : List Nat) : run s (a ++ b) = run (run s a) b := by
  induction a generalizing s with
  | nil => rfl
  | cons x a ih => rw [List.cons_append, run_cons, run_cons]; exact ih _
theorem run_lt {s : Nat} (l : List Nat) (hs : s < 4294967296) (hl : ∀ x ∈ l, x < 256) : run s l < 4294967296 := by
  induction l generalizing s with
  | nil => exact hs
  | cons x l ih =>
    rw [run_cons]
    refine ih (stps_lt 8 (Nat.xor_lt_two_pow (n := 32) hs ?_)) (fun y hy => hl y (List.mem_cons_of_mem _ hy))
    have := hl x (by simp); omega
theorem ones_sub (n : Nat) (h : n < 4294967296) : 4294967295 - n = 4294967295 ^^^ n := by
  have h1 : n ^^^ (4294967295 - n) = 4294967295 := by
    apply Nat.eq_of_testBit_eq
    intro i
    rw [Nat.testBit_xor, show 4294967295 - n = 2 ^ 32 - (n + 1) by omega, Nat.testBit_two_pow_sub_succ (by simpa using h), show 4294967295 = 2 ^ 32 - 1 by rfl, Nat.testBit_two_pow_sub_one]
    by_cases hi : i < 32
    · simp [hi]
    · simp [hi]
      exact Nat.testBit_lt_two_pow (Nat.lt_of_lt_of_le h (show 2 ^ 32 ≤ 2 ^ i from Nat.pow_le_pow_right (by omega) (by omega)))
  calc 4294967295 - n = n ^^^ (n ^^^ (4294967295 - n)) := by rw [← Nat.xor_assoc, Nat.xor_self, Nat.zero_xor]
    _ = 4294967295 ^^^ n := by rw [h1, Nat.xor_comm]

theorem of_eq (l : List Nat) (hl : ∀ x ∈ l, x < 256) : of l = 4294967295 ^^^ stps (8 * l.length) (4294967295 ^^^ val l) := by
  unfold of
  rw [ones_sub _ (run_lt l (by omega) hl), run_eq _ l hl]
theorem of_lt (l : List Nat) : of l < 4294967296 := by unfold of; omega
theorem of_le (l : List Nat) : of l ≤ 4294967295 := by unfold of; omega

/-- bytes changed by one another -/
def xors : List Nat → List Nat → List Nat := List.zipWith (· ^^^ ·)
theorem xors_lt (a b : List Nat) (ha : ∀ x ∈ a, x < 256) (hb : ∀ x ∈ b, x < 256) : ∀ x ∈ xors a b, x < 256 := by
  unfold xors
  intro x hx
  rw [List.mem_iff_getElem] at hx
  obtain ⟨i, hi, rfl⟩ := hx
  rw [List.getElem_zipWith]
  exact Nat.xor_lt_two_pow (n := 8) (ha _ (List.getElem_mem _)) (hb _ (List.getElem_mem _))
theorem val_xors (a b : List Nat) (h : a.length = b.length) (ha : ∀ x ∈ a, x < 256) (hb : ∀ x ∈ b, x < 256) : val (xors a b) = val a ^^^ val b := by
  induction a generalizing b with
  | nil => cases b with
    | nil => rfl
    | cons y b => simp at h
  | cons x a ih => cases b with
    | nil => simp at h
    | cons y b =>
      have hx := ha x (by simp)
      have hy := hb y (by simp)
      have hxy : x ^^^ y < 256 := Nat.xor_lt_two_pow (n := 8) hx hy
      show val ((x ^^^ y) :: xors a b) = _
      rw [val_cons_xor _ _ hxy, val_cons_xor _ _ hx, val_cons_xor _ _ hy, ih b (by simpa using h) (fun z hz => ha z (List.mem_cons_of_mem _ hz)) (fun z hz => hb z (List.mem_cons_of_mem _ hz))]
      have e : 256 * (val a ^^^ val b) = 256 * val a ^^^ 256 * val b := by
        have h1 := Nat.shiftLeft_xor_distrib (a := val a) (b := val b) (i := 8)
        rw [Nat.shiftLeft_eq, Nat.shiftLeft_eq, Nat.shiftLeft_eq] at h1
        rw [Nat.mul_comm 256, Nat.mul_comm 256, Nat.mul_comm 256]
        simpa using h1
      rw [e]
      generalize 256 * val a = p
      generalize 256 * val b = q
      rw [Nat.xor_assoc, Nat.xor_assoc, ← Nat.xor_assoc y p q, Nat.xor_comm y p, Nat.xor_assoc p y q]
theorem goes (a b c : List Nat) (hab : a.length = b.length) (hac : a.length = c.length) (ha : ∀ x ∈ a, x < 256) (hb : ∀ x ∈ b, x < 256) (hc : ∀ x ∈ c, x < 256) :
    (of a ^^^ of b) ^^^ of c = of (xors (xors a b) c) := by
  have hl : (xors a b).length = a.length := by simp [xors, hab]
  have hl2 : (xors (xors a b) c).length = a.length := by simp [xors, hab]; omega
  have h1 := xors_lt a b ha hb
  have h2 := xors_lt _ c h1 hc
  rw [of_eq a ha, of_eq b hb, of_eq c hc, of_eq _ h2, hl2, ← hab, ← hac, val_xors _ _ (by omega) h1 hc, val_xors _ _ hab ha hb]
  rw [stps_xor, stps_xor, stps_xor, stps_xor, stps_xor, stps_xor]
  generalize stps (8 * a.length) 4294967295 = t
  generalize stps (8 * a.length) (val a) = x
  generalize stps (8 * a.length) (val b) = y
  generalize stps (8 * a.length) (val c) = z
  generalize 4294967295 = o
  apply Nat.eq_of_testBit_eq
  intro i
  simp only [Nat.testBit_xor]
  cases o.testBit i <;> cases t.testBit i <;> cases x.testBit i <;> cases y.testBit i <;> cases z.testBit i <;> rfl

/-- a number's bytes, the lowest first -/
def les : Nat → Nat → List Nat
  | 0, _ => []
  | k + 1, v => v % 256 :: les k (v / 256)
theorem les_len (k v : Nat) : (les k v).length = k := by
  induction k generalizing v with
  | zero => rfl
  | succ k ih => simp [les, ih]
theorem les_lt (k v : Nat) : ∀ x ∈ les k v, x < 256 := by
  induction k generalizing v with
  | zero => intro x hx; cases hx
  | succ k ih =>
    intro x hx
    simp only [les, List.mem_cons] at hx
    rcases hx with rfl | hx
    · omega
    · exact ih _ x hx
theorem val_les (k v : Nat) (h : v < 256 ^ k) : val (les k v) = v := by
  induction k generalizing v with
  | zero => simp at h; subst h; rfl
  | succ k ih =>
    simp only [les]
    rw [val_cons, ih (v / 256) (by rw [Nat.pow_succ] at h; omega)]
    omega
theorem val_zeros (k : Nat) : val (List.replicate k 0) = 0 := by
  induction k with
  | zero => rfl
  | succ k ih => rw [List.replicate_succ, val_cons, ih]
theorem ends (b : List Nat) (hb : ∀ x ∈ b, x < 256) : of (b ++ les 4 (of b)) = of (List.replicate 4 0) := by
  have h0 : ∀ x ∈ List.replicate 4 0, x < 256 := by intro x hx; rw [List.eq_of_mem_replicate hx]; omega
  have hr := run_lt (s := 4294967295) b (by omega) hb
  have hx : run 4294967295 b ^^^ of b = 4294967295 := by
    unfold of
    rw [ones_sub _ hr, Nat.xor_comm, Nat.xor_assoc, Nat.xor_self, Nat.xor_zero]
  have e : run 4294967295 (b ++ les 4 (of b)) = run 4294967295 (List.replicate 4 0) := by
    rw [run_append, run_eq _ _ (les_lt 4 _), run_eq _ _ h0, val_zeros, val_les 4 (of b) (by have := of_lt b; simpa using this), les_len, List.length_replicate, hx, Nat.xor_zero]
  unfold of at *
  rw [e]

/-- bits within a row of 32 that are turned -/
theorem turns (b c : List Nat) (hl : b.length = c.length) (hb : ∀ x ∈ b, x < 256) (hc : ∀ x ∈ c, x < 256) (from_ bits : Nat) (hv : val c = val b ^^^ (2 ^ from_ * bits)) (hbits : bits < 4294967296) (h0 : bits ≠ 0) (hf : from_ ≤ 8 * b.length) : of c ≠ of b := by
  rw [of_eq b hb, of_eq c hc, hv, ← hl]
  intro e
  have e2 : stps (8 * b.length) (2 ^ from_ * bits) = 0 := by
    rw [stps_xor, stps_xor, stps_xor] at e
    have := congrArg (fun z => (stps (8 * b.length) (val b)) ^^^ ((stps (8 * b.length) 4294967295) ^^^ (4294967295 ^^^ z))) e
    generalize stps (8 * b.length) 4294967295 = t at this
    generalize stps (8 * b.length) (val b) = x at this
    generalize stps (8 * b.length) (2 ^ from_ * bits) = y at this ⊢
    generalize 4294967295 = o at this
    have h3 : y = x ^^^ (t ^^^ (o ^^^ (o ^^^ (t ^^^ (x ^^^ y))))) := by
      apply Nat.eq_of_testBit_eq
      intro i
      simp only [Nat.testBit_xor]
      cases o.testBit i <;> cases t.testBit i <;> cases x.testBit i <;> cases y.testBit i <;> rfl
    have h4 : x ^^^ (t ^^^ (o ^^^ (o ^^^ (t ^^^ x)))) = 0 := by
      apply Nat.eq_of_testBit_eq
      intro i
      simp only [Nat.testBit_xor, Nat.zero_testBit]
      cases o.testBit i <;> cases t.testBit i <;> cases x.testBit i <;> rfl
    rw [h3, this, h4]
  rw [show 8 * b.length = from_ + (8 * b.length - from_) by omega, stps_add, stps_shl] at e2
  exact stps_pos _ hbits h0 e2
end Go.Proofs.YtdpkinppkhnjkaaDoor.Crc

namespace Go.Proofs.YtdpkinppkhnjkaaDoor
open Go.RowKit

theorem les_snoc (k v : Nat) : Crc.les (k + 1) v = Crc.les k v ++ [v / 256 ^ k % 256] := by
  induction k generalizing v with
  | zero => simp [Crc.les]
  | succ k ih =>
    rw [Crc.les, ih, Crc.les, List.cons_append, Nat.div_div_eq_div_mul, Nat.pow_succ, Nat.mul_comm 256]
theorem own_zeros {B : Nat} {w : World} {sv : Value} {n : Nat} (h : w.ownsRow B 5 1 sv n (madeCells #[Value.int .u8 0] n).toList) : Own B w sv (List.replicate n 0) := by
  refine ⟨?_, fun x hx => by rw [List.eq_of_mem_replicate hx]; omega⟩
  have e : (madeCells #[Value.int .u8 0] n).toList = (List.replicate n 0).map u8v := by
    rw [toList_madeCells_one, List.map_replicate]; rfl
  rw [e] at h
  rw [List.length_replicate]
  exact h

end Go.Proofs.YtdpkinppkhnjkaaDoor

namespace Go.Proofs.YtdpkinppkhnjkaaDoor
open Go.RowKit

end Go.Proofs.YtdpkinppkhnjkaaDoor
