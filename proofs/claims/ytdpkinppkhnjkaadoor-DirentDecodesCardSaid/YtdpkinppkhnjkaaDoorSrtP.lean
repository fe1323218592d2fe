/- Sorting in place: plain facts. -/
import Derived.Test.YtdpkinppkhnjkaaDoorNLess
namespace Go.Proofs.YtdpkinppkhnjkaaDoor
open Go.RowKit

abbrev Seq' := Nat → ByteArray
def leS (a b : ByteArray) : Prop := lessOf b a = false
theorem byteArray_eq {a b : ByteArray} (h : a.toList = b.toList) : a = b := by
  rw [ByteArray.toList_eq, ByteArray.toList_eq] at h
  obtain ⟨⟨x⟩⟩ := a
  obtain ⟨⟨y⟩⟩ := b
  have : x = y := h
  rw [this]
theorem lt_leS {a b : ByteArray} (h : lessOf a b = true) : leS a b := by
  have := lessOf_and a b
  rw [h, Bool.true_and] at this
  exact this
theorem leS_refl (a : ByteArray) : leS a a := by
  have := lessOf_and a a
  rw [Bool.and_self] at this
  exact this
theorem leS_cases {a b : ByteArray} (h : leS a b) : lessOf a b = true ∨ a = b := by
  have h1 := lessOf_or a b
  unfold leS at h
  rw [h, Bool.or_false] at h1
  by_cases c : lessOf a b = true
  · exact .inl c
  · refine .inr (byteArray_eq ?_)
    rw [Bool.not_eq_true] at c
    rw [c] at h1
    simpa using h1.symm
theorem leS_trans {a b c : ByteArray} (h1 : leS a b) (h2 : leS b c) : leS a c := by
  rcases leS_cases h2 with h | rfl
  · cases hc : lessOf c a with
    | false => exact hc
    | true => exact absurd (lessOf_trans h hc) (by unfold leS at h1; rw [h1]; decide)
  · exact h1
theorem leS_antisymm {a b : ByteArray} (h1 : leS a b) (h2 : leS b a) : a = b := by
  rcases leS_cases h1 with h | h
  · unfold leS at h2; rw [h2] at h; cases h
  · exact h
theorem not_lt {a b : ByteArray} (h : lessOf a b = false) : leS b a := h
/-- In order from a on, up to b. -/
def Srt (f : Seq') (a b : Nat) : Prop := ∀ i j, a ≤ i → i < j → j < b → leS (f i) (f j)
def swp (f : Seq') (i j : Nat) : Seq' := fun k => if k = i then f j else if k = j then f i else f k
/-- The same, in another order, from a up to b. -/
inductive Prm (a b : Nat) (f : Seq') : Seq' → Prop
  | refl : Prm a b f f
  | swap {g : Seq'} (i j : Nat) (hi : a ≤ i ∧ i < b) (hj : a ≤ j ∧ j < b) : Prm a b f g → Prm a b f (swp g i j)
theorem Prm.mono {a b a' b' : Nat} {f g : Seq'} (h : Prm a b f g) (ha : a' ≤ a) (hb : b ≤ b') : Prm a' b' f g := by
  induction h with
  | refl => exact .refl
  | swap i j hi hj _ ih => exact .swap i j ⟨by omega, by omega⟩ ⟨by omega, by omega⟩ ih
theorem Prm.trans {a b : Nat} {f g h : Seq'} (h1 : Prm a b f g) (h2 : Prm a b g h) : Prm a b f h := by
  induction h2 with
  | refl => exact h1
  | swap i j hi hj _ ih => exact .swap i j hi hj ih
theorem Prm.out {a b : Nat} {f g : Seq'} (h : Prm a b f g) (k : Nat) (hk : ¬ (a ≤ k ∧ k < b)) : g k = f k := by
  induction h with
  | refl => rfl
  | swap i j hi hj _ ih =>
    unfold swp
    rw [if_neg (by rintro rfl; exact hk hi), if_neg (by rintro rfl; exact hk hj), ih]
theorem Prm.all {a b : Nat} {f g : Seq'} (h : Prm a b f g) (P : ByteArray → Prop) (hP : ∀ k, a ≤ k → k < b → P (f k)) : ∀ k, a ≤ k → k < b → P (g k) := by
  induction h with
  | refl => exact hP
  | swap i j hi hj _ ih =>
    intro k h1 h2
    unfold swp
    split
    · exact ih j hj.1 hj.2
    · split
      · exact ih i hi.1 hi.2
      · exact ih k h1 h2
/-- So many side by side are changed. -/
def swr (f : Seq') (a b n : Nat) : Seq' := fun k => if a ≤ k ∧ k < a + n then f (k - a + b) else if b ≤ k ∧ k < b + n then f (k - b + a) else f k
theorem swr_zero (f : Seq') (a b : Nat) : swr f a b 0 = f := by
  funext k; unfold swr; rw [if_neg (by omega), if_neg (by omega)]
theorem swr_succ (f : Seq') (a b i : Nat) (h : a + (i + 1) ≤ b) : swp (swr f a b i) (a + i) (b + i) = swr f a b (i + 1) := by
  funext k
  unfold swp swr
  by_cases c1 : k = a + i
  · subst c1
    rw [if_pos rfl, if_neg (by omega), if_neg (by omega), if_pos (by omega)]
    congr 1; omega
  rw [if_neg c1]
  by_cases c2 : k = b + i
  · subst c2
    rw [if_pos rfl, if_neg (by omega), if_neg (by omega), if_neg (by omega), if_pos (by omega)]
    congr 1; omega
  rw [if_neg c2]
  by_cases c3 : a ≤ k ∧ k < a + i
  · rw [if_pos c3, if_pos (by omega)]
  have c3' : ¬ (a ≤ k ∧ k < a + (i + 1)) := by omega
  rw [if_neg c3, if_neg c3']
  by_cases c4 : b ≤ k ∧ k < b + i
  · rw [if_pos c4, if_pos (by omega)]
  have c4' : ¬ (b ≤ k ∧ k < b + (i + 1)) := by omega
  rw [if_neg c4, if_neg c4']
theorem swr_prm (f : Seq') (a b lo hi : Nat) : ∀ n, a + n ≤ b → lo ≤ a → b + n ≤ hi → Prm lo hi f (swr f a b n) := by
  intro n
  induction n with
  | zero => intro _ _ _; rw [swr_zero]; exact .refl
  | succ n ih =>
    intro h1 h2 h3
    rw [← swr_succ f a b n h1]
    exact .swap _ _ (by omega) (by omega) (ih (by omega) h2 (by omega))
/-- Two parts side by side change their places. -/
def rot (f : Seq') (l i j : Nat) : Seq' := fun k => if l ≤ k ∧ k < l + j then f (k + i) else if l + j ≤ k ∧ k < l + i + j then f (k - j) else f k
theorem rot_same (f : Seq') (l i : Nat) : swr f l (l + i) i = rot f l i i := by
  funext k
  unfold swr rot
  by_cases c1 : l ≤ k ∧ k < l + i
  · rw [if_pos c1, if_pos c1]; congr 1; omega
  rw [if_neg c1, if_neg c1]
  by_cases c2 : l + i ≤ k ∧ k < l + i + i
  · rw [if_pos c2, if_pos c2]; congr 1; omega
  rw [if_neg c2, if_neg c2]
theorem rot_left (f : Seq') (l i j : Nat) (h : j < i) : rot (swr f l (l + i) j) (l + j) (i - j) j = rot f l i j := by
  funext k
  unfold rot swr
  by_cases c1 : l ≤ k ∧ k < l + j
  · rw [if_neg (by omega), if_neg (by omega), if_pos c1, if_pos c1]; congr 1; omega
  by_cases c2 : l + j ≤ k ∧ k < l + j + j
  · rw [if_pos c2, if_neg (by omega), if_pos (by omega), if_neg c1, if_pos (by omega)]; congr 1; omega
  rw [if_neg c2]
  by_cases c3 : l + j ≤ k ∧ k < l + i + j
  · rw [if_pos (by omega), if_neg (by omega), if_neg (by omega), if_neg c1, if_pos c3]
  rw [if_neg (by omega), if_neg c1, if_neg (by omega), if_neg c1, if_neg c3]
theorem rot_right (f : Seq') (l i j : Nat) (h : i < j) : rot (swr f l (l + j) i) l i (j - i) = rot f l i j := by
  funext k
  unfold rot swr
  by_cases c1 : l ≤ k ∧ k < l + (j - i)
  · rw [if_pos c1, if_neg (by omega), if_neg (by omega), if_pos (by omega)]
  rw [if_neg c1]
  by_cases c2 : l + (j - i) ≤ k ∧ k < l + i + (j - i)
  · rw [if_pos c2, if_pos (by omega), if_pos (by omega)]; congr 1; omega
  rw [if_neg c2]
  by_cases c3 : l ≤ k ∧ k < l + j
  · omega
  rw [if_neg (by omega), if_neg c3]
  by_cases c4 : l + j ≤ k ∧ k < l + i + j
  · rw [if_pos (by omega), if_pos c4]; congr 1; omega
  rw [if_neg (by omega), if_neg c4]
theorem rot_zero (f : Seq') (l i : Nat) : rot f l i 0 = f := by
  funext k; unfold rot
  rw [if_neg (by omega)]
  split
  · rfl
  · rfl
end Go.Proofs.YtdpkinppkhnjkaaDoor
