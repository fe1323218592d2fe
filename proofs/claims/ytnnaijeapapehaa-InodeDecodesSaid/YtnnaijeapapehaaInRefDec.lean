/- gabionref17.Decode: bytes read as the document has it. -/
import Derived.Test.YtnnaijeapapehaaInRefEnc
import Derived.Test.YtnnaijeapapehaaInBack
import Derived.Test.YtnnaijeapapehaaRw
namespace Go.Proofs.Ytnnaijeapapehaa
open Go.RowKit

/-- Are bytes no inode, as the document asks it? -/
def badI (bs : List Nat) : Prop := 2 < bs.getD 0 0 ∨ bs.getD 1 0 ≠ 0 ∨ zeros (bs.drop 48) = false ∨ bs.getD 0 0 = 0 ∧ zeros bs = false
theorem leVal_zero (l : List Nat) : decide (leVal l = 0) = zeros l := by
  induction l with
  | nil => rfl
  | cons x xs ih =>
    have : zeros (x :: xs) = ((x == 0) && zeros xs) := rfl
    rw [this, ← ih, leVal]
    rw [Bool.eq_iff_iff]
    simp
    omega
theorem zeros_cut (bs : List Nat) (k m : Nat) : zeros (bs.drop k) = (zeros ((bs.drop k).take m) && zeros (bs.drop (k + m))) := by
  conv => lhs; rw [← List.take_append_drop m (bs.drop k)]
  unfold zeros
  rw [List.all_append, List.drop_drop]
theorem zeros_get (bs : List Nat) (h : 1 < bs.length) : zeros bs = ((bs.getD 0 0 == 0) && ((bs.getD 1 0 == 0) && zeros (bs.drop 2))) := by
  have h0 := zeros_drop (bs := bs) (k := 0) (by omega)
  have h1 := zeros_drop (bs := bs) (k := 1) h
  rw [List.drop_zero] at h0
  rw [h0, h1]
theorem zeros_ino (bs : List Nat) (h : bs.length = 64) : zeros bs = (eqI (inoOf bs) Ino.zero && ((bs.getD 1 0 == 0) && zeros (bs.drop 48))) := by
  rw [zeros_get bs (by omega), zeros_cut bs 2 2, zeros_cut bs 4 4, zeros_cut bs 8 4, zeros_cut bs 12 4, zeros_cut bs 16 4, zeros_cut bs 20 4, zeros_cut bs 24 4, zeros_cut bs 28 4, zeros_cut bs 32 4, zeros_cut bs 36 4, zeros_cut bs 40 4, zeros_cut bs 44 4]
  simp only [← leVal_zero]
  rw [inoOf_flat]
  unfold eqI Ino.zero
  rw [Bool.eq_iff_iff]
  simp
  constructor
  · rintro ⟨a, b, c, d, e, f, g, h, i, j, k, l, m, n, o⟩
    simp only [*, and_self]
  · rintro ⟨⟨a, b, c, d, e, f, g, h, i, j, k, l, m⟩, n, o⟩
    simp only [*, and_self]
theorem okI_bad (bs : List Nat) (h : bs.length = 64) : okI bs = true ↔ ¬ badI bs := by
  have hz := zeros_ino bs h
  have hk : (inoOf bs).ki = bs.getD 0 0 := rfl
  unfold okI badI rightI
  rw [hk, hz]
  generalize eqI (inoOf bs) Ino.zero = q
  generalize zeros (bs.drop 48) = z
  generalize bs.getD 0 0 = k0
  generalize bs.getD 1 0 = k1
  cases q <;> cases z <;> simp <;> omega
end Go.Proofs.Ytnnaijeapapehaa
