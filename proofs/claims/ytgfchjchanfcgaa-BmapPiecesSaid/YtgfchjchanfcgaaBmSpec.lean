/- Plain facts on pieces of a file's bytes. -/
import Derived.Test.YtgfchjchanfcgaaBase
namespace Go.Proofs.Ytgfchjchanfcgaa
open Go.RowKit

/-- The pieces of n bytes from one on, with so many rounds at most. -/
def pcs (s : Nat) : Nat → Nat → Nat → List (Nat × Nat × Nat)
  | 0, _, _ => []
  | f + 1, at_, n => if n = 0 then [] else (at_ / s, at_ % s, min n (s - at_ % s)) :: pcs s f (at_ + min n (s - at_ % s)) (n - min n (s - at_ % s))
theorem pcs_zero (s f at_ : Nat) : pcs s f at_ 0 = [] := by
  cases f with
  | zero => rfl
  | succ f => unfold pcs; rw [if_pos rfl]
theorem pcs_step (s f at_ n : Nat) (h : n ≠ 0) : pcs s (f + 1) at_ n = (at_ / s, at_ % s, min n (s - at_ % s)) :: pcs s f (at_ + min n (s - at_ % s)) (n - min n (s - at_ % s)) := by
  rw [pcs, if_neg h]
theorem pcs_len (s f : Nat) : ∀ at_ n, (pcs s f at_ n).length ≤ f := by
  induction f with
  | zero => intro a n; simp [pcs]
  | succ f ih =>
    intro a n
    by_cases h : n = 0
    · subst h; rw [pcs_zero]; simp
    · rw [pcs_step s f a n h, List.length_cons]
      have := ih (a + min n (s - a % s)) (n - min n (s - a % s))
      omega
end Go.Proofs.Ytgfchjchanfcgaa
