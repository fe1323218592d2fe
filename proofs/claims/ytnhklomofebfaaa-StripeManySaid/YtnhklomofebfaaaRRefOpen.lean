/- The contract of gabionref02.Of. -/
import Derived.Test.YtnhklomofebfaaaSumOf
import Derived.Test.YtnhklomofebfaaaRSeal
import Derived.Test.YtnhklomofebfaaaPad
import Derived.Deep.DeepCutAuto
import Derived.Test.YtnhklomofebfaaaReaderMore
import Derived.Test.YtnhklomofebfaaaROpen
namespace Go.Proofs.Ytnhklomofebfaaa
open Go.RowKit

theorem step_odd' {k m S : Nat} (hk : k < 8) (hm : m < 4294967296) (hs : Crc.stps (8 - k) m = S) (h1 : m % 2 = 1) :
    Crc.stps (8 - (k + 1)) (m / 2 ^^^ 2197175160) = S ∧ m / 2 ^^^ 2197175160 < 4294967296 := by
  have h2 : Crc.stp m = m / 2 ^^^ 2197175160 := by unfold Crc.stp; rw [if_pos h1]
  rw [show 8 - k = (8 - (k + 1)) + 1 by omega] at hs
  exact ⟨by rw [← h2]; exact hs, by rw [← h2]; exact Crc.stp_lt hm⟩
theorem step_even' {k m S : Nat} (hk : k < 8) (hs : Crc.stps (8 - k) m = S) (h1 : ¬ m % 2 = 1) (hm : m < 4294967296) :
    Crc.stps (8 - (k + 1)) (m / 2) = S ∧ m / 2 < 4294967296 := by
  have h2 : Crc.stp m = m / 2 := by unfold Crc.stp; rw [if_neg h1]
  rw [show 8 - k = (8 - (k + 1)) + 1 by omega] at hs
  exact ⟨by rw [← h2]; exact hs, by omega⟩

end Go.Proofs.Ytnhklomofebfaaa

namespace Go.Proofs.Ytnhklomofebfaaa
open Go.RowKit

def RH.wide (h : RH) : Array Value := #[.int .i64 (h.ki : Int), .int .i64 (h.ep : Int), .int .i64 (h.ba : Int), .int .i64 (h.ix : Int), .int .i64 (h.ct : Int), .int .i64 (h.bl : Int), .int .i64 (h.mo : Int)]
/-- A header of wide numbers, in memory. -/
def WideAt (h : RH) (B : Nat) (w : World) : Prop := w.cell? ⟨B, 0, none⟩ = some (.int .i64 (h.ki : Int)) ∧ w.cell? ⟨B, 1, none⟩ = some (.int .i64 (h.ep : Int)) ∧ w.cell? ⟨B, 2, none⟩ = some (.int .i64 (h.ba : Int)) ∧ w.cell? ⟨B, 3, none⟩ = some (.int .i64 (h.ix : Int)) ∧ w.cell? ⟨B, 4, none⟩ = some (.int .i64 (h.ct : Int)) ∧ w.cell? ⟨B, 5, none⟩ = some (.int .i64 (h.bl : Int)) ∧ w.cell? ⟨B, 6, none⟩ = some (.int .i64 (h.mo : Int))
theorem WideAt.below {h : RH} {B B' : Nat} {w w' : World} (hh : WideAt h B w) (hb : Below B' w w') (hlt : B < B') : WideAt h B w' := by
  have hc : ∀ k, w'.cell? ⟨B, k, none⟩ = w.cell? ⟨B, k, none⟩ := fun k => hb.cell (p := ⟨B, k, none⟩) hlt
  unfold WideAt
  simp only [hc]
  exact hh
/-- The list that gabionref05.Seal lays ahead of the sum. -/
def refHead (h : RH) : List Nat := ((((((([] ++ Crc.les 2 22356) ++ [h.ki, 0]) ++ Crc.les 4 h.ep) ++ Crc.les 4 h.ba) ++ Crc.les 2 h.ix) ++ Crc.les 2 h.ct) ++ Crc.les 4 h.bl) ++ Crc.les 4 h.mo
theorem refHead_eq (h : RH) : refHead h = headB h := by simp [refHead, headB, List.append_assoc]

end Go.Proofs.Ytnhklomofebfaaa

namespace Go.Proofs.Ytnhklomofebfaaa
open Go.RowKit

theorem num_next (l : List Nat) (k : Nat) (hk : k < l.length) : leVal (l.take (k + 1)) = leVal (l.take k) + l.getD k 0 * 256 ^ k := by
  rw [take_snoc_getD l k hk, leVal_snoc, List.length_take, Nat.min_eq_left (by omega)]
end Go.Proofs.Ytnhklomofebfaaa

namespace Go.Proofs.Ytnhklomofebfaaa
open Go.RowKit

end Go.Proofs.Ytnhklomofebfaaa
