/- gabionref01's Text. -/
import Derived.Test.YtdpkinppkhnjkaaDoorPad
import Derived.Lib.AppendStr
namespace Go.Proofs.YtdpkinppkhnjkaaDoor
open Go.RowKit

theorem strCells_eq (s : ByteArray) : Lib.strCells s = (sbytes s).map u8v := by
  unfold Lib.strCells sbytes u8v
  simp
theorem own_lit1 (w : World) (x : Int) : (w.alloc (.cells #[.int .u8 x] 5)).ownsRow w.heap.size 5 1 (.slice (some ⟨w.heap.size, 0, none⟩) 1 1) 1 [.int .u8 x] :=
  World.ownsRow_lit w #[.int .u8 x] 1 (Nat.le_refl _) (by unfold maxLen; omega) rfl
theorem own_text {w w' : World} {v : Value} {s : ByteArray} {n : Nat} (h : w'.ownsRow w.heap.size 5 1 v (1 + s.size) (Value.int .u8 (n : Int) :: Lib.strCells s)) (hn : n < 256) : Own w.heap.size w' v (n :: sbytes s) := by
  refine ⟨?_, fun x hx => ?_⟩
  · rw [strCells_eq] at h
    rw [List.length_cons, sbytes_len, Nat.add_comm]
    exact h
  · rw [List.mem_cons] at hx
    rcases hx with rfl | hx
    · exact hn
    · exact sbytes_lt s x hx
theorem bel_text {w w' : World} {o : Obj} (hg : (w.alloc o).grownBy w' (Value.slice (some ⟨w.heap.size, 0, none⟩) 1 1).ownBlock) : Below w.heap.size w w' :=
  ((Below.refl _ w).alloc (Nat.le_refl _) o).grown hg (by simp) (fun k hk => by cases hk; exact Nat.le_refl _)
end Go.Proofs.YtdpkinppkhnjkaaDoor
