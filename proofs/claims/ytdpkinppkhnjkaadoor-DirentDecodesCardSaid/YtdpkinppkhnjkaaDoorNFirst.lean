/- names.first. -/
import Derived.Test.YtdpkinppkhnjkaaDoorNBrackets
namespace Go.Proofs.YtdpkinppkhnjkaaDoor
open Go.RowKit

theorem part_new {w w1 : World} {x y z : Value} {t : TypeId} (hb : Below (w.alloc (.cells #[x, y, z] t)).heap.size (w.alloc (.cells #[x, y, z] t)) w1) : w1.heap[w.heap.size]? = some (.cells #[x, y, z] t (0, 0)) := by
  rw [hb.block w.heap.size (by simp)]
  show (w.heap.push _)[w.heap.size]? = _
  simp
theorem sub_drop1 {b off n c : Nat} {ns : List Nat} (hk : 1 ≤ n) : Sub (some ⟨b, off, none⟩) n c ns (.slice (some (cutA b off c 1)) (n - 1) (c - 1)) (ns.drop 1) := sub_cut hk
theorem sub_after {b off n c : Nat} {ns r : List Nat} {v : Value} (hk : 1 ≤ n) (h : Sub (some (cutA b off c 1)) (n - 1) (c - 1) (ns.drop 1) v r) : Sub (some ⟨b, off, none⟩) n c ns v r := fun w hw => h w (row32_cut hw hk)
end Go.Proofs.YtdpkinppkhnjkaaDoor
