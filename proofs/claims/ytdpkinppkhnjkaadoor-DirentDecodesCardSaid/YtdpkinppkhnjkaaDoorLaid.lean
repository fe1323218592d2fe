/- gabionlaw01.laid: it answers true, and writes nothing that was there. -/
import Derived.Test.YtdpkinppkhnjkaaDoorWriterText
namespace Go.Proofs.YtdpkinppkhnjkaaDoor
open Go.RowKit

theorem rowK_new {K : IntKind} {M n : Nat} (w : World) (t : TypeId) (hn : n < M) : RowK K M (w.alloc (.cells #[.int K (n : Int)] t)) (some ⟨w.heap.size, 0, none⟩) 1 [n] :=
  ⟨rfl, fun y hy => by simp at hy; omega, fun _ => ⟨_, 0, rfl, fun i hi => by obtain rfl : i = 0 := by omega
                                                                              exact cell_new1 _ _ _⟩⟩
theorem rowK_new_at {K : IntKind} {M n b : Nat} {w : World} (t : TypeId) (hn : n < M) (hb : w.heap.size = b) : RowK K M (w.alloc (.cells #[.int K (n : Int)] t)) (some ⟨b, 0, none⟩) 1 [n] := by
  subst hb; exact rowK_new w t hn
theorem row_lit5 (w : World) : Row (w.alloc (.cells #[.int .u8 1, .int .u8 2, .int .u8 2, .int .u8 97, .int .u8 98] 5)) (some ⟨w.heap.size, 0, none⟩) 5 [1, 2, 2, 97, 98] := by
  refine ⟨rfl, by decide, fun _ => ⟨_, 0, rfl, fun i hi => ?_⟩⟩
  rw [World.cell?_alloc_mark]
  rcases (show i = 0 ∨ i = 1 ∨ i = 2 ∨ i = 3 ∨ i = 4 from by omega) with rfl | rfl | rfl | rfl | rfl <;> rfl
end Go.Proofs.YtdpkinppkhnjkaaDoor
