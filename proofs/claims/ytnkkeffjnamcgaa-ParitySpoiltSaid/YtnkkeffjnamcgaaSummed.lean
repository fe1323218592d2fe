/- gabionlaw09.summed. -/
import Derived.Test.YtnkkeffjnamcgaaParts
import Derived.Test.YtnkkeffjnamcgaaRBlank
namespace Go.Proofs.Ytnkkeffjnamcgaa
open Go.RowKit

theorem summed_start {w W1 : World} (e : W1 = ((w.alloc (.cells #[.int .u8 1, .int .u8 2] 5)).alloc (.cells #[.int .u8 1] 5)).alloc (.cells #[.slice (some ⟨w.heap.size, 0, none⟩) 2 2, .slice (some ⟨w.heap.size + 1, 0, none⟩) 1 1] 37)) :
    Below w.heap.size w W1 ∧ PartsL W1 (some ⟨w.heap.size + 1 + 1, 0, none⟩) [⟨some ⟨w.heap.size, 0, none⟩, 2, 2, [1, 2]⟩, ⟨some ⟨w.heap.size + 1, 0, none⟩, 1, 1, [1]⟩] := by
  subst e
  have h1 := part_lit2 w 1 2 (by omega) (by omega)
  have h2 := part_lit1 (w.alloc (.cells #[.int .u8 1, .int .u8 2] 5)) 1 (by omega)
  have h3 := cells_two ((w.alloc (.cells #[.int .u8 1, .int .u8 2] 5)).alloc (.cells #[.int .u8 1] 5)) ⟨some ⟨w.heap.size, 0, none⟩, 2, 2, [1, 2]⟩ ⟨some ⟨w.heap.size + 1, 0, none⟩, 1, 1, [1]⟩
  have z1 : (w.alloc (.cells #[.int .u8 1, .int .u8 2] 5)).heap.size = w.heap.size + 1 := by simp
  have z2 : ((w.alloc (.cells #[.int .u8 1, .int .u8 2] 5)).alloc (.cells #[.int .u8 1] 5)).heap.size = w.heap.size + 1 + 1 := by simp
  rw [z1] at h2
  rw [z2] at h3
  refine ⟨bel_alloc (bel_alloc (bel_alloc (Below.refl _ w) _) _) _, partsL_of h3 fun p hp => ?_⟩
  simp only [List.mem_cons, List.not_mem_nil, or_false] at hp
  rcases hp with rfl | rfl
  · exact (h1.step (bel_alloc (Below.refl _ _) _)).step (bel_alloc (Below.refl _ _) _)
  · exact h2.step (bel_alloc (Below.refl _ _) _)

set_option maxRecDepth 100000 in
set_option maxHeartbeats 1600000 in
theorem summed_any (w : World) : Calls Try.prog 8 #[] w fun e w' => e = .returned (.bool true) ∧ Below w.heap.size w w' := by
  go_enter Try.func8, Try.ntmps8
  go_wp2_with fail
  obtain ⟨W1, hW1⟩ : ∃ W1, W1 = ((w.alloc (.cells #[.int .u8 1, .int .u8 2] 5)).alloc (.cells #[.int .u8 1] 5)).alloc (.cells #[.slice (some ⟨w.heap.size, 0, none⟩) 2 2, .slice (some ⟨w.heap.size + 1, 0, none⟩) 1 1] 37) := ⟨_, rfl⟩
  obtain ⟨hb1, hp1⟩ := summed_start hW1
  rw [← hW1]
  clear hW1
  ((with_reducible refine (xorL_any _ _ _ 2 _ rfl hp1 (by omega) (fun p hp => by simp only [List.mem_cons, List.not_mem_nil, or_false] at hp; rcases hp with rfl | rfl <;> simp)).mono ?_))
  intro e w2 hr
  obtain ⟨⟨pa, pn, pc, pl⟩, rfl, hl, hn, hok, hb2⟩ := part_ret hr
  simp only at hl hn
  have hx : xorL [[1, 2], [1]] = [0, 2] := by decide
  have hl' : pl = [0, 2] := hl.trans hx
  subst hl'
  obtain rfl : pn = 2 := hn.trans (by rw [show (List.map PS.l [(⟨some ⟨w.heap.size, 0, none⟩, 2, 2, [1, 2]⟩ : PS), ⟨some ⟨w.heap.size + 1, 0, none⟩, 1, 1, [1]⟩]) = [[1, 2], [1]] from rfl, hx]; rfl)
  have HB := Lib.hid (bel_trans hb1 hb2)
  have HR := Lib.hid (row_alloc hok.1 (.cells #[.int .u8 0, .int .u8 2] 5))
  have HL2 := Lib.hid (part_lit2 w2 0 2 (by omega) (by omega)).1
  clear hr hl hn hok hb1 hb2 hp1 hx
  go_wp2_with fail
  ((with_reducible refine (sameB_any pa 2 pc _ 2 2 [0, 2] [0, 2] _ HR.out HL2.out).mono ?_))
  rintro e w3 ⟨rfl, rfl⟩
  go_wp2
  go_ret
  exact ⟨rfl, bel_alloc HB.out _⟩

end Go.Proofs.Ytnkkeffjnamcgaa
