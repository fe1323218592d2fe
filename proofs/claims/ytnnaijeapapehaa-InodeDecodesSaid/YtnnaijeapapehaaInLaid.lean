/- gabionlaw17.laid: it answers true. -/
import Derived.Test.YtnnaijeapapehaaInEnc
import Derived.Test.YtnnaijeapapehaaInLay
namespace Go.Proofs.Ytnnaijeapapehaa
open Go.RowKit

theorem lay72 (w : World) : Calls Try.prog 17 #[.int .i64 72, .int .i64 256] w fun e w' => e = .returned (.tuple #[.agg #[.int .i64 20, .int .i64 5, .int .i64 6, .int .i64 72, .int .i64 256], .int .i64 0]) ∧ Below w.heap.size w w' := by
  have h := lay_any 72 256 w (by decide)
  have e : (if firstI 72 256 + 8 ≤ 72 then Value.tuple #[layV (bitsI 72 256 * (256 / 64)) (bitsI 72 256) (firstI 72 256) 72 256, .int .i64 0] else .tuple #[layV 0 0 0 0 0, .int .i64 28]) = .tuple #[.agg #[.int .i64 20, .int .i64 5, .int .i64 6, .int .i64 72, .int .i64 256], .int .i64 0] := rfl
  rw [e] at h
  exact h
def inoOne : Ino := ⟨1, 1, 5, 0, 0, 0, 0, 0, 0, 0, 0, 0, 0⟩
theorem inoOne_fits : inoOne.Fits := ⟨by decide, by decide, by decide, by decide, by decide, by decide, by decide, by decide, by decide, by decide, by decide, by decide, by decide⟩
theorem encOne (w : World) : Calls Try.prog 9 #[.agg #[.int .u8 1, .int .u16 1, .int .u32 5, .int .u32 0, .int .u32 0, .int .u32 0, .int .u32 0, .int .u32 0, .int .u32 0, .int .u32 0, .int .u32 0, .int .u32 0, .int .u32 0]] w (fun e w' => ∃ b c, e = .returned (.slice (some ⟨b, 0, none⟩) 64 c) ∧ w'.cell? ⟨b, 0, none⟩ = some (.int .u8 1) ∧ w'.cell? ⟨b, 2, none⟩ = some (.int .u8 1) ∧ w'.cell? ⟨b, 4, none⟩ = some (.int .u8 5) ∧ Below w.heap.size w w') := by
  refine (inEncode_any inoOne w inoOne_fits).mono fun e w' h => ?_
  obtain ⟨sv, rfl, ho, hb⟩ := h
  have hl : (encI inoOne).length = 64 := encL inoOne
  obtain ⟨g, cap, cur, e1, _, hg, _, _, _, _⟩ := ho.1.2.resolve_left (fun h => by rw [hl] at h; exact absurd h.2 (by omega))
  obtain ⟨a, c, e2, hr, _⟩ := row_of_own ho
  rw [hl] at e1 e2 hr
  rw [e1] at e2
  cases e2
  obtain ⟨b, off, e3, hc⟩ := hr.2.2 (by omega)
  cases e3
  refine ⟨_, _, by rw [e1], ?_, ?_, ?_, hb⟩
  · have := hc 0 (by omega); simpa [encI, padTo, inY, inX, inoOne, Crc.les, List.getD] using this
  · have := hc 2 (by omega); simpa [encI, padTo, inY, inX, inoOne, Crc.les, List.getD] using this
  · have := hc 4 (by omega); simpa [encI, padTo, inY, inX, inoOne, Crc.les, List.getD] using this
set_option maxRecDepth 100000 in
set_option maxHeartbeats 800000 in
theorem laidI_any (w : World) : Calls Try.prog 10 #[] w fun e w' => e = .returned (.bool true) ∧ Below w.heap.size w w' := by
  have HL := Lib.hid lay72
  have HE := Lib.hid encOne
  go_enter Try.func10, Try.ntmps10
  go_wp2_with fail
  ((with_reducible refine (HL.out _).mono ?_))
  rintro e w1 ⟨rfl, hb1⟩
  have HB1 := Lib.hid hb1
  clear hb1
  obtain ⟨W, hW⟩ : ∃ x, x = w1.alloc (.cells #[.int .i64 20, .int .i64 5, .int .i64 6, .int .i64 72, .int .i64 256] 49) := ⟨_, rfl⟩
  obtain ⟨p, hp⟩ : ∃ x, x = w1.heap.size := ⟨_, rfl⟩
  have HH : Hid (W.heap[p]? = some (.cells #[.int .i64 20, .int .i64 5, .int .i64 6, .int .i64 72, .int .i64 256] 49 (0, 0))) := Lib.hid (by rw [hW, hp]; exact heap_alloc_new _ _)
  have HB2 : Hid (Below w.heap.size w W) := Lib.hid (by rw [hW]; exact bel_alloc HB1.out _)
  go_wp2_with fail
  rw [← hW, ← hp]
  clear hW hp
  ((with_reducible refine (HE.out _).mono ?_))
  rintro e w2 ⟨b, c, rfl, c0, c2, c4, hb2⟩
  obtain ⟨z0, z1, z2, -, -, -⟩ := five_lay ((hb2.block p (Array.getElem?_eq_some_iff.1 HH.out).1).trans HH.out)
  have HB3 := Lib.hid (bel_trans HB2.out hb2)
  clear hb2
  go_wp2_with fail
  go_ret
  exact ⟨rfl, HB3.out⟩
end Go.Proofs.Ytnnaijeapapehaa
