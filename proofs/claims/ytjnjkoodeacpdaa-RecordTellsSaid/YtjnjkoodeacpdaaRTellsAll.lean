/- RecordTells: every header. -/
import Derived.Test.YtjnjkoodeacpdaaRTellsData
import Derived.Test.YtjnjkoodeacpdaaRFrame
namespace Go.Proofs.Ytjnjkoodeacpdaa
open Go.RowKit

set_option maxRecDepth 100000 in
set_option maxHeartbeats 1600000 in
theorem recordTells_none (h : RH) (hk : h.ki < 1 ∨ 6 < h.ki) (w : World) :
    Calls Try.prog 13 #[.agg h.cells] w fun e' w' => e' = .returned (.bool true) ∧ Below w.heap.size w w' := by
  have HT : Hid (∀ W, Calls Try.prog 49 #[.agg #[.int .u8 (h.ki : Int), .int .u32 (h.ep : Int), .int .u32 (h.ba : Int), .int .u16 (h.ix : Int), .int .u16 (h.ct : Int), .int .u32 (h.bl : Int), .int .u32 (h.mo : Int)]] W fun e' w' => e' = .returned .nilIface ∧ Below W.heap.size W w') := Lib.hid fun W => tell_none h hk W
  have HE : Hid (∀ W, Calls Try.prog 50 #[.nilIface] W fun e' w' => e' = .returned (.tuple #[.int .u32 0, .int .i64 62]) ∧ Below W.heap.size W w') := Lib.hid fun W => Epoch_of _ RH.zero false (fun w0 => said_nil w0) W
  have hh0 := hdr_new h w
  unfold RH.cells
  go_enter Try.func13, Try.ntmps13
  go_wp2_with fail
  obtain ⟨W1, hW1⟩ : ∃ W1, W1 = w.alloc (.cells #[.int .u8 (h.ki : Int), .int .u32 (h.ep : Int), .int .u32 (h.ba : Int), .int .u16 (h.ix : Int), .int .u16 (h.ct : Int), .int .u32 (h.bl : Int), .int .u32 (h.mo : Int)] 86) := ⟨_, rfl⟩
  have hb1 : Below w.heap.size w W1 := by rw [hW1]; exact bel_alloc (Below.refl _ w) _
  have hz1 : w.heap.size < W1.heap.size := by rw [hW1]; simp
  rw [← hW1] at hh0 ⊢
  clear hW1
  refine (sealed_any W1).mono ?_
  rintro e' w2 ⟨rfl, hb2⟩
  have hh2 := hh0.below hb2 hz1
  have hb02 := bel_trans hb1 hb2
  have hz2 : w.heap.size < w2.heap.size := by have := hb2.size; omega
  clear hb1 hz1 hb2 hh0
  obtain ⟨c0, c1, c2, c3, c4, c5, c6⟩ := hh2
  go_wp2_with fail
  refine (HT.out w2).mono ?_
  rintro e' w3 ⟨rfl, hb3⟩
  obtain ⟨c0, c1, c2, c3, c4, c5, c6⟩ := HdrAt.below (h := h) (B := w.heap.size) ⟨c0, c1, c2, c3, c4, c5, c6⟩ hb3 hz2
  have hb03 := bel_trans hb02 hb3
  clear hb02 hb3 hz2
  rcases hk with hk | hk
  · have d1 : decide ((h.ki : Int) < 1) = true := decide_eq_true (by omega)
    clear hk
    go_wp2_with fail
    refine (HE.out w3).mono ?_
    rintro e' w4 ⟨rfl, hb4⟩
    have hb04 := bel_trans hb03 hb4
    clear hb03 hb4 c0 c1 c2 c3 c4 c5 c6
    go_wp2
    go_ret
    exact ⟨rfl, hb04⟩
  · have d1 : decide ((h.ki : Int) < 1) = false := decide_eq_false (by omega)
    have d2 : decide ((6 : Int) < (h.ki : Int)) = true := decide_eq_true (by omega)
    clear hk
    go_wp2_with fail
    refine (HE.out w3).mono ?_
    rintro e' w4 ⟨rfl, hb4⟩
    have hb04 := bel_trans hb03 hb4
    clear hb03 hb4 c0 c1 c2 c3 c4 c5 c6
    go_wp2
    go_ret
    exact ⟨rfl, hb04⟩
theorem recordTells_walk (h : RH) (w : World) (hf : h.Fits) :
    Calls Try.prog 13 #[.agg h.cells] w fun e' w' => e' = .returned (.bool true) ∧ Below w.heap.size w w' := by
  by_cases hk : h.ki < 1 ∨ 6 < h.ki
  · exact recordTells_none h hk w
  · obtain ⟨k, e, b, i, c, l, m⟩ := h
    obtain ⟨_, _, _, hi, hc, _, _⟩ := hf
    simp only at hk hi hc
    rcases (by omega : k = 1 ∨ k = 2 ∨ k = 3 ∨ k = 4 ∨ k = 5 ∨ k = 6) with rfl | rfl | rfl | rfl | rfl | rfl
    · exact recordTells_table e b i c l m hi hc w
    · exact recordTells_member e b i c l m w
    · exact recordTells_point e b i c l m hi hc w
    · exact recordTells_data e b i c l m hi hc w
    · exact recordTells_parity e b i c l m hi hc w
    · exact recordTells_fill e b i c l m w

end Go.Proofs.Ytjnjkoodeacpdaa
