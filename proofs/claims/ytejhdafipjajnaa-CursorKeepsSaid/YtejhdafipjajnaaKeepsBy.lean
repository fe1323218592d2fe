/- CursorKeeps' own function. -/
import Derived.Test.YtejhdafipjajnaaSets
namespace Go.Proofs.Ytejhdafipjajnaa
open Go.RowKit

theorem own_setCell {B z : Nat} {w : World} {sv v : Value} {bs : List Nat} (h : Own B w sv bs) (hz : z < B) : Own B (w.setCell ⟨z, 0, none⟩ v) sv bs := by
  refine ⟨⟨h.1.1, ?_⟩, h.2⟩
  rcases h.1.2 with h0 | ⟨g, cap, cur, e1, e2, e3, e4⟩
  · exact .inl h0
  · refine .inr ⟨g, cap, cur, e1, e2, ?_, e4⟩
    have hg := own_base h g (by rw [e1]; rfl)
    rw [Below.heap_setCell w ⟨z, 0, none⟩ v g (by show g ≠ z; omega)]; exact e3
/-- What CursorKeeps' own function leaves. -/
def KeptOne (w : World) (z : Nat) (bs : List Nat) (W : World) : Prop := ∃ sv, SetOne w z sv W ∧ Own (w.heap.size + 3) W sv bs
set_option maxHeartbeats 400000 in
theorem keepsBy (aC aP n c0 : Nat) (ac : Option Addr) (vp : Value) (w : World) (bs : List Nat) (hC : w.cell? ⟨aC, 0, none⟩ = some (.slice ac n c0)) (hP : w.cell? ⟨aP, 0, none⟩ = some vp) (hF : w.frozen? ⟨aP, 0, none⟩ = false)
    (hn : n = bs.length) (hl : bs.length ≤ 100000) :
    ByOk 27 #[.pointer (some ⟨aC, 0, none⟩), .pointer (some ⟨aP, 0, none⟩)] bs w (KeptOne w aP bs) := by
  intro W pr pg a c hrd hb hp3
  have hp : w.heap.size ≤ pr := by omega
  have ltC : aC < w.heap.size := World.block_lt_of_cell? w ⟨aC, 0, none⟩ hC
  have ltP : aP < w.heap.size := World.block_lt_of_cell? w ⟨aP, 0, none⟩ hP
  have hC1 := hb.cell (p := ⟨aC, 0, none⟩) ltC
  rw [hC] at hC1
  have HRD := Lib.hid hrd
  have HB := Lib.hid hb
  have HN := Lib.hid hn
  clear hrd hb hC hn
  show Calls Try.prog _ #[.pointer (some ⟨pr, 0, none⟩), .pointer (some ⟨aC, 0, none⟩), .pointer (some ⟨aP, 0, none⟩)] W _
  go_enter Try.func27, Try.ntmps27
  go_wp2_with fail
  refine (rRaw_ok n HRD.out (by rw [HN.out]; exact Nat.le_refl _) hl).mono ?_
  intro e w1 h1
  obtain ⟨a3, w2, hw2, hrd2, hb2, sv2, he2, ho2⟩ := h1
  obtain ⟨a2, sv, rfl, hrd1, hb1, hi1⟩ := raw_keeps ⟨a3, w2, hw2, hrd2, hb2, sv2, he2, ho2⟩ HB.out hp
  have ho : Own (w.heap.size + 3) w1 sv bs := by
    simp only [Ending.returned.injEq] at he2
    subst he2
    rw [HN.out, List.take_length] at ho2
    refine own_mono ho2 ?_
    rw [hw2]
    have hlt : pr < W.heap.size := World.block_lt_of_cell? W ⟨pr, 0, none⟩ (rd_cells HRD.out).1
    simp [World.setCell]
    omega
  have hP1 := hb1.cell (p := ⟨aP, 0, none⟩) ltP
  have hF1 := hb1.frozen (p := ⟨aP, 0, none⟩) ltP
  rw [hP] at hP1
  rw [hF] at hF1
  obtain ⟨a5, c5, hsv, _⟩ := row_of_own ho
  subst hsv
  clear hw2 hrd2 hb2 he2 ho2
  go_wp2
  go_end0
  exact ⟨rfl, inner_set hi1 ltP _, _, ⟨w1, hb1, rfl⟩, own_setCell ho (by omega)⟩

end Go.Proofs.Ytejhdafipjajnaa
