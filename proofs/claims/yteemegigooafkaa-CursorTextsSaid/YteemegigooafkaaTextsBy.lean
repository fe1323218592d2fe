/- CursorTexts' own function. -/
import Derived.Test.YteemegigooafkaaReaderText
import Derived.Test.YteemegigooafkaaPadsBy
namespace Go.Proofs.Yteemegigooafkaa
open Go.RowKit

/-- Two variables of the caller's are set. -/
def SetTwo (w : World) (y : Nat) (u : Value) (z : Nat) (v : Value) (W : World) : Prop := ∃ W2, Below w.heap.size w W2 ∧ W = (W2.setCell ⟨y, 0, none⟩ u).setCell ⟨z, 0, none⟩ v
theorem text_keeps {w W W1 : World} {pr pg c k : Nat} {bs : List Nat} {e : Ending} (h : TextRet W pr pg c bs k e W1) (hb : Below w.heap.size w W) (hp : w.heap.size ≤ pr) :
    ∃ a2, e = .returned (.string (strOf ((bs.drop 1).take k))) ∧ RD W1 pr pg a2 (c - 1 - k) ((bs.drop 1).drop k) ∧ Below w.heap.size w W1 ∧ Inner w.heap.size W pr W1 := by
  obtain ⟨a2, rfl, hrd, hs, h1, h2, h3, h4⟩ := h
  refine ⟨a2, rfl, hrd, hb.trans ⟨h1, h2, h3, by omega, fun j hj => h4 j (by omega)⟩, by omega, fun j _ _ hj => h4 j hj⟩
theorem num_keeps {w W W0 W1 : World} {pr pg c k : Nat} {bs : List Nat} {v : Value} {e : Ending} (h : NumRet W pr pg c bs k v e W1) (hb : Below w.heap.size w W) (hp : w.heap.size ≤ pr) (hi : Inner w.heap.size W0 pr W) :
    e = .returned v ∧ Below w.heap.size w W1 ∧ Inner w.heap.size W0 pr W1 := by
  obtain ⟨a2, rfl, rfl, hrd⟩ := h
  refine ⟨rfl, hb.setCell (p := ⟨pr, 0, none⟩) hp _, by simp [World.setCell]; exact hi.1, fun k h1 h2 h3 => ?_⟩
  rw [Below.heap_setCell _ _ _ _ h3]
  exact hi.2 k h1 h2 h3
set_option maxHeartbeats 400000 in
theorem textsBy (aG aM k m : Nat) (vg vm : Value) (w : World) (bs : List Nat) (hG : w.cell? ⟨aG, 0, none⟩ = some vg) (hM : w.cell? ⟨aM, 0, none⟩ = some vm) (hGF : w.frozen? ⟨aG, 0, none⟩ = false) (hMF : w.frozen? ⟨aM, 0, none⟩ = false) (hne : aM ≠ aG)
    (hk : bs.getD 0 0 = k) (hn : 1 + k < bs.length) (hm : ((bs.drop 1).drop k).getD 0 0 = m) :
    ByOk 43 #[.pointer (some ⟨aG, 0, none⟩), .pointer (some ⟨aM, 0, none⟩)] bs w (SetTwo w aG (.string (strOf ((bs.drop 1).take k))) aM (.int .u8 (m : Int))) := by
  intro W pr pg a c hrd hb hp
  have ltG : aG < w.heap.size := World.block_lt_of_cell? w ⟨aG, 0, none⟩ hG
  have ltM : aM < w.heap.size := World.block_lt_of_cell? w ⟨aM, 0, none⟩ hM
  have HRD := Lib.hid hrd
  have HB := Lib.hid hb
  have HK := Lib.hid hk
  have HM := Lib.hid hm
  clear hrd hb hk hm
  show Calls Try.prog _ #[.pointer (some ⟨pr, 0, none⟩), .pointer (some ⟨aG, 0, none⟩), .pointer (some ⟨aM, 0, none⟩)] W _
  go_enter Try.func43, Try.ntmps43
  go_wp2_with fail
  refine (rText_ok k HRD.out (by omega) HK.out (by omega)).mono ?_
  intro e w1 h1
  obtain ⟨a2, rfl, hrd1, hb1, hi1⟩ := text_keeps h1 HB.out hp
  clear h1
  obtain ⟨s, hs⟩ : ∃ s, s = strOf ((bs.drop 1).take k) := ⟨_, rfl⟩
  rw [← hs]
  have HS := Lib.hid hs
  clear hs
  go_wp2_with fail
  refine (rU8_ok hrd1 (by rw [List.length_drop, List.length_drop]; omega)).mono ?_
  intro e w2 h2
  rw [HM.out] at h2
  obtain ⟨rfl, hb2, hi2⟩ := num_keeps h2 hb1 hp hi1
  have hG2 := hb2.cell (p := ⟨aG, 0, none⟩) ltG
  have hGF2 := hb2.frozen (p := ⟨aG, 0, none⟩) ltG
  have hM2 := hb2.cell (p := ⟨aM, 0, none⟩) ltM
  have hMF2 := hb2.frozen (p := ⟨aM, 0, none⟩) ltM
  rw [hG] at hG2
  rw [hGF] at hGF2
  rw [hM] at hM2
  rw [hMF] at hMF2
  clear h2
  go_wp2
  go_end0
  exact ⟨rfl, inner_set (inner_set hi2 ltG _) ltM _, w2, hb2, by rw [HS.out]⟩

end Go.Proofs.Yteemegigooafkaa
