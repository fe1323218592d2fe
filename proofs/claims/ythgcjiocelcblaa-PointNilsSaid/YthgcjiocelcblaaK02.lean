/- The writer's Pad; gabionref01's Pad, Text; gabionref01.IsZero. -/
import Derived.Test.YthgcjiocelcblaaK01
import Derived.Test.YthgcjiocelcblaaK00
namespace Go.Proofs.Ythgcjiocelcblaa
open Go.RowKit

/-- Noughts up to a length. -/
def padTo (bs : List Nat) (n : Int) : List Nat := bs ++ List.replicate (n.toNat - bs.length) 0
theorem padTo_le {bs : List Nat} {n : Int} (h : n ≤ (bs.length : Int)) : padTo bs n = bs := by
  unfold padTo
  rw [show n.toNat - bs.length = 0 by omega]; simp

set_option maxRecDepth 100000 in
set_option maxHeartbeats 400000 in
theorem wPad_any (pw B : Nat) (sv : Value) (bs : List Nat) (w : World) (hw : WR B w pw sv bs) (hB : B ≤ w.heap.size) (n : Int) (hn0 : -9223372036854775808 ≤ n) (hn : n ≤ 100000) (hlen : bs.length ≤ 1000000) :
    Calls Try.prog 25 #[.pointer (some ⟨pw, 0, none⟩), .int .i64 n] w (WRet w pw B sv (padTo bs n)) := by
  obtain ⟨i0, hi, hz0, hz1, hz2⟩ := info_parts info_u8
  obtain ⟨a, c, hsv, hr, hnil, _⟩ := wr_shape hw
  subst hsv
  have hcell := wr_cell hw
  by_cases hle : n ≤ (bs.length : Int)
  · have HP := Lib.hid (padTo_le hle)
    rw [HP.out]
    go_enter Try.func25, Try.ntmps25
    go_wp2
    go_ret
    exact ⟨rfl, _, hw, Moved.refl _ _ _⟩
  · obtain ⟨m, hm⟩ : ∃ m : Nat, n = (bs.length : Int) + (m : Int) := ⟨(n - bs.length).toNat, by omega⟩
    have HM : Hid (padTo bs n = bs ++ List.replicate m 0) := by
      unfold Hid padTo
      rw [hm, show ((bs.length : Int) + (m : Int)).toNat - bs.length = m by omega]
    rw [HM.out]
    subst hm
    have hm1 : m ≤ 100000 := by omega
    go_enter Try.func25, Try.ntmps25
    go_wp2_with (refine wpList_make_full w rfl _ _ 52 rfl w.heap.size 5 i0 (.int .u8 0) 1 Try.underlying52 hi hz0 hz1 .i64 .i64 _ _ m rfl rfl ?c4 ?c5 ?c1 ?c2 ?c3 ?_)
    case c1 => omega
    case c2 => unfold maxLen; omega
    case c4 => first | rfl | omega
    case c5 => first | rfl | omega
    intro w1 hown hg
    have hb1 : Below w.heap.size w w1 := (Below.refl _ w).grown hg (Nat.le_refl _) (fun k hk => by cases hk)
    have hz := own_zeros hown
    obtain ⟨a2, c2, hsv2, hr2, hm2⟩ := row_of_own hz
    rw [List.length_replicate] at hsv2 hr2
    simp only [Value.slice.injEq] at hsv2
    obtain ⟨rfl, _, rfl⟩ := hsv2
    have hw1 := wr_keep hw hb1
    have hBs := Nat.le_trans hB hb1.size
    clear hown hz
    go_wp2_with fail
    refine (raw_any pw B _ bs _ hw1 hBs _ _ _ (List.replicate _ 0) hr2 (fun h => by cases h) (by omega)).mono ?_
    rintro e w2 ⟨rfl, sv2, hw2, hm2⟩
    go_wp2
    go_ret
    exact ⟨rfl, sv2, hw2, (moved_of_below hb1 pw _).trans hm2⟩

theorem own_up {B : Nat} {w w' : World} {ov : Value} {l : List Nat} (h : Own B w ov l) (hb : Below w.heap.size w w') : Own B w' ov l := by
  refine ⟨⟨h.1.1, ?_⟩, h.2⟩
  rcases h.1.2 with h0 | ⟨g, cap, cur, e1, e2, e3, e4⟩
  · exact .inl h0
  · refine .inr ⟨g, cap, cur, e1, e2, ?_, e4⟩
    have hg := own_base h g (by rw [e1]; rfl)
    rw [hb.block g hg.2]; exact e3
theorem own_nocap {B : Nat} {w : World} {bs : List Nat} {a : Option Addr} {n c : Nat} (h : Own B w (.slice a n c) bs) : a = none → c = 0 := by
  intro ha
  rcases h.1.2 with ⟨e, _⟩ | ⟨g, cap, cur, e, _⟩
  · simp only [Value.slice.injEq] at e
    exact e.2.2
  · rw [ha] at e
    simp only [Value.slice.injEq] at e
    cases e.1
theorem retOwn_len {w w' : World} {bs : List Nat} {e : Ending} (h : RetOwn w bs e w') : ∃ a c, e = .returned (.slice a bs.length c) ∧ Row w' a bs.length bs ∧ (a = none → c = 0) ∧ Own w.heap.size w' (.slice a bs.length c) bs ∧ Below w.heap.size w w' := by
  obtain ⟨sv, rfl, ho, hb⟩ := h
  obtain ⟨a, c, hsv, hr, _⟩ := row_of_own ho
  subst hsv
  exact ⟨a, c, rfl, hr, own_nocap ho, ho, hb⟩

end Go.Proofs.Ythgcjiocelcblaa
