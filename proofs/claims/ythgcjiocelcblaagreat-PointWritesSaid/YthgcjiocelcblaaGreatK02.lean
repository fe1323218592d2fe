/- The writer's Pad; gabionref01's Pad, Text; gabionref01.IsZero. -/
import Derived.Test.YthgcjiocelcblaaGreatK01
import Derived.Test.YthgcjiocelcblaaGreatK00
namespace Go.Proofs.YthgcjiocelcblaaGreat
open Go.RowKit

/-- Noughts up to a length. -/
def padTo (bs : List Nat) (n : Int) : List Nat := bs ++ List.replicate (n.toNat - bs.length) 0
theorem padTo_le {bs : List Nat} {n : Int} (h : n ≤ (bs.length : Int)) : padTo bs n = bs := by
  unfold padTo
  rw [show n.toNat - bs.length = 0 by omega]; simp

set_option maxRecDepth 100000 in
set_option maxHeartbeats 400000 in
theorem wPad_any (pw B : Nat) (sv : Value) (bs : List Nat) (w : World) (hw : WR B w pw sv bs) (hB : B ≤ w.heap.size) (n : Int) (hn0 : -9223372036854775808 ≤ n) (hn : n ≤ 100000) (hlen : bs.length ≤ 1000000) :
    Calls Tryz.prog 52 #[.pointer (some ⟨pw, 0, none⟩), .int .i64 n] w (WRet w pw B sv (padTo bs n)) := by
  obtain ⟨i0, hi, hz0, hz1, hz2⟩ := info_parts info_u8
  obtain ⟨a, c, hsv, hr, hnil, _⟩ := wr_shape hw
  subst hsv
  have hcell := wr_cell hw
  by_cases hle : n ≤ (bs.length : Int)
  · have HP := Lib.hid (padTo_le hle)
    rw [HP.out]
    go_enter Tryz.func52, Tryz.ntmps52
    go_wp2
    go_ret
    exact ⟨rfl, _, hw, Moved.refl _ _ _⟩
  · obtain ⟨m, hm⟩ : ∃ m : Nat, n = (bs.length : Int) + (m : Int) := ⟨(n - bs.length).toNat, by omega⟩
    have HM : Hid (padTo bs n = bs ++ List.replicate m 0) := by
      unfold Hid padTo
      rw [hm, show ((bs.length : Int) + (m : Int)).toNat - bs.length = m by omega]
    rw [HM.out]
    subst hm
    have hm1 : m ≤ 100000 := by omega
    go_enter Tryz.func52, Tryz.ntmps52
    go_wp2_with (refine wpList_make_full w rfl _ _ 28 rfl w.heap.size 5 i0 (.int .u8 0) 1 Tryz.underlying28 hi hz0 hz1 .i64 .i64 _ _ m rfl rfl ?c4 ?c5 ?c1 ?c2 ?c3 ?_)
    case c1 => omega
    case c2 => unfold maxLen; omega
    case c4 => first | rfl | omega
    case c5 => first | rfl | omega
    intro w1 hown hg
    have hb1 : Below w.heap.size w w1 := (Below.refl _ w).grown hg (Nat.le_refl _) (fun k hk => by cases hk)
    have hz := own_zeros hown
    obtain ⟨a2, c2, hsv2, hr2, hm2⟩ := row_of_own hz
    rw [List.length_replicate] at hsv2 hr2
    simp only [Value.slice.injEq] at hsv2
    obtain ⟨rfl, _, rfl⟩ := hsv2
    have hw1 := wr_keep hw hb1
    have hBs := Nat.le_trans hB hb1.size
    clear hown hz
    go_wp2_with fail
    refine (raw_any pw B _ bs _ hw1 hBs _ _ _ (List.replicate _ 0) hr2 (fun h => by cases h) (by omega)).mono ?_
    rintro e w2 ⟨rfl, sv2, hw2, hm2⟩
    go_wp2
    go_ret
    exact ⟨rfl, sv2, hw2, (moved_of_below hb1 pw _).trans hm2⟩

theorem own_up {B : Nat} {w w' : World} {ov : Value} {l : List Nat} (h : Own B w ov l) (hb : Below w.heap.size w w') : Own B w' ov l := by
  refine ⟨⟨h.1.1, ?_⟩, h.2⟩
  rcases h.1.2 with h0 | ⟨g, cap, cur, e1, e2, e3, e4⟩
  · exact .inl h0
  · refine .inr ⟨g, cap, cur, e1, e2, ?_, e4⟩
    have hg := own_base h g (by rw [e1]; rfl)
    rw [hb.block g hg.2]; exact e3
theorem own_nocap {B : Nat} {w : World} {bs : List Nat} {a : Option Addr} {n c : Nat} (h : Own B w (.slice a n c) bs) : a = none → c = 0 := by
  intro ha
  rcases h.1.2 with ⟨e, _⟩ | ⟨g, cap, cur, e, _⟩
  · simp only [Value.slice.injEq] at e
    exact e.2.2
  · rw [ha] at e
    simp only [Value.slice.injEq] at e
    cases e.1
theorem retOwn_len {w w' : World} {bs : List Nat} {e : Ending} (h : RetOwn w bs e w') : ∃ a c, e = .returned (.slice a bs.length c) ∧ Row w' a bs.length bs ∧ (a = none → c = 0) ∧ Own w.heap.size w' (.slice a bs.length c) bs ∧ Below w.heap.size w w' := by
  obtain ⟨sv, rfl, ho, hb⟩ := h
  obtain ⟨a, c, hsv, hr, _⟩ := row_of_own ho
  subst hsv
  exact ⟨a, c, rfl, hr, own_nocap ho, ho, hb⟩

set_option maxRecDepth 100000 in
set_option maxHeartbeats 400000 in
theorem refPad_any (a : Option Addr) (len cap : Nat) (bs : List Nat) (w : World) (hr : Row w a len bs) (hlc : len ≤ cap) (hcm : cap ≤ maxLen) (hn : a = none → cap = 0) (hl : len ≤ 100000) (n : Int) (hn0 : -9223372036854775808 ≤ n) (hn1 : n ≤ 100000) :
    Calls Tryz.prog 83 #[.slice a len cap, .int .i64 n] w (RetOwn w (padTo bs n)) := by
  have hlen := hr.1
  by_cases hle : n ≤ (len : Int)
  · have HP := Lib.hid (padTo_le (bs := bs) (n := n) (by omega))
    rw [HP.out]
    have HL := Lib.hid hlen
    clear hlen
    go_enter Tryz.func83, Tryz.ntmps83
    go_wp2_with fail
    refine (part_any a len cap bs w hr hlc hcm hn hl).mono ?_
    intro e w1 h1
    obtain ⟨a1, c1, rfl, _, _, ho1, hb1⟩ := retOwn_len h1
    obtain ⟨L, hL⟩ : ∃ L, L = bs.length := ⟨_, rfl⟩
    rw [← hL] at ho1 ⊢
    have hLl : L = len := by rw [hL]; exact HL.out
    have hnL : n ≤ (L : Int) := by omega
    clear hL hLl
    go_wp2
    go_ret
    exact ⟨_, rfl, ho1, hb1⟩
  · obtain ⟨m, hm⟩ : ∃ m : Nat, n = (len : Int) + (m : Int) := ⟨(n - len).toNat, by omega⟩
    have HM : Hid (padTo bs n = bs ++ List.replicate m 0) := by
      unfold Hid padTo
      rw [hm, show ((len : Int) + (m : Int)).toNat - bs.length = m by omega]
    rw [HM.out]
    subst hm
    have hm1 : m ≤ 100000 := by omega
    have HL := Lib.hid hlen
    clear hlen
    go_enter Tryz.func83, Tryz.ntmps83
    go_wp2_with fail
    refine (part_any a len cap bs w hr hlc hcm hn hl).mono ?_
    intro e w1 h1
    obtain ⟨a1, c1, rfl, _, _, ho1, hb1⟩ := retOwn_len h1
    rw [HL.out] at ho1 ⊢
    go_wp2_with fail
    rw [show ((len : Int) + (m : Int) - (len : Int)) = (m : Int) by omega]
    refine (zeros_any m w1 hm1).mono ?_
    intro e w2 h2
    obtain ⟨a2, c2, rfl, hr2, hn2, _, hb2⟩ := retOwn_len h2
    rw [List.length_replicate] at hr2 ⊢
    have ho2 := own_up ho1 hb2
    have hz2 : w.heap.size ≤ w2.heap.size := Nat.le_trans hb1.size hb2.size
    clear ho1 h1 h2
    have hbl : bs.length ≤ 100000 := by have := HL.out; omega
    go_wp2_with (at_builtin; refine wpList_app rfl _ _ rfl w.heap.size _ _ rfl ho2 a2 m c2 (List.replicate m 0) rfl hr2 hn2 hz2 (by omega) ?_)
    intro v3 w3 hap
    go_wp2
    go_ret
    exact ⟨_, rfl, hap.own, (bel_trans hb1 hb2).trans hap.below⟩

end Go.Proofs.YthgcjiocelcblaaGreat
