/- NamesOrders' walk. -/
import Derived.Test.YtjldpgcbaibpcaaDoorNLess
namespace Go.Proofs.YtjldpgcbaibpcaaDoor
open Go.RowKit

set_option maxHeartbeats 1000000 in
theorem namesOrders_big (a b c : ByteArray) (w : World) (ha : a.size ≤ maxLen) (hb : b.size ≤ maxLen) (hc : c.size ≤ maxLen) (hT : NOk w) (h : 100 < a.size ∨ 100 < b.size ∨ 100 < c.size) :
    Calls Tryd.prog 8 #[.string a, .string b, .string c] w fun e w' => e = .returned (.bool true) ∧ Below w.heap.size w w' := by
  have HH := Lib.hid (head_any w hT)
  unfold maxLen at ha hb hc
  rcases (show 100 < a.size ∨ (¬ 100 < a.size ∧ 100 < b.size) ∨ (¬ 100 < a.size ∧ ¬ 100 < b.size ∧ 100 < c.size) by omega) with h | ⟨h1, h⟩ | ⟨h1, h2, h⟩
  · have d1 : decide ((a.size : Int) > 100) = true := by simp; omega
    clear hT
    go_enter Tryd.func8, Tryd.ntmps8
    go_wp2_with fail
    refine HH.out.mono ?_
    rintro e w' ⟨rfl, hb1⟩
    go_wp2
    go_ret
    exact ⟨rfl, hb1⟩
  · have d1 : decide ((a.size : Int) > 100) = false := by simp; omega
    have d2 : decide ((b.size : Int) > 100) = true := by simp; omega
    clear hT
    go_enter Tryd.func8, Tryd.ntmps8
    go_wp2_with fail
    refine HH.out.mono ?_
    rintro e w' ⟨rfl, hb1⟩
    go_wp2
    go_ret
    exact ⟨rfl, hb1⟩
  · have d1 : decide ((a.size : Int) > 100) = false := by simp; omega
    have d2 : decide ((b.size : Int) > 100) = false := by simp; omega
    have d3 : decide ((c.size : Int) > 100) = true := by simp; omega
    clear hT
    go_enter Tryd.func8, Tryd.ntmps8
    go_wp2_with fail
    refine HH.out.mono ?_
    rintro e w' ⟨rfl, hb1⟩
    go_wp2
    go_ret
    exact ⟨rfl, hb1⟩
set_option maxHeartbeats 1000000 in
theorem namesOrders_walk (a b c : ByteArray) (w : World) (ha : a.size ≤ maxLen) (hb : b.size ≤ maxLen) (hc : c.size ≤ maxLen) (hT : NOk w) :
    Calls Tryd.prog 8 #[.string a, .string b, .string c] w fun e w' => e = .returned (.bool true) ∧ Below w.heap.size w w' := by
  by_cases h : 100 < a.size ∨ 100 < b.size ∨ 100 < c.size
  · exact namesOrders_big a b c w ha hb hc hT h
  have d1 : decide ((a.size : Int) > 100) = false := by simp; omega
  have d2 : decide ((b.size : Int) > 100) = false := by simp; omega
  have d3 : decide ((c.size : Int) > 100) = false := by simp; omega
  have HH := Lib.hid (fun w h => head_any w h)
  have HL1 := Lib.hid (fun w => less_any a b w (by omega) (by omega))
  have HL2 := Lib.hid (fun w => less_any b c w (by omega) (by omega))
  have HL3 := Lib.hid (fun w => less_any a c w (by omega) (by omega))
  have HL4 := Lib.hid (fun w => less_any b a w (by omega) (by omega))
  have HL5 := Lib.hid (fun w => refLess_any a b w (by omega) (by omega))
  have HT := Lib.hid hT
  have hor := lessOf_or a b
  have hand := lessOf_and a b
  have htr := fun h1 h2 => @lessOf_trans a b c h1 h2
  clear hT h ha hb hc
  go_enter Tryd.func8, Tryd.ntmps8
  have HOR := Lib.hid hor
  have HAND := Lib.hid hand
  have HTR := Lib.hid htr
  clear hor hand htr
  go_wp2_with fail
  refine (HL1.out w).mono ?_
  rintro e w1 ⟨rfl, hb1⟩
  have HB1 := Lib.hid hb1
  clear hb1
  go_wp2_with fail
  refine (HL2.out w1).mono ?_
  rintro e w2 ⟨rfl, hb2⟩
  have HB2 := Lib.hid (bel_trans HB1.out hb2)
  clear hb2
  go_wp2_with fail
  refine (HL3.out w2).mono ?_
  rintro e w3 ⟨rfl, hb3⟩
  have HB3 := Lib.hid (bel_trans HB2.out hb3)
  clear hb3
  go_wp2_with fail
  refine (HL4.out w3).mono ?_
  rintro e w4 ⟨rfl, hb4⟩
  have HB4 := Lib.hid (bel_trans HB3.out hb4)
  clear hb4
  go_wp2_with fail
  refine (HH.out w4 (nok_below HT.out HB4.out)).mono ?_
  rintro e w5 ⟨rfl, hb5⟩
  have HB5 := Lib.hid (bel_trans HB4.out hb5)
  clear hb5
  go_wp2_with fail
  refine (HL5.out w5).mono ?_
  rintro e w6 ⟨rfl, hb6⟩
  have HB6 := Lib.hid (bel_trans HB5.out hb6)
  clear hb6 HL1 HL2 HL3 HL4 HL5
  have hor := HOR.out
  have hand := HAND.out
  have htr := HTR.out
  clear HOR HAND HTR
  generalize lessOf a b = x at *
  generalize lessOf b c = y at *
  generalize lessOf a c = z at *
  generalize lessOf b a = v at *
  obtain ⟨q, hq⟩ : ∃ q, (a.toList == b.toList) = q := ⟨_, rfl⟩
  rw [hq] at hor
  have hq2 : q = !(x || v) := by rw [hor]; simp
  subst hq2
  clear hor
  cases x <;> cases v <;> cases y <;> cases z
  all_goals first
    | (exfalso; revert hand htr; decide)
    | (clear hand htr
       simp only [Bool.or_false, Bool.or_true, Bool.not_false, Bool.not_true] at hq
       go_wp2
       go_ret
       exact ⟨rfl, HB6.out⟩)
end Go.Proofs.YtjldpgcbaibpcaaDoor
