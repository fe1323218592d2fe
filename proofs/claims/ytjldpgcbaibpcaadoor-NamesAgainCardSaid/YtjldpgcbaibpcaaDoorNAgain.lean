/- NamesAgain's walk. -/
import Derived.Test.YtjldpgcbaibpcaaDoorNLast
import Derived.Test.YtjldpgcbaibpcaaDoorNWithin
namespace Go.Proofs.YtjldpgcbaibpcaaDoor
open Go.RowKit

theorem withinOf_self (l : List ByteArray) : withinOf l l = true := by unfold withinOf; rw [decide_eq_true (Nat.le_refl _), List.take_of_length_le (Nat.le_refl _), sameOf_self]; rfl
set_option maxHeartbeats 1000000 in
theorem namesAgain_walk (s : ByteArray) (w : World) (_hs : s.size ≤ maxLen) (hT : NOk w) :
    Calls Tryd.prog 10 #[.string s] w fun e w' => e = .returned (.bool true) ∧ Below w.heap.size w w' := by
  have hsm : s.size ≤ 9223372036854775807 := by unfold maxLen at _hs; omega
  have HH := Lib.hid (fun w h => head_any w h)
  have HT := Lib.hid hT
  clear hT
  by_cases h3 : 400 < s.size
  · have d1 : decide ((s.size : Int) > 400) = true := by simp; omega
    go_enter Tryd.func10, Tryd.ntmps10
    go_wp2_with fail
    refine (HH.out w HT.out).mono ?_
    rintro e w1 ⟨rfl, hb1⟩
    have HB1 := Lib.hid hb1
    clear hb1
    go_wp2_with fail
    refine (HH.out w1 (nok_below HT.out HB1.out)).mono ?_
    rintro e w2 ⟨rfl, hb2⟩
    have hb02 := bel_trans HB1.out hb2
    go_wp2
    go_ret
    exact ⟨rfl, hb02⟩
  · have d1 : decide ((s.size : Int) > 400) = false := by simp; omega
    have HS := Lib.hid (fun w h => split_any s w hsm h)
    obtain ⟨r, hr⟩ : ∃ r, splitOf s = r := ⟨_, rfl⟩
    obtain ⟨l, n⟩ := r
    have HR := Lib.hid hr
    clear hr
    go_enter Tryd.func10, Tryd.ntmps10
    go_wp2_with fail
    refine (HH.out w HT.out).mono ?_
    rintro e w1 ⟨rfl, hb1⟩
    have HB1 := Lib.hid hb1
    clear hb1
    go_wp2_with fail
    refine (HS.out w1 (nok_below HT.out HB1.out)).mono ?_
    rw [HR.out]
    rintro e w2 ⟨sv, rfl, hown, hb2⟩
    simp only at hown ⊢
    have hb02 := bel_trans HB1.out hb2
    have HB2 := Lib.hid hb02
    have HOWN := Lib.hid hown
    clear hb2 hb02 hown
    by_cases hn : n = 0
    · subst hn
      have hz := splitOf_zero HR.out
      obtain ⟨h0, h47, h200, hst, h12, hg, hwt⟩ := hz
      have hpath := splitOf_path hg (fun x hx => good_noStroke (hg x hx)) h12 (by omega)
      have hps := pathOf_le l
      obtain ⟨P, hP⟩ : ∃ P, pathOf l = P := ⟨_, rfl⟩
      rw [hP] at hpath hps
      obtain ⟨a1, c1, rfl, hr1⟩ := rowS_of_own HOWN.out
      have HR1 := Lib.hid hr1
      have HJ := Lib.hid (join_any a1 l.length c1 l w2 hr1 (by omega))
      have HS2 := Lib.hid (fun w h => split_any P w (by omega) h)
      have HPATH := Lib.hid hpath
      have HPP := Lib.hid hP
      clear hr1 hpath hP hst hg h47
      go_wp2_with fail
      refine HJ.out.mono ?_
      rw [HPP.out]
      rintro e w3 ⟨rfl, hb3⟩
      have HB3 := Lib.hid (bel_trans HB2.out hb3)
      have HR1 := Lib.hid (rowS_below HR1.out hb3)
      clear hb3
      go_wp2_with fail
      refine (HS2.out w3 (nok_below HT.out HB3.out)).mono ?_
      rw [HPATH.out]
      rintro e w4 ⟨tv, rfl, hown4, hb4⟩
      simp only at hown4 ⊢
      obtain ⟨a2, c2, rfl, hr2⟩ := rowS_of_own hown4
      have HB4 := Lib.hid (bel_trans HB3.out hb4)
      have HR1 := Lib.hid (rowS_below HR1.out hb4)
      have HR2 := Lib.hid hr2
      have hsm2 := same_any a1 l.length c1 l a2 l.length c2 l w4 HR1.out HR2.out (by omega) (by omega)
      rw [sameOf_self] at hsm2
      have HSM := Lib.hid hsm2
      have hw1 : ∀ w, RowS w a1 l.length c1 l → RowS w a2 l.length c2 l → Calls Tryd.prog 21 #[.slice a1 l.length c1, .slice a2 l.length c2] w fun e w' => e = .returned (.bool true) ∧ Below w.heap.size w w' := fun w h1 h2 => by
        have := within_any a1 l.length c1 l a2 l.length c2 l w h1 h2
        rw [withinOf_self] at this; exact this
      have hw2 : ∀ w, RowS w a1 l.length c1 l → RowS w a2 l.length c2 l → Calls Tryd.prog 21 #[.slice a2 l.length c2, .slice a1 l.length c1] w fun e w' => e = .returned (.bool true) ∧ Below w.heap.size w w' := fun w h1 h2 => by
        have := within_any a2 l.length c2 l a1 l.length c1 l w h2 h1
        rw [withinOf_self] at this; exact this
      have HW1 := Lib.hid hw1
      have HW2 := Lib.hid hw2
      clear hown4 hb4 hr2 hsm2 hw1 hw2
      go_wp2_with fail
      refine HSM.out.mono ?_
      rintro e w5 ⟨rfl, hb5⟩
      have HB5 := Lib.hid (bel_trans HB4.out hb5)
      have HR1 := Lib.hid (rowS_below HR1.out hb5)
      have HR2 := Lib.hid (rowS_below HR2.out hb5)
      clear hb5
      go_wp2_with fail
      refine (HW1.out w5 HR1.out HR2.out).mono ?_
      rintro e w6 ⟨rfl, hb6⟩
      have HB6 := Lib.hid (bel_trans HB5.out hb6)
      have HR1 := Lib.hid (rowS_below HR1.out hb6)
      have HR2 := Lib.hid (rowS_below HR2.out hb6)
      clear hb6
      go_wp2_with fail
      refine (HW2.out w6 HR1.out HR2.out).mono ?_
      rintro e w7 ⟨rfl, hb7⟩
      have hb07 := bel_trans HB6.out hb7
      go_wp2
      go_ret
      exact ⟨rfl, hb07⟩
    · have hnb : (n != 0) = true := by rw [bne_iff_ne]; exact hn
      clear hn
      go_wp2_with fail
      go_ret
      exact ⟨rfl, HB2.out⟩

end Go.Proofs.YtjldpgcbaibpcaaDoor
