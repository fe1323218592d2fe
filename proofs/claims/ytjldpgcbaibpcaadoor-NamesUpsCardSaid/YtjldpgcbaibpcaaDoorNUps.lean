/- NamesUps' walk. -/
import Derived.Test.YtjldpgcbaibpcaaDoorNLast
namespace Go.Proofs.YtjldpgcbaibpcaaDoor
open Go.RowKit

theorem splitOf_more {s : ByteArray} {l k : List ByteArray} {m : List UInt8} (h : splitOf s = (l, 0)) (hs : s.size + (m.length + 1) ≤ 200) (hm : stackGo ((cut m).map mkB) l = (k, 0)) (hk : k.length ≤ 12) : splitOf (s ++ mkB (47 :: m)) = (k, 0) := by
  obtain ⟨h0, h47, _, hst, _, _, _⟩ := splitOf_zero h
  have hd : (s ++ mkB (47 :: m)).data.toList = s.data.toList ++ 47 :: m := by rw [data_app, data_mkB]
  have hsz : (s ++ mkB (47 :: m)).size = s.size + (m.length + 1) := by rw [ByteArray.size_append, size_mkB]; rfl
  have hg : (s ++ mkB (47 :: m)).get! 0 = 47 := by
    rw [← byte_at, hd, List.getD_eq_getElem?_getD, List.getElem?_append_left (by rw [len_data]; exact h0), ← List.getD_eq_getElem?_getD, byte_at, h47]
  refine splitOf_go (by omega) hg (by omega) ?_ hk
  rw [← stackGo_first (by omega) hg, partsOf_cut, hd, cut_append, List.map_append, ← partsOf_cut]
  rw [← stackGo_first h0 h47] at hst
  rw [stackGo_app _ _ _ _ hst]
  exact hm
theorem split_up {s : ByteArray} {l : List ByteArray} (h : splitOf s = (l, 0)) (hs : s.size ≤ 190) : splitOf (s ++ ⟨#[47, 46, 46]⟩) = (l.dropLast, 0) := by
  have h12 := (splitOf_zero h).2.2.2.2.1
  refine splitOf_more (m := [46, 46]) h (by simp; omega) ?_ (by simp; omega)
  have hc : (cut [46, 46]).map mkB = [mkB [46, 46]] := by decide
  rw [hc, stackGo, toList_data, data_mkB, if_neg (by decide), if_pos rfl, stackGo]
theorem split_here {s : ByteArray} {l : List ByteArray} (h : splitOf s = (l, 0)) (hs : s.size ≤ 190) : splitOf (s ++ ⟨#[47, 46, 47]⟩) = (l, 0) := by
  have h12 := (splitOf_zero h).2.2.2.2.1
  refine splitOf_more (m := [46, 47]) h (by simp; omega) ?_ h12
  have hc : (cut [46, 47]).map mkB = [mkB [46], mkB []] := by decide
  rw [hc, stackGo, toList_data, data_mkB, if_pos (.inr rfl), stackGo, toList_data, data_mkB, if_pos (.inl rfl), stackGo]
set_option maxHeartbeats 1000000 in
theorem namesUps_walk (s : ByteArray) (w : World) (_hs : s.size ≤ maxLen) (hT : NOk w) :
    Calls Tryd.prog 11 #[.string s] w fun e w' => e = .returned (.bool true) ∧ Below w.heap.size w w' := by
  have hsm : s.size ≤ 9223372036854775807 := by unfold maxLen at _hs; omega
  have HH := Lib.hid (fun w h => head_any w h)
  have HT := Lib.hid hT
  clear hT
  by_cases h3 : 190 < s.size
  · have d1 : decide ((s.size : Int) > 190) = true := by simp; omega
    go_enter Tryd.func11, Tryd.ntmps11
    go_wp2_with fail
    refine (HH.out w HT.out).mono ?_
    rintro e w1 ⟨rfl, hb1⟩
    have HB1 := Lib.hid hb1
    clear hb1
    go_wp2_with fail
    refine (HH.out w1 (nok_below HT.out HB1.out)).mono ?_
    rintro e w2 ⟨rfl, hb2⟩
    have hb02 := bel_trans HB1.out hb2
    go_wp2
    go_ret
    exact ⟨rfl, hb02⟩
  · have d1 : decide ((s.size : Int) > 190) = false := by simp; omega
    have hs190 : s.size ≤ 190 := by omega
    have HS := Lib.hid (fun (t : ByteArray) w (ht : t.size ≤ 9223372036854775807) h => split_any t w ht h)
    obtain ⟨r, hr⟩ : ∃ r, splitOf s = r := ⟨_, rfl⟩
    obtain ⟨l, n⟩ := r
    have HR := Lib.hid hr
    clear hr
    go_enter Tryd.func11, Tryd.ntmps11
    go_wp2_with fail
    refine (HH.out w HT.out).mono ?_
    rintro e w1 ⟨rfl, hb1⟩
    have HB1 := Lib.hid hb1
    clear hb1
    go_wp2_with fail
    refine (HS.out s w1 hsm (nok_below HT.out HB1.out)).mono ?_
    rw [HR.out]
    rintro e w2 ⟨sv, rfl, hown, hb2⟩
    simp only at hown ⊢
    have hb02 := bel_trans HB1.out hb2
    have HB2 := Lib.hid hb02
    have HOWN := Lib.hid hown
    clear hb2 hb02 hown
    by_cases hn : n = 0
    · subst hn
      have hup := split_up HR.out hs190
      obtain ⟨dl, hdl⟩ : ∃ dl, l.dropLast = dl := ⟨_, rfl⟩
      have hdn : dl.length ≤ l.length := by rw [← hdl]; simp
      rw [hdl] at hup
      have HUP := Lib.hid hup
      have HDL := Lib.hid hdl
      clear hup hdl
      have HHE := Lib.hid (split_here HR.out hs190)
      have h12 := (splitOf_zero HR.out).2.2.2.2.1
      obtain ⟨a1, c1, rfl, hr1⟩ := rowS_of_own HOWN.out
      have HR1 := Lib.hid hr1
      have hu : (s ++ ⟨#[47, 46, 46]⟩).size ≤ 9223372036854775807 := by rw [ByteArray.size_append, show (⟨#[47, 46, 46]⟩ : ByteArray).size = 3 from rfl]; omega
      have hh : (s ++ ⟨#[47, 46, 47]⟩).size ≤ 9223372036854775807 := by rw [ByteArray.size_append, show (⟨#[47, 46, 47]⟩ : ByteArray).size = 3 from rfl]; omega
      have HU := Lib.hid hu
      have HH2 := Lib.hid hh
      have hz1 : s.size + 3 ≤ 9223372036854775807 := by omega
      clear hr1 hu hh
      go_wp2_with fail
      refine (HS.out _ w2 HU.out (nok_below HT.out HB2.out)).mono ?_
      rw [HUP.out]
      rintro e w3 ⟨uv, rfl, hownu, hb3⟩
      simp only at hownu ⊢
      have HB3 := Lib.hid (bel_trans HB2.out hb3)
      have HR1 := Lib.hid (rowS_below HR1.out hb3)
      have HOU := Lib.hid hownu
      clear hb3 hownu
      go_wp2_with fail
      refine (HS.out _ w3 HH2.out (nok_below HT.out HB3.out)).mono ?_
      rw [HHE.out]
      rintro e w4 ⟨hv, rfl, hownh, hb4⟩
      simp only at hownh ⊢
      have HB4 := Lib.hid (bel_trans HB3.out hb4)
      have HR1 := Lib.hid (rowS_below HR1.out hb4)
      have HOU := Lib.hid (strs_below HOU.out hb4)
      have HOH := Lib.hid hownh
      clear hb4 hownh
      go_wp2_with fail
      refine (last_any a1 l.length c1 l w4 HR1.out (by omega)).mono ?_
      rintro e w5 ⟨wv, rfl, hownw, hb5⟩
      rw [HDL.out] at hownw
      generalize (if l.length = 0 then (⟨#[]⟩ : ByteArray) else l.getD (l.length - 1) ByteArray.empty) = lx
      have HB5 := Lib.hid (bel_trans HB4.out hb5)
      have HR1 := Lib.hid (rowS_below HR1.out hb5)
      obtain ⟨a2, c2, rfl, hr2⟩ := rowS_of_own (strs_below HOU.out hb5)
      obtain ⟨a3, c3, rfl, hr3⟩ := rowS_of_own (strs_below HOH.out hb5)
      obtain ⟨a4, c4, rfl, hr4⟩ := rowS_of_own hownw
      have HR2 := Lib.hid hr2
      have HR3 := Lib.hid hr3
      have HR4 := Lib.hid hr4
      have hs1 := same_any a3 l.length c3 l a1 l.length c1 l w5 hr3 HR1.out (by omega) (by omega)
      rw [sameOf_self] at hs1
      have HS1 := Lib.hid hs1
      have HS2 : Hid (∀ w, RowS w a2 dl.length c2 dl → RowS w a4 dl.length c4 dl → Calls Tryd.prog 17 #[.slice a2 dl.length c2, .slice a4 dl.length c4] w fun e w' => e = .returned (.bool true) ∧ Below w.heap.size w w') := Lib.hid (fun w h1 h2 => by
        have := same_any a2 _ c2 dl a4 _ c4 dl w h1 h2 (by omega) (by omega)
        rw [sameOf_self] at this
        exact this)
      rcases Nat.eq_zero_or_pos l.length with hl0 | hl0
      · have hle : l = [] := List.eq_nil_of_length_eq_zero hl0
        subst hle
        have hde : dl = [] := HDL.out.symm
        subst hde
        simp only [List.length_nil] at *
        clear hr2 hr3 hr4 hs1 hb5 hownw
        go_wp2_with fail
        refine HS1.out.mono ?_
        rintro e w6 ⟨rfl, hb6⟩
        have hb06 := bel_trans HB5.out hb6
        go_wp2
        go_ret
        exact ⟨rfl, hb06⟩
      · have hlp : decide (0 < l.length) = true := decide_eq_true hl0
        rw [hlp]
        clear hr2 hr3 hr4 hs1 hb5 hownw hlp
        go_wp2_with fail
        refine HS1.out.mono ?_
        rintro e w6 ⟨rfl, hb6⟩
        have HB6 := Lib.hid (bel_trans HB5.out hb6)
        have HR2 := Lib.hid (rowS_below HR2.out hb6)
        have HR4 := Lib.hid (rowS_below HR4.out hb6)
        clear hb6
        go_wp2_with fail
        refine (HS2.out w6 HR2.out HR4.out).mono ?_
        rintro e w7 ⟨rfl, hb7⟩
        have hb07 := bel_trans HB6.out hb7
        go_wp2
        go_ret
        exact ⟨rfl, hb07⟩
    · have hnb : (n != 0) = true := by rw [bne_iff_ne]; exact hn
      clear hn
      go_wp2_with fail
      go_ret
      exact ⟨rfl, HB2.out⟩

end Go.Proofs.YtjldpgcbaibpcaaDoor
