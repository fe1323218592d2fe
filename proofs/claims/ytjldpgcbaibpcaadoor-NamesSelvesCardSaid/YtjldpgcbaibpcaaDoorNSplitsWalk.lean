/- NamesSplits' walk. -/
import Derived.Test.YtjldpgcbaibpcaaDoorNRefSplit
namespace Go.Proofs.YtjldpgcbaibpcaaDoor
open Go.RowKit

theorem goRes_le (a : List ByteArray × Int) : (goRes a).1.length ≤ 12 := by
  unfold goRes
  split
  · simp
  · split
    · simp
    · simp; omega
theorem splitOf_le (s : ByteArray) : (splitOf s).1.length ≤ 12 := by
  unfold splitOf
  split
  · simp
  · split
    · simp
    · exact goRes_le _
theorem sameOf_self (l : List ByteArray) : sameOf l l = true := by unfold sameOf; simp
set_option maxHeartbeats 600000 in
theorem namesSplits_walk (s : ByteArray) (w : World) (_hs : s.size ≤ maxLen) (hT : NOk w) :
    Calls Tryd.prog 4 #[.string s] w fun e w' => e = .returned (.bool true) ∧ Below w.heap.size w w' := by
  have hsm : s.size ≤ 9223372036854775807 := by unfold maxLen at _hs; omega
  by_cases h3 : 400 < s.size
  · have HH := Lib.hid (head_any w hT)
    have d1 : decide ((s.size : Int) > 400) = true := by simp; omega
    clear hT
    go_enter Tryd.func4, Tryd.ntmps4
    go_wp2_with fail
    refine HH.out.mono ?_
    rintro e w' ⟨rfl, hb1⟩
    go_wp2
    go_ret
    exact ⟨rfl, hb1⟩
  · have d1 : decide ((s.size : Int) > 400) = false := by simp; omega
    have H1 := Lib.hid (split_any s w hsm hT)
    have H2 := Lib.hid (fun w => refSplit_any s w hsm)
    have HT := Lib.hid hT
    have hl12 := splitOf_le s
    clear hT
    go_enter Tryd.func4, Tryd.ntmps4
    go_wp2_with fail
    refine H1.out.mono ?_
    rintro e w1 ⟨sv, rfl, hown, hb1⟩
    have HO := Lib.hid hown
    have HB1 := Lib.hid hb1
    clear hown hb1
    go_wp2_with fail
    refine (H2.out w1).mono ?_
    rintro e w2 ⟨tv, rfl, hown2, hb2⟩
    have hb02 := bel_trans HB1.out hb2
    have hp0 := strs_below HO.out hb2
    have HH := Lib.hid (head_any w2 (nok_below HT.out hb02))
    obtain ⟨a1, c1, rfl, hr1⟩ := rowS_of_own hp0
    obtain ⟨a2, c2, rfl, hr2⟩ := rowS_of_own hown2
    obtain ⟨r, hr⟩ : ∃ r, splitOf s = r := ⟨_, rfl⟩
    rw [hr] at hr1 hr2 hl12 ⊢
    obtain ⟨l, n⟩ := r
    simp only at hr1 hr2 hl12 ⊢
    have HR1 := Lib.hid hr1
    have HR2 := Lib.hid hr2
    have HB02 := Lib.hid hb02
    clear hp0 hown2 hb2 hr1 hr2 hr hb02
    go_wp2_with fail
    refine HH.out.mono ?_
    rintro e w3 ⟨rfl, hb3⟩
    have HR1 := Lib.hid (rowS_below HR1.out hb3)
    have HR2 := Lib.hid (rowS_below HR2.out hb3)
    have HB03 := Lib.hid (bel_trans HB02.out hb3)
    have HS := same_any a1 l.length c1 l a2 l.length c2 l w3 HR1.out HR2.out (by omega) (by omega)
    rw [sameOf_self] at HS
    have HSS := Lib.hid HS
    clear hb3 HS
    go_wp2_with fail
    refine HSS.out.mono ?_
    rintro e w4 ⟨rfl, hb4⟩
    have hb04 := bel_trans HB03.out hb4
    go_wp2
    go_ret
    exact ⟨rfl, hb04⟩

end Go.Proofs.YtjldpgcbaibpcaaDoor
