/- NamesSelves' walk. -/
import Derived.Test.YtjldpgcbaibpcaaDoorNSelvesP
namespace Go.Proofs.YtjldpgcbaibpcaaDoor
open Go.RowKit

set_option maxHeartbeats 1000000 in
theorem namesSelves_big (s t : ByteArray) (w : World) (hs : s.size ≤ 9223372036854775807) (ht : t.size ≤ 9223372036854775807) (hT : NOk w) (h : 60 < s.size ∨ (¬ 60 < s.size ∧ 60 < t.size)) :
    Calls Tryd.prog 9 #[.string s, .string t] w fun e w' => e = .returned (.bool true) ∧ Below w.heap.size w w' := by
  have HH := Lib.hid (fun w h => head_any w h)
  have HT := Lib.hid hT
  clear hT
  rcases h with h | ⟨h1, h⟩
  · have d1 : decide ((s.size : Int) > 60) = true := by simp; omega
    go_enter Tryd.func9, Tryd.ntmps9
    go_wp2_with fail
    refine (HH.out w HT.out).mono ?_
    rintro e w1 ⟨rfl, hb1⟩
    have HB1 := Lib.hid hb1
    clear hb1
    go_wp2_with fail
    refine (HH.out w1 (nok_below HT.out HB1.out)).mono ?_
    rintro e w2 ⟨rfl, hb2⟩
    have hb02 := bel_trans HB1.out hb2
    go_wp2
    go_ret
    exact ⟨rfl, hb02⟩
  · have d1 : decide ((s.size : Int) > 60) = false := by simp; omega
    have d2 : decide ((t.size : Int) > 60) = true := by simp; omega
    go_enter Tryd.func9, Tryd.ntmps9
    go_wp2_with fail
    refine (HH.out w HT.out).mono ?_
    rintro e w1 ⟨rfl, hb1⟩
    have HB1 := Lib.hid hb1
    clear hb1
    go_wp2_with fail
    refine (HH.out w1 (nok_below HT.out HB1.out)).mono ?_
    rintro e w2 ⟨rfl, hb2⟩
    have hb02 := bel_trans HB1.out hb2
    go_wp2
    go_ret
    exact ⟨rfl, hb02⟩
set_option maxHeartbeats 1000000 in
theorem namesSelves_walk (s t : ByteArray) (w : World) (hs : s.size ≤ maxLen) (ht : t.size ≤ maxLen) (hT : NOk w) :
    Calls Tryd.prog 9 #[.string s, .string t] w fun e w' => e = .returned (.bool true) ∧ Below w.heap.size w w' := by
  unfold maxLen at hs ht
  by_cases h : 60 < s.size ∨ 60 < t.size
  · exact namesSelves_big s t w (by omega) (by omega) hT (by omega)
  have d1 : decide ((s.size : Int) > 60) = false := by simp; omega
  have d2 : decide ((t.size : Int) > 60) = false := by simp; omega
  have HH := Lib.hid (fun w h => head_any w h)
  have HT := Lib.hid hT
  have HC1 := Lib.hid (fun w => refCheck_any s w (by omega))
  have HC2 := Lib.hid (fun w => refCheck_any t w (by omega))
  have HSTEP := Lib.hid (fun p w hp => step_any s p w hp (by omega))
  have HM := Lib.hid (fun (a b : ByteArray) w ha hb h => match_any a b w ha hb h)
  have hs60 : s.size ≤ 60 := by omega
  have ht60 : t.size ≤ 60 := by omega
  obtain ⟨cs, hcs⟩ : ∃ cs, checkOf s = cs := ⟨_, rfl⟩
  obtain ⟨ct, hct⟩ : ∃ ct, checkOf t = ct := ⟨_, rfl⟩
  simp only [hcs] at HC1
  simp only [hct] at HC2
  have HCS := Lib.hid hcs
  have HCT := Lib.hid hct
  clear hT h hs ht hcs hct
  by_cases hc : cs = 0
  case neg =>
    have hcb : (cs != 0) = true := by rw [bne_iff_ne]; exact hc
    clear hc
    go_enter Tryd.func9, Tryd.ntmps9
    go_wp2_with fail
    refine (HH.out w HT.out).mono ?_
    rintro e w1 ⟨rfl, hb1⟩
    have HB1 := Lib.hid hb1
    clear hb1
    go_wp2_with fail
    refine (HC1.out w1).mono ?_
    rintro e w2 ⟨rfl, hb2⟩
    have HB2 := Lib.hid (bel_trans HB1.out hb2)
    clear hb2
    go_wp2_with fail
    refine (HH.out w2 (nok_below HT.out HB2.out)).mono ?_
    rintro e w3 ⟨rfl, hb3⟩
    have hb03 := bel_trans HB2.out hb3
    go_wp2
    go_ret
    exact ⟨rfl, hb03⟩
  case pos =>
  subst hc
  by_cases hc : ct = 0
  case neg =>
    have hcb : (ct != 0) = true := by rw [bne_iff_ne]; exact hc
    clear hc
    go_enter Tryd.func9, Tryd.ntmps9
    go_wp2_with fail
    refine (HH.out w HT.out).mono ?_
    rintro e w1 ⟨rfl, hb1⟩
    have HB1 := Lib.hid hb1
    clear hb1
    go_wp2_with fail
    refine (HC1.out w1).mono ?_
    rintro e w2 ⟨rfl, hb2⟩
    have HB2 := Lib.hid (bel_trans HB1.out hb2)
    clear hb2
    go_wp2_with fail
    refine (HC2.out w2).mono ?_
    rintro e w3 ⟨rfl, hb3⟩
    have HB3 := Lib.hid (bel_trans HB2.out hb3)
    clear hb3
    go_wp2_with fail
    refine (HH.out w3 (nok_below HT.out HB3.out)).mono ?_
    rintro e w4 ⟨rfl, hb4⟩
    have hb04 := bel_trans HB3.out hb4
    go_wp2
    go_ret
    exact ⟨rfl, hb04⟩
  case pos =>
  subst hc
  obtain ⟨hv, hn, _⟩ := check_zero HCS.out
  obtain ⟨hvt, hnt, _⟩ := check_zero HCT.out
  have HV := Lib.hid hv
  have HVT := Lib.hid hvt
  have HN := Lib.hid hn
  have HNT := Lib.hid hnt
  have HST := Lib.hid (selfAt_start hv)
  clear hv hvt hn hnt HCS HCT
  go_enter Tryd.func9, Tryd.ntmps9
  go_wp2_with fail
  refine (HH.out w HT.out).mono ?_
  rintro e w1 ⟨rfl, hb1⟩
  have HB1 := Lib.hid hb1
  clear hb1
  go_wp2_with fail
  refine (HC1.out w1).mono ?_
  rintro e w2 ⟨rfl, hb2⟩
  have HB2 := Lib.hid (bel_trans HB1.out hb2)
  clear hb2
  go_wp2_with fail
  refine (HC2.out w2).mono ?_
  rintro e w3 ⟨rfl, hb3⟩
  have HB3 := Lib.hid (bel_trans HB2.out hb3)
  clear hb3 HC1 HC2
  go_wp2_with fail
  go_loopw [5, 6] (fun pv i wr => ∃ (pos : Nat) (P : ByteArray), i = .int .i64 (pos : Int) ∧ pv = .string P ∧ P.size ≤ 2 * pos ∧ pos ≤ s.size ∧ Hid (SelfAt s P pos) ∧ Below w.heap.size w wr) (fun _ i _ => s.size - (intOf i).toNat)
  case atStart => exact ⟨0, ⟨#[]⟩, rfl, rfl, by decide, by omega, HST, HB3.out⟩
  case round =>
    obtain ⟨pos, P, rfl, rfl, hP2, hps, HSA, hbr⟩ := hrel
    have HB := Lib.hid hbr
    clear hbr
    by_cases hp : pos < s.size
    · have hwd := Lib.decode_width_pos s pos hp
      have hw4 := decode_fits s pos hp
      have hnx := selfAt_next HSA.out hp
      have H1 := HSTEP.out pos wr hp
      unfold stepOf at H1
      generalize Utf8.decode s pos = dc at *
      obtain ⟨c, k⟩ := dc
      simp only at hnx hwd hw4 H1
      have hpi : (pos : Int) < (s.size : Int) := by omega
      have hsl : ∀ w, (Instr.slice 9 (.string s) (some (.int .i64 (pos : Int))) (some (.int .i64 ((pos : Int) + (k : Int)))) none).run Tryd.prog w = .ok (.string (s.extract pos (pos + k))) w := fun w => by
        have h0 := run_slice_string_if (P := Tryd.prog) w 9 s .i64 .i64 pos ((pos + k : Nat) : Int) Tryd.underlying9
        rw [if_pos (by omega), if_pos (by omega)] at h0
        rw [show (pos : Int) + (k : Int) = ((pos + k : Nat) : Int) by omega]
        exact h0
      have hqs : (s.extract pos (pos + k)).size = k := by rw [ByteArray.size_extract]; omega
      have hqz : ((P ++ ⟨#[92]⟩) ++ s.extract pos (pos + k)).size ≤ 2 * (pos + k) := by
        rw [ByteArray.size_append, ByteArray.size_append, hqs, show (⟨#[92]⟩ : ByteArray).size = 1 from rfl]; omega
      have HQZ := Lib.hid hqz
      generalize s.extract pos (pos + k) = q at *
      have z1 : P.size + 1 ≤ 9223372036854775807 := by omega
      have z2 : P.size + 1 + q.size ≤ 9223372036854775807 := by omega
      have HNX := Lib.hid hnx
      have H := Lib.hid H1
      clear hnx H1 hqz
      go_wp2_with fail
      refine H.out.mono ?_
      rintro e w4 ⟨rfl, hb4⟩
      have HB4 := Lib.hid (bel_trans HB.out hb4)
      clear hb4
      go_wp2_with fail
      exact ⟨⟨pos + k, (P ++ ⟨#[92]⟩) ++ q, by go_num, rfl, HQZ.out, by omega, HNX, HB4.out⟩, by simp [intOf]; omega⟩
    · have hPe := selfAt_end HSA.out (by omega)
      have HPE := Lib.hid hPe
      have hm1 := match_self hPe
      have hm2 := match_behind hPe HVT.out HN.out
      have hm3 := match_ahead (t := t) hPe HV.out
      have hm4 := match_longer (t := t) hPe HV.out HNT.out
      have hsz1 : (⟨#[42]⟩ ++ P : ByteArray).size ≤ 1000 := by rw [ByteArray.size_append, show (⟨#[42]⟩ : ByteArray).size = 1 from rfl]; omega
      have hsz2 : (P ++ ⟨#[42]⟩ : ByteArray).size ≤ 1000 := by rw [ByteArray.size_append, show (⟨#[42]⟩ : ByteArray).size = 1 from rfl]; omega
      have hsz3 : (s ++ t).size ≤ 1000 := by rw [ByteArray.size_append]; omega
      have hsz4 : (t ++ s).size ≤ 1000 := by rw [ByteArray.size_append]; omega
      have M1 := Lib.hid (fun w h => HM.out P s w (by omega) (by omega) h)
      have M2 := Lib.hid (fun w h => HM.out (⟨#[42]⟩ ++ P) (t ++ s) w hsz1 hsz4 h)
      have M3 := Lib.hid (fun w h => HM.out (P ++ ⟨#[42]⟩) (s ++ t) w hsz2 hsz3 h)
      have M4 := Lib.hid (fun w h => HM.out P (s ++ t) w (by omega) hsz3 h)
      simp only [hm1] at M1
      simp only [hm2] at M2
      simp only [hm3] at M3
      simp only [hm4] at M4
      have z1 : 1 + P.size ≤ 9223372036854775807 := by omega
      have z2 : P.size + 1 ≤ 9223372036854775807 := by omega
      have z3 : s.size + t.size ≤ 9223372036854775807 := by omega
      have z4 : t.size + s.size ≤ 9223372036854775807 := by omega
      have hpi : ¬ (pos : Int) < (s.size : Int) := by omega
      clear hPe hm1 hm2 hm3 hm4 hsz1 hsz2 hsz3 hsz4 HM HSA
      go_wp2_with fail
      refine (M1.out wr (nok_below HT.out HB.out)).mono ?_
      rintro e w4 ⟨rfl, hb4⟩
      have HB4 := Lib.hid (bel_trans HB.out hb4)
      clear hb4
      go_wp2_with fail
      refine (M2.out w4 (nok_below HT.out HB4.out)).mono ?_
      rintro e w5 ⟨rfl, hb5⟩
      have HB5 := Lib.hid (bel_trans HB4.out hb5)
      clear hb5
      go_wp2_with fail
      refine (M3.out w5 (nok_below HT.out HB5.out)).mono ?_
      rintro e w6 ⟨rfl, hb6⟩
      have HB6 := Lib.hid (bel_trans HB5.out hb6)
      clear hb6
      go_wp2_with fail
      refine (M4.out w6 (nok_below HT.out HB6.out)).mono ?_
      rintro e w7 ⟨rfl, hb7⟩
      have hb07 := bel_trans HB6.out hb7
      go_wp2
      go_ret
      exact ⟨rfl, hb07⟩
end Go.Proofs.YtjldpgcbaibpcaaDoor
