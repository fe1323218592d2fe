/- NamesJoins' walk. -/
import Derived.Test.YtjldpgcbaibpcaaDoorNLast
import Derived.Test.YtjldpgcbaibpcaaDoorNWithin
namespace Go.Proofs.YtjldpgcbaibpcaaDoor
open Go.RowKit

def sound (x : ByteArray) : Bool := checkOf x == 0
theorem wt_all : ∀ l : List ByteArray, (∀ x ∈ l, x.size ≤ 200) → wt l ≤ 201 * l.length
  | [], _ => by decide
  | x :: l, h => by
    have h1 := wt_all l (fun y hy => h y (List.mem_cons_of_mem _ hy))
    have h2 := h x List.mem_cons_self
    rw [wt_cons, List.length_cons]; omega
/-- Behind the loop. -/
theorem namesJoins_tail (n : Nat) (xs : List ByteArray) (hl : xs.length = n) (hw : wt xs ≤ 200) (h12 : n ≤ 12) (hg : xs.all sound = true) : splitOf (pathOf xs) = (xs, 0) := by
  have hg2 : ∀ x ∈ xs, checkOf x = 0 := fun x hx => by
    have := List.all_eq_true.1 hg x hx
    unfold sound at this
    exact eq_of_beq this
  exact splitOf_path hg2 (fun x hx => good_noStroke (hg2 x hx)) (by omega) hw
set_option maxRecDepth 100000 in
set_option maxHeartbeats 4000000 in
theorem namesJoins_walk (a : Option Addr) (n c : Nat) (xs : List ByteArray) (w : World) (hr : RowS w a n c xs) (hz : ∀ x ∈ xs, x.size ≤ maxLen) (hT : NOk w) :
    Calls Tryd.prog 5 #[.slice a n c] w fun e w' => e = .returned (.bool true) ∧ Below w.heap.size w w' := by
  have HH := Lib.hid (fun w h => head_any w h)
  have HT := Lib.hid hT
  have HR := Lib.hid hr
  have hcm : n ≤ maxLen := by have := hr.2.1; have := hr.2.2.1; omega
  unfold maxLen at hcm
  clear hT hr
  by_cases hn20 : 20 < n
  · have d1 : decide ((n : Int) > 20) = true := by simp; omega
    clear hz
    go_enter Tryd.func5, Tryd.ntmps5
    go_wp2_with fail
    refine (HH.out w HT.out).mono ?_
    rintro e w1 ⟨rfl, hb1⟩
    go_wp2
    go_ret
    exact ⟨rfl, hb1⟩
  have d1 : decide ((n : Int) > 20) = false := by simp; omega
  have HCK := Lib.hid (fun (x : ByteArray) w hx => refCheck_any x w hx)
  have HZ := Lib.hid hz
  obtain ⟨m12, hm12⟩ : ∃ m12, decide ((n : Int) ≤ 12) = m12 := ⟨_, rfl⟩
  have HM12 := Lib.hid hm12
  clear hz
  go_enter Tryd.func5, Tryd.ntmps5
  go_wp2_with fail
  go_loopw [3, 4, 5] (fun lv mv iv wr => ∃ (k L : Nat) (mk : Bool), k ≤ n ∧ iv = .int .i64 (k : Int) ∧ lv = .int .i64 (L : Int) ∧ mv = .bool mk ∧ L ≤ 201 * k ∧ Hid (wt (xs.take k) = L) ∧ Hid ((m12 && (xs.take k).all sound) = mk) ∧ Below w.heap.size w wr) (fun _ _ i _ => n - (intOf i).toNat)
  case atStart => exact ⟨0, 0, m12, by omega, rfl, rfl, rfl, by omega, Lib.hid rfl, Lib.hid (by simp), Below.refl _ _⟩
  case round =>
    obtain ⟨k, L, mk, hk, rfl, rfl, rfl, hL, HL, HMK, hbr⟩ := hrel
    have HB := Lib.hid hbr
    by_cases hlt : k < n
    · obtain ⟨h1, _, _, _, h5⟩ := HR.out
      obtain ⟨b, off, rfl, hc⟩ := h5 (by omega)
      have q := below_cell hbr (hc k hlt)
      have hkx : k < xs.length := by omega
      have hxm : xs.getD k ByteArray.empty ∈ xs := by simp [List.getD, hkx]
      have hxz := HZ.out _ hxm
      unfold maxLen at hxz
      have htk : xs.take (k + 1) = xs.take k ++ [xs.getD k ByteArray.empty] := by
        rw [List.take_succ_eq_append_getElem hkx]; simp [List.getD, hkx]
      have hcn := HR.out.2.1
      generalize xs.getD k ByteArray.empty = x at *
      have hkn : (k : Int) < (n : Int) := by omega
      have hk0 : (0 : Int) ≤ (k : Int) := by omega
      have HTK := Lib.hid htk
      have H := Lib.hid (fun w => HCK.out x w (by omega))
      clear hc hbr hxm htk h1 h5 hkx
      by_cases hx2 : 200 < x.size
      · have d2 : decide ((x.size : Int) > 200) = true := by simp; omega
        go_wp2_with fail
        refine (HH.out wr (nok_below HT.out HB.out)).mono ?_
        rintro e w1 ⟨rfl, hb1⟩
        have hb01 := bel_trans HB.out hb1
        go_wp2
        go_ret
        exact ⟨rfl, hb01⟩
      · have d2 : decide ((x.size : Int) > 200) = false := by simp; omega
        have hw2 : wt (xs.take (k + 1)) = L + 1 + x.size := by rw [HTK.out, wt_append, HL.out, wt_cons]; simp [wt]; omega
        have HW2 := Lib.hid hw2
        cases mk with
        | false =>
          have hmk2 : (m12 && (xs.take (k + 1)).all sound) = false := by
            rw [HTK.out, List.all_append, ← Bool.and_assoc, HMK.out, Bool.false_and]
          have HMK2 := Lib.hid hmk2
          clear hw2 hmk2
          go_wp2_with fail
          exact ⟨⟨k + 1, L + 1 + x.size, false, by omega, by go_num, by go_num, rfl, by omega, HW2, HMK2, HB.out⟩, by simp [intOf]; omega⟩
        | true =>
          have hmk2 : (m12 && (xs.take (k + 1)).all sound) = (checkOf x == 0) := by
            rw [HTK.out, List.all_append, ← Bool.and_assoc, HMK.out, Bool.true_and]; simp [sound]
          have HMK2 := Lib.hid hmk2
          clear hw2 hmk2
          generalize checkOf x = cx at *
          go_wp2_with fail
          refine (H.out wr).mono ?_
          rintro e w1 ⟨rfl, hb1⟩
          have HB1 := Lib.hid (bel_trans HB.out hb1)
          clear hb1
          go_wp2_with fail
          exact ⟨⟨k + 1, L + 1 + x.size, (cx == 0), by omega, by go_num, by go_num, by simp, by omega, HW2, HMK2, HB1.out⟩, by simp [intOf]; omega⟩
    · have hke : k = n := by omega
      subst hke
      have hli : ¬ (k : Int) < (k : Int) := by omega
      have htk : xs.take k = xs := List.take_of_length_le (by have := HR.out.1; omega)
      have hwx : wt xs = L := by rw [← HL.out, htk]
      have hmx : (m12 && xs.all sound) = mk := by rw [← HMK.out, htk]
      have hps := pathOf_le xs
      have HR1 := Lib.hid (rowS_below HR.out HB.out)
      have J1 := Lib.hid (join_any a k c xs wr HR1.out (by omega))
      have J2 := Lib.hid (fun w h => refJoin_any a k c xs w h (by omega) (by omega))
      have HTL := Lib.hid (fun h1 h2 h3 => namesJoins_tail k xs HR.out.1 h1 h2 h3)
      have HLX := Lib.hid HR.out.1
      have HWX := Lib.hid hwx
      have HMX := Lib.hid hmx
      rw [hwx] at hps
      obtain ⟨P, hP⟩ : ∃ P, pathOf xs = P := ⟨_, rfl⟩
      rw [hP] at hps
      have HSP := Lib.hid (fun w h => split_any P w (by omega) h)
      simp only [hP] at J1 J2 HTL
      clear hbr htk hwx hmx hP hlt hk HCK HZ HL HMK
      go_wp2_with fail
      refine J1.out.mono ?_
      rintro e w1 ⟨rfl, hb1⟩
      have HB1 := Lib.hid (bel_trans HB.out hb1)
      have HR1 := Lib.hid (rowS_below HR1.out hb1)
      clear hb1
      go_wp2_with fail
      refine (HH.out w1 (nok_below HT.out HB1.out)).mono ?_
      rintro e w2 ⟨rfl, hb2⟩
      have HB2 := Lib.hid (bel_trans HB1.out hb2)
      have HR2 := Lib.hid (rowS_below HR1.out hb2)
      clear hb2
      go_wp2_with fail
      refine (J2.out w2 HR2.out).mono ?_
      rintro e w3 ⟨rfl, hb3⟩
      have HB3 := Lib.hid (bel_trans HB2.out hb3)
      have HR3 := Lib.hid (rowS_below HR2.out hb3)
      clear hb3
      cases mk with
      | false =>
        go_wp2_with fail
        go_ret
        exact ⟨rfl, HB3.out⟩
      | true =>
        by_cases hL2 : 200 < L
        · have d2 : decide ((L : Int) > 200) = true := by simp; omega
          go_wp2_with fail
          go_ret
          exact ⟨rfl, HB3.out⟩
        · have d2 : decide ((L : Int) > 200) = false := by simp; omega
          have hmx := HMX.out
          rw [Bool.and_eq_true] at hmx
          have hk12 : k ≤ 12 := by
            have h1 := hmx.1
            rw [← HM12.out] at h1
            have h2 := of_decide_eq_true h1
            omega
          have HSPX := Lib.hid (HTL.out (by rw [HWX.out]; omega) hk12 hmx.2)
          clear hmx
          go_wp2_with fail
          refine (HSP.out w3 (nok_below HT.out HB3.out)).mono ?_
          rw [HSPX.out]
          rintro e w4 ⟨mv, rfl, hown4, hb4⟩
          simp only at hown4 ⊢
          have HB4 := Lib.hid (bel_trans HB3.out hb4)
          have HR4 := Lib.hid (rowS_below HR3.out hb4)
          have HO4 := Lib.hid hown4
          clear hown4 hb4
          go_wp2_with fail
          refine (last_any a k c xs w4 HR4.out (by omega)).mono ?_
          rintro e w5 ⟨uv, rfl, hown5, hb5⟩
          have HB5 := Lib.hid (bel_trans HB4.out hb5)
          have HR5 := Lib.hid (rowS_below HR4.out hb5)
          obtain ⟨a1, c1, rfl, hr1⟩ := rowS_of_own (strs_below HO4.out hb5)
          have hdl : xs.dropLast = xs.take (k - 1) := by rw [List.dropLast_eq_take, HLX.out]
          obtain ⟨dl, hdle⟩ : ∃ dl, xs.dropLast = dl := ⟨_, rfl⟩
          rw [hdle] at hown5 hdl
          obtain ⟨a2, c2, rfl, hr2⟩ := rowS_of_own hown5
          rw [HLX.out] at hr1 ⊢
          have hdn : dl.length = k - 1 := by rw [← hdle, List.length_dropLast, HLX.out]
          rw [hdn] at hr2 ⊢
          have HRA2 := Lib.hid hr2
          have hs1 := same_any a1 k c1 xs a k c xs w5 hr1 HR5.out (by omega) (by omega)
          rw [sameOf_self] at hs1
          have HS1 := Lib.hid hs1
          rcases Nat.eq_zero_or_pos k with hk0 | hk0
          · subst hk0
            have hlp : decide (0 < 0) = false := rfl
            simp only [if_true]
            clear hr1 hr2 hs1 hb5 hown5 hdl hdle hdn
            go_wp2_with fail
            refine HS1.out.mono ?_
            rintro e w6 ⟨rfl, hb6⟩
            have hb06 := bel_trans HB5.out hb6
            go_wp2
            go_ret
            exact ⟨rfl, hb06⟩
          · have hlp : decide (0 < k) = true := decide_eq_true hk0
            rw [hlp, if_neg (by omega)]
            obtain ⟨b, off, rfl, hc⟩ := HR5.out.2.2.2.2 hk0
            have q := hc (k - 1) (by omega)
            generalize xs.getD (k - 1) ByteArray.empty = lx at *
            have hkz : (k : Int) - 1 = ((k - 1 : Nat) : Int) := by omega
            have hsl := run_upto (some ⟨b, off, none⟩) k c (k - 1) (by have := HR5.out.2.1; omega)
            have HS2 : Hid (∀ w, RowS w a2 (k - 1) c2 dl → RowS w (some ⟨b, off, none⟩) k c xs → Calls Tryd.prog 17 #[.slice a2 (k - 1) c2, .slice (some ⟨b, off, none⟩) (k - 1) c] w fun e w' => e = .returned (.bool true) ∧ Below w.heap.size w w') := Lib.hid (fun w h1 h2 => by
              have h3 := rowS_take h2 (show k - 1 ≤ k by omega)
              rw [← hdl] at h3
              have := same_any a2 _ c2 dl _ (k - 1) c dl w h1 h3 (by omega) (by omega)
              rw [sameOf_self] at this
              exact this)
            have hkpos : (0 : Int) < (k : Int) := by omega
            have Q := Lib.hid q
            have hkc : k - 1 < k := by omega
            clear hr1 hr2 hs1 hb5 hown5 hdl hdle hdn hlp hc q
            go_wp2_with fail
            refine HS1.out.mono ?_
            rintro e w6 ⟨rfl, hb6⟩
            have HB6 := Lib.hid (bel_trans HB5.out hb6)
            have HR6 := Lib.hid (rowS_below HR5.out hb6)
            have HRA2 := Lib.hid (rowS_below HRA2.out hb6)
            have q := below_cell hb6 Q.out
            clear hb6
            go_wp2_with fail
            refine (HS2.out w6 HRA2.out HR6.out).mono ?_
            rintro e w7 ⟨rfl, hb7⟩
            have hb07 := bel_trans HB6.out hb7
            go_wp2
            go_ret
            exact ⟨rfl, hb07⟩
end Go.Proofs.YtjldpgcbaibpcaaDoor
