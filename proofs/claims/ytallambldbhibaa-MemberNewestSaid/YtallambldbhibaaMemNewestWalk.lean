/- MemberNewest: the walk. -/
import Derived.Test.YtallambldbhibaaMemNew
namespace Go.Proofs.Ytallambldbhibaa
open Go.RowKit Go.Deep

set_option maxRecDepth 100000 in
set_option maxHeartbeats 1000000 in
theorem memberNewest_big (a : Option Addr) (len cap : Nat) (w : World) (h0 : 20 < len) (htop : len ≤ maxLen) :
    Calls Try.prog 14 #[.slice a len cap] w fun e w' => e = .returned (.bool true) ∧ Below w.heap.size w w' := by
  have HF := Lib.hid memFirst0_any
  have t0 : decide ((20 : Int) < (len : Int)) = true := by simp; omega
  have t0' : decide (20 < len) = true := by simpa using h0
  unfold maxLen at htop
  go_enter Try.func14, Try.ntmps14
  go_wp2_with fail
  ((with_reducible refine (HF.out _).mono ?_))
  rintro e w2 ⟨rfl, hb2⟩
  have HB2 := Lib.hid hb2
  clear hb2
  go_wp2_with fail
  ((with_reducible refine (HF.out _).mono ?_))
  rintro e w3 ⟨rfl, hb3⟩
  have HB3 := Lib.hid (bel_trans HB2.out hb3)
  clear hb3
  go_wp2
  go_ret
  exact ⟨rfl, HB3.out⟩
set_option maxRecDepth 100000 in
set_option maxHeartbeats 1000000 in
theorem memberNewest_none (a : Option Addr) (cap : Nat) (w : World) :
    Calls Try.prog 14 #[.slice a 0 cap] w fun e w' => e = .returned (.bool true) ∧ Below w.heap.size w w' := by
  have HF := Lib.hid memFirst0_any
  have HN := Lib.hid (newest_none cap a)
  go_enter Try.func14, Try.ntmps14
  go_wp2_with fail
  ((with_reducible refine (HF.out _).mono ?_))
  rintro e w2 ⟨rfl, hb2⟩
  have HB2 := Lib.hid hb2
  clear hb2
  go_wp2_with fail
  ((with_reducible refine (HN.out _).mono ?_))
  rintro e w3 ⟨rfl, hb3⟩
  have HB3 := Lib.hid (bel_trans HB2.out hb3)
  clear hb3
  go_wp2
  go_ret
  exact ⟨rfl, bel_alloc HB3.out _⟩
set_option maxRecDepth 100000 in
set_option maxHeartbeats 1000000 in
theorem memberNewest_some (a : Option Addr) (len cap : Nat) (S : Nat → MSet) (w : World) (hr : RowM w a len cap S) (h0 : 0 < len) (h20 : len ≤ 20) :
    Calls Try.prog 14 #[.slice a len cap] w fun e w' => e = .returned (.bool true) ∧ Below w.heap.size w w' := by
  have HF := Lib.hid memFirst0_any
  have HN : Hid (∀ x : World, Below w.heap.size w x → Calls Try.prog 59 #[.slice a len cap] x (NewestRet (S (newI S (len - 1))) x)) := Lib.hid fun x hx => newest_any a len cap S x (hr.step hx) h0 h20
  have HR := Lib.hid hr
  have t0 : decide ((20 : Int) < (len : Int)) = false := by simp; omega
  have t0' : decide (20 < len) = false := by simp; omega
  have t1 : ((len : Int) == 0) = false := by simp; omega
  clear hr
  obtain ⟨ki, hki⟩ : ∃ k, k = newI S (len - 1) := ⟨_, rfl⟩
  rw [← hki] at HN
  have HKL : Hid (ki < len) := Lib.hid (by have := newI_le S (len - 1); omega)
  have HKI := Lib.hid hki
  clear hki
  go_enter Try.func14, Try.ntmps14
  go_wp2_with fail
  ((with_reducible refine (HF.out _).mono ?_))
  rintro e w2 ⟨rfl, hb2⟩
  have HB2 := Lib.hid hb2
  have hn := HN.out w2 hb2
  clear hb2
  go_wp2_with fail
  ((with_reducible refine hn.mono ?_))
  rintro e w3 ⟨v, rfl, ho, hb3⟩
  obtain ⟨b, off, rfl, hc⟩ := (HR.out.step (bel_trans HB2.out hb3)).at_ h0
  obtain ⟨_, hmk, h8⟩ := hc ki HKL.out
  obtain ⟨va, vc, rfl, hrow, _⟩ := ownI_row ho hmk.row.2.2.2.2.1
  rw [hmk.row.1] at hrow ⊢
  have hb4 := bel_alloc (Below.refl _ w3) (.cells #[.int .u32 ((S ki).sq : Int), .slice va (S ki).n vc, .int .i64 (S ki).sp, .int .i64 (S ki).de, .int .i64 (S ki).dn] 113)
  have l4 := heap_alloc_new w3 (.cells #[.int .u32 ((S ki).sq : Int), .slice va (S ki).n vc, .int .i64 (S ki).sp, .int .i64 (S ki).de, .int .i64 (S ki).dn] 113)
  have hrow4 := rowI_below hrow hb4
  have hbw := bel_trans (bel_trans HB2.out hb3) hb4
  have HR4 := HR.out.step hbw
  clear ho hb3 hn hc hmk h8 hrow
  go_upto_region 4 with fail
  obtain ⟨w4, hw4⟩ : ∃ x, x = w3.alloc (.cells #[.int .u32 ((S ki).sq : Int), .slice va (S ki).n vc, .int .i64 (S ki).sp, .int .i64 (S ki).de, .int .i64 (S ki).dn] 113) := ⟨_, rfl⟩
  obtain ⟨sb, hsb⟩ : ∃ x, x = w3.heap.size := ⟨_, rfl⟩
  rw [← hw4, ← hsb] at l4
  rw [← hw4] at hb4 hrow4 hbw HR4
  rw [← hw4, ← hsb]
  have HL4 := Lib.hid l4
  have HROW := Lib.hid hrow4
  have HBW := Lib.hid hbw
  obtain ⟨b', off', e', hc⟩ := HR4.at_ h0
  cases e'
  have HC := Lib.hid hc
  have HRT := Lib.hid HR4.top
  have HRL := Lib.hid HR4.le
  clear hw4 hsb l4 hrow4 hbw HR4 hc hb4
  go_wp2_with fail
  go_loopw [5, 6] (fun x i wr => ∃ j : Nat, 1 ≤ j ∧ j ≤ len ∧ i = .int .i64 (j : Int) ∧ x = .int .i64 (newI S (j - 1) : Nat) ∧ Below w4.heap.size w4 wr) (fun _ i _ => len - (intOf i).toNat)
  case atStart => exact ⟨1, Nat.le_refl _, h0, rfl, rfl, Below.refl _ _⟩
  case round =>
    obtain ⟨j, hj1, hj2, rfl, rfl, hbw⟩ := hrel
    have HB := Lib.hid hbw
    clear hbw
    by_cases hlt : j < len
    · have q1 : decide (j < len) = true := by simpa using hlt
      obtain ⟨p, hp⟩ : ∃ p, p = newI S (j - 1) := ⟨_, rfl⟩
      have hpl : p < len := by have := newI_le S (j - 1); omega
      have HP := Lib.hid hp
      rw [← hp]
      clear hp
      obtain ⟨⟨c0, _⟩, _⟩ := HC.out j hlt
      obtain ⟨⟨d0, _⟩, _⟩ := HC.out p hpl
      replace c0 := cell_step c0 HB.out
      replace d0 := cell_step d0 HB.out
      have i0 : (0 : Int) ≤ (j : Int) := by omega
      have i1 : (j : Int) < (len : Int) := by omega
      have i2 : (0 : Int) ≤ (p : Int) := by omega
      have i3 : (p : Int) < (len : Int) := by omega
      by_cases hgt : (S p).sq < (S j).sq
      · have g1 : decide ((S p).sq < (S j).sq) = true := by simpa using hgt
        have g2 : decide (((S p).sq : Int) < ((S j).sq : Int)) = true := by simpa using hgt
        have HNX : Hid (newI S (j + 1 - 1) = j) := Lib.hid (by
          obtain ⟨i, rfl⟩ : ∃ i, j = i + 1 := ⟨j - 1, by omega⟩
          rw [Nat.add_sub_cancel]
          conv => lhs; unfold newI
          rw [if_pos (by have := HP.out; rw [Nat.add_sub_cancel] at this; rw [← this]; exact hgt)])
        clear hgt
        go_wp2_with fail
        go_quiet (fail)
        go_wp2
        go_roundw
        case rel => exact ⟨j + 1, by omega, by omega, by go_num, by rw [HNX.out], bel_trans HB.out (mbel_drewN _ _)⟩
        case measure => simp [intOf]; omega
      · have g1 : decide ((S p).sq < (S j).sq) = false := by simpa using hgt
        have g2 : decide (((S p).sq : Int) < ((S j).sq : Int)) = false := by simpa using hgt
        have HNX : Hid (newI S (j + 1 - 1) = p) := Lib.hid (by
          obtain ⟨i, rfl⟩ : ∃ i, j = i + 1 := ⟨j - 1, by omega⟩
          rw [Nat.add_sub_cancel]
          conv => lhs; unfold newI
          rw [if_neg (by have := HP.out; rw [Nat.add_sub_cancel] at this; rw [← this]; exact hgt), HP.out, Nat.add_sub_cancel])
        clear hgt
        go_wp2_with fail
        go_quiet (fail)
        go_wp2
        go_roundw
        case rel => exact ⟨j + 1, by omega, by omega, by go_num, by rw [HNX.out], bel_trans HB.out (mbel_drewN _ _)⟩
        case measure => simp [intOf]; omega
    · obtain rfl : j = len := by omega
      have q1 : decide (j < j) = false := by simp
      rw [← HKI.out]
      have hkl := HKL.out
      obtain ⟨⟨c0, c1, c2, c3, c4⟩, hmk, _⟩ := HC.out ki hkl
      obtain ⟨z0, z1, z2, z3, z4⟩ := five_at HL4.out
      obtain ⟨C, hCd⟩ : ∃ C : World → Prop, (∀ x, C x → Below w4.heap.size w4 x) ∧ (∀ x, Below w4.heap.size w4 x → C x) := ⟨_, fun _ h => h, fun _ h => h⟩
      have hC0 := hCd.2 _ HB.out.drew
      haveI hne : Nonempty (Wd C) := ⟨⟨_, hC0⟩⟩
      have HCD := Lib.hid hCd
      clear hCd
      have f0 : ∀ y : Wd C, y.w.cell? ⟨sb, 0, none⟩ = some (.int .u32 ((S ki).sq : Int)) := fun y => cell_step z0 (HCD.out.1 _ y.ok)
      have f1 : ∀ y : Wd C, y.w.cell? ⟨sb, 1, none⟩ = some (.slice va (S ki).n vc) := fun y => cell_step z1 (HCD.out.1 _ y.ok)
      have f2 : ∀ y : Wd C, y.w.cell? ⟨sb, 2, none⟩ = some (.int .i64 (S ki).sp) := fun y => cell_step z2 (HCD.out.1 _ y.ok)
      have f3 : ∀ y : Wd C, y.w.cell? ⟨sb, 3, none⟩ = some (.int .i64 (S ki).de) := fun y => cell_step z3 (HCD.out.1 _ y.ok)
      have f4 : ∀ y : Wd C, y.w.cell? ⟨sb, 4, none⟩ = some (.int .i64 (S ki).dn) := fun y => cell_step z4 (HCD.out.1 _ y.ok)
      have e0 : ∀ y : Wd C, y.w.cell? ⟨b, off + ki * 5, none⟩ = some (.int .u32 ((S ki).sq : Int)) := fun y => cell_step c0 (HCD.out.1 _ y.ok)
      have e1 : ∀ y : Wd C, y.w.cell? ⟨b, off + ki * 5 + 1, none⟩ = some (.slice (S ki).a (S ki).n (S ki).c) := fun y => cell_step c1 (HCD.out.1 _ y.ok)
      have e2 : ∀ y : Wd C, y.w.cell? ⟨b, off + ki * 5 + 2, none⟩ = some (.int .i64 (S ki).sp) := fun y => cell_step c2 (HCD.out.1 _ y.ok)
      have e3 : ∀ y : Wd C, y.w.cell? ⟨b, off + ki * 5 + 3, none⟩ = some (.int .i64 (S ki).de) := fun y => cell_step c3 (HCD.out.1 _ y.ok)
      have e4 : ∀ y : Wd C, y.w.cell? ⟨b, off + ki * 5 + 4, none⟩ = some (.int .i64 (S ki).dn) := fun y => cell_step c4 (HCD.out.1 _ y.ok)
      have HST : Hid (∀ (y : Wd C) (z : World), Below y.w.heap.size y.w z → C z) := Lib.hid fun y z hb => HCD.out.2 _ (bel_trans (HCD.out.1 _ y.ok) hb)
      have HO1 := Lib.hid fun (x : World) => memOf_any ((S ki).sq : Int) va (S ki).n vc (S ki).sp (S ki).de (S ki).dn x (by omega) (by have := hmk.sq; omega)
      have HO2 := Lib.hid fun (x : World) => memOf_any ((S ki).sq : Int) (S ki).a (S ki).n (S ki).c (S ki).sp (S ki).de (S ki).dn x (by omega) (by have := hmk.sq; omega)
      have HSM : Hid (∀ y : Wd C, Calls Try.prog 53 #[setV ((S ki).sq : Int) va (S ki).n vc (S ki).sp (S ki).de (S ki).dn, setV ((S ki).sq : Int) (S ki).a (S ki).n (S ki).c (S ki).sp (S ki).de (S ki).dn] y.w fun e w' => e = .returned (.bool true) ∧ Below y.w.heap.size y.w w') := Lib.hid fun y =>
        memSame_yes _ _ _ _ va (S ki).a (S ki).n vc (S ki).c (S ki).L y.w (rowI_below HROW.out (HCD.out.1 _ y.ok)) (rowI_below hmk.row (HCD.out.1 _ y.ok))
      have i0 : (0 : Int) ≤ (ki : Int) := by omega
      have i1 : (ki : Int) < (j : Int) := by omega
      clear hlt c0 c1 c2 c3 c4 z0 z1 z2 z3 z4
      unfold setV at HO1 HO2 HSM
      go_wp2_with fail
      refine wp_region_wd C (by kernel_rfl) (by kernel_rfl) hC0 ?_
      repeat (go_big_quiet_step (first
        | (go_at_call 54; with_reducible exact Calls.wd (HST.out _) (HO1.out _))
        | (go_at_call 54; with_reducible exact Calls.wd (HST.out _) (HO2.out _))
        | (go_at_call 53; with_reducible exact Calls.wd (HST.out _) (HSM.out _))))
      refine wpQuiet_nil ?_
      intro _ hw'
      obtain ⟨y, rfl⟩ := hw'
      have hbe := bel_trans HBW.out (HCD.out.1 _ y.ok)
      go_wp2
      go_ret
      exact ⟨rfl, hbe⟩
theorem memberNewest_all (a : Option Addr) (len cap : Nat) (S : Nat → MSet) (w : World) (hr : RowM w a len cap S) :
    Calls Try.prog 14 #[.slice a len cap] w fun e w' => e = .returned (.bool true) ∧ Below w.heap.size w w' := by
  rcases Nat.eq_zero_or_pos len with h | h
  · subst h; exact memberNewest_none a cap w
  · by_cases h20 : len ≤ 20
    · exact memberNewest_some a len cap S w hr h h20
    · exact memberNewest_big a len cap w (by omega) (Nat.le_trans hr.le hr.top)
end Go.Proofs.Ytallambldbhibaa
