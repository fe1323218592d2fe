/- gabionref05.Open. -/
import Derived.Test.YtnkkeffjnamcgaaROpen
import Derived.Test.YtnkkeffjnamcgaaRRefNum
import Derived.Deep.DeepCutAuto
namespace Go.Proofs.Ytnkkeffjnamcgaa
open Go.RowKit

theorem wide_cells {p : Nat} {h : RH} {w : World} (hh : w.heap[p]? = some (.cells h.wide 72 (0, 0))) : WideAt h p w := by
  unfold WideAt
  refine ⟨?_, ?_, ?_, ?_, ?_, ?_, ?_⟩ <;> simp [World.cell?, hh, RH.wide]
theorem wide_free {p : Nat} {h : RH} {w : World} (hh : w.heap[p]? = some (.cells h.wide 72 (0, 0))) (k : Nat) : w.frozen? ⟨p, k, none⟩ = false := by
  simp [World.frozen?, hh]
set_option maxRecDepth 100000 in
set_option maxHeartbeats 800000 in
theorem refOpen_short (a : Option Addr) (len cap : Nat) (ds : List Nat) (a2 : Option Addr) (len2 cap2 : Nat) (os : List Nat) (w : World) (h64 : len2 ≠ 64) (hr2 : Row w a2 len2 os) :
    Calls Try.prog 22 #[.slice a len cap, .slice a2 len2 cap2] w fun e w' => e = .returned (.tuple #[.agg (openH ds os).wide, .bool (decide (OpenOk ds os))]) ∧ Below w.heap.size w w' := by
  have hno : ¬ OpenOk ds os := fun h => h64 (by rw [← hr2.1]; exact h.1)
  have hz : openH ds os = RH.zero := by unfold openH; rw [if_neg hno]
  have HN := Lib.hid (decide_eq_false hno)
  rw [hz, HN.out]
  clear hno hz hr2
  have hne : ((len2 : Int) != 64) = true := by simp; omega
  go_enter Try.func22, Try.ntmps22
  go_wp2
  refine bodyPost_ret (v := .tuple #[.agg RH.zero.wide, .bool false]) ?_ rfl ⟨rfl, ?_⟩
  · simp [results, Try.results22, go_sem, RH.wide, RH.zero]
  · exact bel_alloc (Below.refl _ w) _

set_option maxRecDepth 100000 in
set_option maxHeartbeats 1600000 in
theorem refOpen_whole (a : Option Addr) (len cap : Nat) (ds : List Nat) (a2 : Option Addr) (cap2 : Nat) (os : List Nat) (w : World) (hr : Row w a len ds) (hl : len ≤ 1000) (hn : a = none → cap = 0) (hr2 : Row w a2 64 os) (hlc2 : 64 ≤ cap2) (hcm2 : cap2 ≤ maxLen) :
    Calls Try.prog 22 #[.slice a len cap, .slice a2 64 cap2] w fun e w' => e = .returned (.tuple #[.agg (openH ds os).wide, .bool (decide (OpenOk ds os))]) ∧ Below w.heap.size w w' := by
  unfold maxLen at hcm2
  obtain ⟨b2, off2, ha2, _⟩ := hr2.2.2 (by omega)
  subst ha2
  go_enter Try.func22, Try.ntmps22
  go_wp2_with fail
  obtain ⟨W1, hW1⟩ : ∃ W1, W1 = w.alloc (.cells #[.int .i64 0, .int .i64 0, .int .i64 0, .int .i64 0, .int .i64 0, .int .i64 0, .int .i64 0] 72) := ⟨_, rfl⟩
  have hz1 : W1.heap.size = w.heap.size + 1 := by rw [hW1]; simp
  have hb1 : Below w.heap.size w W1 := by rw [hW1]; exact bel_alloc (Below.refl _ w) _
  have h01 : W1.heap[w.heap.size]? = some (.cells RH.zero.wide 72 (0, 0)) := by rw [hW1]; exact heap_alloc_new w _
  rw [← hW1]
  clear hW1
  have hft : (takeH os).Fits := takeH_fits hr2.2.1 (by have := hr2.1; omega)
  obtain ⟨h, hh⟩ : ∃ h, takeH os = h := ⟨_, rfl⟩
  rw [hh] at hft
  have HOK := Lib.hid (openOk_at (ds := ds) hr2.1 hh)
  have HOH := Lib.hid (openH_at (ds := ds) hh)
  have Hki : Hid (os.getD 2 0 = h.ki) := Lib.hid (by rw [← hh]; rfl)
  have Hep : Hid (leVal ((os.drop 4).take 4) = h.ep) := Lib.hid (by rw [← hh]; rfl)
  have Hba : Hid (leVal ((os.drop 8).take 4) = h.ba) := Lib.hid (by rw [← hh]; rfl)
  have Hix : Hid (leVal ((os.drop 12).take 2) = h.ix) := Lib.hid (by rw [← hh]; rfl)
  have Hct : Hid (leVal ((os.drop 14).take 2) = h.ct) := Lib.hid (by rw [← hh]; rfl)
  have Hbl : Hid (leVal ((os.drop 16).take 4) = h.bl) := Lib.hid (by rw [← hh]; rfl)
  have Hmo : Hid (leVal ((os.drop 20).take 4) = h.mo) := Lib.hid (by rw [← hh]; rfl)
  clear hh
  have HRO : Hid (∀ wx, Below W1.heap.size W1 wx → Row wx (some ⟨b2, off2, none⟩) 64 os) := Lib.hid fun wx hb => row_keep hr2 (bel_trans hb1 hb) (Nat.le_refl _)
  have Nep : Hid (∀ wx, Below W1.heap.size W1 wx → Calls Try.prog 43 #[.slice (some ⟨b2, off2, none⟩) 64 cap2, .int .i64 4, .int .i64 4] wx fun e w' => e = .returned (.int .u64 (h.ep : Int)) ∧ w' = wx) := Lib.hid fun wx hb => by
    have q := refNum_any (some ⟨b2, off2, none⟩) 64 cap2 os 4 4 wx (HRO.out wx hb) (by omega) (by omega) (by omega)
    rw [Hep.out] at q
    exact q
  have Nba : Hid (∀ wx, Below W1.heap.size W1 wx → Calls Try.prog 43 #[.slice (some ⟨b2, off2, none⟩) 64 cap2, .int .i64 8, .int .i64 4] wx fun e w' => e = .returned (.int .u64 (h.ba : Int)) ∧ w' = wx) := Lib.hid fun wx hb => by
    have q := refNum_any (some ⟨b2, off2, none⟩) 64 cap2 os 8 4 wx (HRO.out wx hb) (by omega) (by omega) (by omega)
    rw [Hba.out] at q
    exact q
  have Nix : Hid (∀ wx, Below W1.heap.size W1 wx → Calls Try.prog 43 #[.slice (some ⟨b2, off2, none⟩) 64 cap2, .int .i64 12, .int .i64 2] wx fun e w' => e = .returned (.int .u64 (h.ix : Int)) ∧ w' = wx) := Lib.hid fun wx hb => by
    have q := refNum_any (some ⟨b2, off2, none⟩) 64 cap2 os 12 2 wx (HRO.out wx hb) (by omega) (by omega) (by omega)
    rw [Hix.out] at q
    exact q
  have Nct : Hid (∀ wx, Below W1.heap.size W1 wx → Calls Try.prog 43 #[.slice (some ⟨b2, off2, none⟩) 64 cap2, .int .i64 14, .int .i64 2] wx fun e w' => e = .returned (.int .u64 (h.ct : Int)) ∧ w' = wx) := Lib.hid fun wx hb => by
    have q := refNum_any (some ⟨b2, off2, none⟩) 64 cap2 os 14 2 wx (HRO.out wx hb) (by omega) (by omega) (by omega)
    rw [Hct.out] at q
    exact q
  have Nbl : Hid (∀ wx, Below W1.heap.size W1 wx → Calls Try.prog 43 #[.slice (some ⟨b2, off2, none⟩) 64 cap2, .int .i64 16, .int .i64 4] wx fun e w' => e = .returned (.int .u64 (h.bl : Int)) ∧ w' = wx) := Lib.hid fun wx hb => by
    have q := refNum_any (some ⟨b2, off2, none⟩) 64 cap2 os 16 4 wx (HRO.out wx hb) (by omega) (by omega) (by omega)
    rw [Hbl.out] at q
    exact q
  have Nmo : Hid (∀ wx, Below W1.heap.size W1 wx → Calls Try.prog 43 #[.slice (some ⟨b2, off2, none⟩) 64 cap2, .int .i64 20, .int .i64 4] wx fun e w' => e = .returned (.int .u64 (h.mo : Int)) ∧ w' = wx) := Lib.hid fun wx hb => by
    have q := refNum_any (some ⟨b2, off2, none⟩) 64 cap2 os 20 4 wx (HRO.out wx hb) (by omega) (by omega) (by omega)
    rw [Hmo.out] at q
    exact q
  have hck : W1.cell? ⟨b2, off2 + 2, none⟩ = some (.int .u8 (h.ki : Int)) := by
    obtain ⟨b', off', e, hc⟩ := (HRO.out W1 (Below.refl _ _)).2.2 (by omega)
    cases e
    rw [hc 2 (by omega), Hki.out]
  have hbd : Below W1.heap.size W1 W1.drew := (Below.refl _ W1).drew
  have hba : ∀ o, Below W1.heap.size W1 (W1.drew.alloc o) := fun o => hbd.alloc (Nat.le_refl _) o
  have hbc : ∀ o, Below W1.heap.size W1 (W1.alloc o).drew := fun o => (bel_alloc (Below.refl _ W1) o).drew
  obtain ⟨l0, l1, l2, l3, l4, l5, l6⟩ := hft
  have w0 : IntKind.i64.wrap (h.ki : Int) = (h.ki : Int) := by rw [IntKind.wrap_i64]; omega
  have w1 : IntKind.i64.wrap (h.ep : Int) = (h.ep : Int) := by rw [IntKind.wrap_i64]; omega
  have w2 : IntKind.i64.wrap (h.ba : Int) = (h.ba : Int) := by rw [IntKind.wrap_i64]; omega
  have w3 : IntKind.i64.wrap (h.ix : Int) = (h.ix : Int) := by rw [IntKind.wrap_i64]; omega
  have w4 : IntKind.i64.wrap (h.ct : Int) = (h.ct : Int) := by rw [IntKind.wrap_i64]; omega
  have w5 : IntKind.i64.wrap (h.bl : Int) = (h.bl : Int) := by rw [IntKind.wrap_i64]; omega
  have w6 : IntKind.i64.wrap (h.mo : Int) = (h.mo : Int) := by rw [IntKind.wrap_i64]; omega
  have hft : h.Fits := ⟨l0, l1, l2, l3, l4, l5, l6⟩
  have HFT := Lib.hid hft
  have HB1 := Lib.hid hb1
  have HZ1 := Lib.hid hz1
  have H01 := Lib.hid h01
  have j0 : (0 : Int) ≤ 2 := by omega
  clear hft hb1 hz1 h01
  go_upto_region 3 with fail
  go_cut [6] (fun s6 wx => s6 = .pointer (some ⟨W1.heap.size, 0, none⟩) ∧ wx = (W1.alloc (.cells #[.int .i64 (h.ki : Int), .int .i64 (h.ep : Int), .int .i64 (h.ba : Int), .int .i64 (h.ix : Int), .int .i64 (h.ct : Int), .int .i64 (h.bl : Int), .int .i64 (h.mo : Int)] 72)).drew)
  case first =>
    go_region_held3 (fun w' => w'.cell? ⟨b2, off2 + 2, none⟩ = some (.int .u8 (h.ki : Int))) (go_keep)
      (first
        | (go_simp; go_at_call 43; ((with_reducible refine (Nep.out _ ?_).mono ?_)); (· first | exact hbd | exact hba _ | exact hbc _); (rintro e w' ⟨rfl, rfl⟩))
        | (go_simp; go_at_call 43; ((with_reducible refine (Nba.out _ ?_).mono ?_)); (· first | exact hbd | exact hba _ | exact hbc _); (rintro e w' ⟨rfl, rfl⟩))
        | (go_simp; go_at_call 43; ((with_reducible refine (Nix.out _ ?_).mono ?_)); (· first | exact hbd | exact hba _ | exact hbc _); (rintro e w' ⟨rfl, rfl⟩))
        | (go_simp; go_at_call 43; ((with_reducible refine (Nct.out _ ?_).mono ?_)); (· first | exact hbd | exact hba _ | exact hbc _); (rintro e w' ⟨rfl, rfl⟩))
        | (go_simp; go_at_call 43; ((with_reducible refine (Nbl.out _ ?_).mono ?_)); (· first | exact hbd | exact hba _ | exact hbc _); (rintro e w' ⟨rfl, rfl⟩))
        | (go_simp; go_at_call 43; ((with_reducible refine (Nmo.out _ ?_).mono ?_)); (· first | exact hbd | exact hba _ | exact hbc _); (rintro e w' ⟨rfl, rfl⟩)))
    all_goals (go_wp2_with fail; go_meet; exact ⟨rfl, rfl⟩)
  case rest =>
  obtain ⟨rfl, hwx⟩ := hcut
  obtain ⟨W3, hW3⟩ : ∃ W3, W3 = (W1.alloc (.cells #[.int .i64 (h.ki : Int), .int .i64 (h.ep : Int), .int .i64 (h.ba : Int), .int .i64 (h.ix : Int), .int .i64 (h.ct : Int), .int .i64 (h.bl : Int), .int .i64 (h.mo : Int)] 72)).drew := ⟨_, rfl⟩
  have hb13 : Below W1.heap.size W1 W3 := by rw [hW3]; exact hbc _
  have hh3 : WideAt h W1.heap.size W3 := by rw [hW3]; exact wide_new h W1
  have hz3 : W3.heap.size = W1.heap.size + 1 := by rw [hW3]; show (W1.alloc _).heap.size = _; simp
  have h03 : W3.heap[w.heap.size]? = some (.cells RH.zero.wide 72 (0, 0)) := by rw [hb13.block _ (by have := HZ1.out; omega)]; exact H01.out
  rw [← hW3] at hwx
  rw [hwx]
  clear hW3 hwx wc
  go_upto_region 4 with fail
  have hft := HFT.out
  have hb03 : Below w.heap.size w W3 := bel_trans HB1.out hb13
  have hz1 := HZ1.out
  clear Nep Nba Nix Nct Nbl Nmo w0 w1 w2 w3 w4 w5 w6 hbd hba hbc hck l0 l1 l2 l3 l4 l5 l6 Hki Hep Hba Hix Hct Hbl Hmo HRO
  obtain ⟨p, hp⟩ : ∃ p, p = W1.heap.size := ⟨_, rfl⟩
  have hwp : w.heap.size < p := by omega
  rw [← hp] at hh3 hz3 ⊢
  have HZ3 := Lib.hid hz3
  have HR1 : Hid (∀ w', Below W3.heap.size W3 w' → Row w' a len ds ∧ Row w' (some ⟨b2, off2, none⟩) 64 os ∧ Row w' (some ⟨b2, off2 + 32, none⟩) 32 (os.drop 32)) := Lib.hid fun w' hb => by
    have hx := bel_trans hb03 hb
    have hy := row_keep hr2 hx (Nat.le_refl _)
    exact ⟨row_keep hr hx (Nat.le_refl _), hy, row_suffix hy 32 (by omega)⟩
  have HB := Lib.hid hb03
  have HF := Lib.hid hft
  have H03 := Lib.hid h03
  clear hp hz1 hb13 hr hr2 hft h03 hb03 hz3
  obtain ⟨c0, c1, c2, c3, c4, c5, c6⟩ := hh3
  by_cases k1 : h.ki < 1
  · have HN : Hid (¬ OpenOk ds os) := Lib.hid fun e => by have := (HOK.out.1 e).1; omega
    have d1 : decide ((h.ki : Int) < 1) = true := decide_eq_true (by omega)
    clear k1
    go_quiet (fail)
    have h04 : (W3.drewN nq).heap[w.heap.size]? = some (.cells RH.zero.wide 72 (0, 0)) := H03.out
    have hb04 : Below w.heap.size w (W3.drewN nq) := bel_trans HB.out (bel_drewN W3 nq)
    obtain ⟨W4, hW4⟩ : ∃ W4, W4 = W3.drewN nq := ⟨_, rfl⟩
    rw [← hW4] at h04 hb04 ⊢
    clear hW4 c0 c1 c2 c3 c4 c5 c6
    obtain ⟨e0, e1, e2, e3, e4, e5, e6⟩ := wide_cells h04
    have f0 := wide_free h04 0
    have f1 := wide_free h04 1
    have f2 := wide_free h04 2
    have f3 := wide_free h04 3
    have f4 := wide_free h04 4
    have f5 := wide_free h04 5
    have f6 := wide_free h04 6
    have HZ := Lib.hid (HOH.out.trans (if_neg HN.out))
    have HD := Lib.hid (decide_eq_false HN.out)
    clear h04
    go_wp2
    refine bodyPost_ret (v := .tuple #[.agg RH.zero.wide, .bool false]) ?_ rfl ⟨by rw [HZ.out, HD.out], ?_⟩
    · simp [results, Try.results22, go_sem, RH.wide, RH.zero, e0, e1, e2, e3, e4, e5, e6]
    · exact bel_six hb04 w.heap.size (Nat.le_refl _) _ _ _ _ _ _ _
  · by_cases k6 : 6 < h.ki
    · have HN : Hid (¬ OpenOk ds os) := Lib.hid fun e => by have := (HOK.out.1 e).2.1; omega
      have d1 : decide ((h.ki : Int) < 1) = false := decide_eq_false (by omega)
      have d6 : decide ((6 : Int) < (h.ki : Int)) = true := decide_eq_true (by omega)
      clear k1 k6
      go_quiet (fail)
      have h04 : (W3.drewN nq).heap[w.heap.size]? = some (.cells RH.zero.wide 72 (0, 0)) := H03.out
      have hb04 : Below w.heap.size w (W3.drewN nq) := bel_trans HB.out (bel_drewN W3 nq)
      obtain ⟨W4, hW4⟩ : ∃ W4, W4 = W3.drewN nq := ⟨_, rfl⟩
      rw [← hW4] at h04 hb04 ⊢
      clear hW4 c0 c1 c2 c3 c4 c5 c6
      obtain ⟨e0, e1, e2, e3, e4, e5, e6⟩ := wide_cells h04
      have f0 := wide_free h04 0
      have f1 := wide_free h04 1
      have f2 := wide_free h04 2
      have f3 := wide_free h04 3
      have f4 := wide_free h04 4
      have f5 := wide_free h04 5
      have f6 := wide_free h04 6
      have HZ := Lib.hid (HOH.out.trans (if_neg HN.out))
      have HD := Lib.hid (decide_eq_false HN.out)
      clear h04
      go_wp2
      refine bodyPost_ret (v := .tuple #[.agg RH.zero.wide, .bool false]) ?_ rfl ⟨by rw [HZ.out, HD.out], ?_⟩
      · simp [results, Try.results22, go_sem, RH.wide, RH.zero, e0, e1, e2, e3, e4, e5, e6]
      · exact bel_six hb04 w.heap.size (Nat.le_refl _) _ _ _ _ _ _ _
    · have d1 : decide ((h.ki : Int) < 1) = false := decide_eq_false (by omega)
      have d6 : decide ((6 : Int) < (h.ki : Int)) = false := decide_eq_false (by omega)
      have HK : Hid (1 ≤ h.ki ∧ h.ki ≤ 6) := Lib.hid ⟨by omega, by omega⟩
      have hz : (32 : Int) ≤ 64 := by omega
      have hcc : (64 : Int) ≤ (cap2 : Int) := by omega
      obtain ⟨E, hE⟩ : ∃ E, decide (sealB h ds (os.drop 32) = os) = E := ⟨_, rfl⟩
      have HE := Lib.hid hE
      have HSEAL : Hid (Calls Try.prog 29 #[.agg #[.int .i64 (h.ki : Int), .int .i64 (h.ep : Int), .int .i64 (h.ba : Int), .int .i64 (h.ix : Int), .int .i64 (h.ct : Int), .int .i64 (h.bl : Int), .int .i64 (h.mo : Int)], .slice a len cap, .slice (some ⟨b2, off2 + 32, none⟩) 32 (cap2 - 32)] W3.drew (RetOwn W3.drew (sealB h ds (os.drop 32)))) :=
        Lib.hid (refSeal_any h HF.out a len cap ds (some ⟨b2, off2 + 32, none⟩) 32 (cap2 - 32) (os.drop 32) W3.drew (HR1.out _ (Below.refl _ W3).drew).1 hl hn (HR1.out _ (Below.refl _ W3).drew).2.2 (by omega) (by unfold maxLen; omega) (fun e => by cases e) (by omega))
      have HCN : Hid (¬ cap2 = 32) := Lib.hid (by omega)
      clear hE k1 k6
      go_region_held3 (fun w' => w'.cell? ⟨p, 0, none⟩ = some (.int .i64 (h.ki : Int)) ∧ w'.cell? ⟨p, 1, none⟩ = some (.int .i64 (h.ep : Int)) ∧ w'.cell? ⟨p, 2, none⟩ = some (.int .i64 (h.ba : Int)) ∧ w'.cell? ⟨p, 3, none⟩ = some (.int .i64 (h.ix : Int)) ∧ w'.cell? ⟨p, 4, none⟩ = some (.int .i64 (h.ct : Int)) ∧ w'.cell? ⟨p, 5, none⟩ = some (.int .i64 (h.bl : Int)) ∧ w'.cell? ⟨p, 6, none⟩ = some (.int .i64 (h.mo : Int)))
        (first | exact hS | go_keep)
        (first
          | (go_simp; go_at_call 29; rw [if_neg HCN.out]; ((with_reducible refine HSEAL.out.mono ?_)); (intro e w5 h5; obtain ⟨a5, k5, rfl, hr5, _, _, hb5⟩ := retOwn_len h5; rw [sealB_len] at hr5 ⊢; have hS := WideAt.below (h := h) (B := p) ⟨c0, c1, c2, c3, c4, c5, c6⟩ ((Below.refl _ W3).drew.trans hb5) (show p < W3.heap.size by rw [HZ3.out]; exact Nat.lt_succ_self _)))
          | (go_simp; go_at_call 13; ((with_reducible refine (sameB_any a5 64 k5 _ 64 _ _ os w5 hr5 (HR1.out _ (bel_of_drew hb5)).2.1).mono ?_)); (rintro e w6 ⟨rfl, rfl⟩; rw [HE.out])))
      have hb06 : Below w.heap.size w w6 := bel_trans HB.out (bel_of_drew hb5)
      have h06 : w6.heap[w.heap.size]? = some (.cells RH.zero.wide 72 (0, 0)) := by rw [hb5.block _ (show w.heap.size < W3.heap.size by rw [HZ3.out]; omega)]; exact H03.out
      obtain ⟨e0, e1, e2, e3, e4, e5, e6⟩ := wide_cells h06
      have f0 := wide_free h06 0
      have f1 := wide_free h06 1
      have f2 := wide_free h06 2
      have f3 := wide_free h06 3
      have f4 := wide_free h06 4
      have f5 := wide_free h06 5
      have f6 := wide_free h06 6
      obtain ⟨g0, g1, g2, g3, g4, g5, g6⟩ := hS
      clear h5 hr5 hb5 h06 HSEAL c0 c1 c2 c3 c4 c5 c6
      cases E with
      | true =>
        have HN : Hid (OpenOk ds os) := Lib.hid (HOK.out.2 ⟨HK.out.1, HK.out.2, (of_decide_eq_true HE.out).symm⟩)
        have HZ := Lib.hid (HOH.out.trans (if_pos HN.out))
        have HD := Lib.hid (decide_eq_true HN.out)
        go_wp2
        refine bodyPost_ret (v := .tuple #[.agg h.wide, .bool true]) ?_ rfl ⟨by rw [HZ.out, HD.out], ?_⟩
        · simp [results, Try.results22, go_sem, RH.wide, e0, e1, e2, e3, e4, e5, e6]
        · exact bel_six hb06 w.heap.size (Nat.le_refl _) _ _ _ _ _ _ _
      | false =>
        have HN : Hid (¬ OpenOk ds os) := Lib.hid fun e => of_decide_eq_false HE.out (HOK.out.1 e).2.2.symm
        have HZ := Lib.hid (HOH.out.trans (if_neg HN.out))
        have HD := Lib.hid (decide_eq_false HN.out)
        clear g0 g1 g2 g3 g4 g5 g6
        go_wp2
        refine bodyPost_ret (v := .tuple #[.agg RH.zero.wide, .bool false]) ?_ rfl ⟨by rw [HZ.out, HD.out], ?_⟩
        · simp [results, Try.results22, go_sem, RH.wide, RH.zero, e0, e1, e2, e3, e4, e5, e6]
        · exact bel_six hb06 w.heap.size (Nat.le_refl _) _ _ _ _ _ _ _
theorem refOpen_any (a : Option Addr) (len cap : Nat) (ds : List Nat) (a2 : Option Addr) (len2 cap2 : Nat) (os : List Nat) (w : World) (hr : Row w a len ds) (hl : len ≤ 1000) (hn : a = none → cap = 0) (hr2 : Row w a2 len2 os) (hlc2 : len2 ≤ cap2) (hcm2 : cap2 ≤ maxLen) :
    Calls Try.prog 22 #[.slice a len cap, .slice a2 len2 cap2] w fun e w' => e = .returned (.tuple #[.agg (openH ds os).wide, .bool (decide (OpenOk ds os))]) ∧ Below w.heap.size w w' := by
  by_cases h64 : len2 = 64
  · subst h64; exact refOpen_whole a len cap ds a2 cap2 os w hr hl hn hr2 hlc2 hcm2
  · exact refOpen_short a len cap ds a2 len2 cap2 os w h64 hr2

end Go.Proofs.Ytnkkeffjnamcgaa
