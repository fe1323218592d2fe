/- record.Open. -/
import Derived.Test.YtnkkeffjnamcgaaRSeal
import Derived.Test.YtnkkeffjnamcgaaRTake
import Derived.Test.YtnkkeffjnamcgaaRBlank
import Derived.Deep.RegionHeld3
namespace Go.Proofs.Ytnkkeffjnamcgaa
open Go.RowKit

theorem bel_six {w w1 : World} (hb : Below w.heap.size w w1) (b : Nat) (h : w.heap.size ≤ b) (v0 v1 v2 v3 v4 v5 v6 : Value) : Below w.heap.size w (((((((w1.setCell ⟨b, 0, none⟩ v0).setCell ⟨b, 1, none⟩ v1).setCell ⟨b, 2, none⟩ v2).setCell ⟨b, 3, none⟩ v3).setCell ⟨b, 4, none⟩ v4).setCell ⟨b, 5, none⟩ v5).setCell ⟨b, 6, none⟩ v6) :=
  (((((((hb.setCell (p := ⟨b, 0, none⟩) h _).setCell (p := ⟨b, 1, none⟩) h _).setCell (p := ⟨b, 2, none⟩) h _).setCell (p := ⟨b, 3, none⟩) h _).setCell (p := ⟨b, 4, none⟩) h _).setCell (p := ⟨b, 5, none⟩) h _).setCell (p := ⟨b, 6, none⟩) h _)

theorem openOk_at {ds os : List Nat} {h : RH} (hl : os.length = 64) (hh : takeH os = h) : OpenOk ds os ↔ (1 ≤ h.ki ∧ h.ki ≤ 6 ∧ os = sealB h ds (os.drop 32)) := by
  subst hh; unfold OpenOk; simp [hl]
theorem openH_at {ds os : List Nat} {h : RH} (hh : takeH os = h) : openH ds os = if OpenOk ds os then h else RH.zero := by
  subst hh; rfl
theorem row_suffix {w : World} {b off n : Nat} {bs : List Nat} (h : Row w (some ⟨b, off, none⟩) n bs) (k : Nat) (hk : k ≤ n) : Row w (some ⟨b, off + k, none⟩) (n - k) (bs.drop k) := by
  obtain ⟨h1, h2, h3⟩ := h
  refine ⟨by rw [List.length_drop, h1], fun x hx => h2 x (List.mem_of_mem_drop hx), fun h0 => ?_⟩
  obtain ⟨b', off', e, hc⟩ := h3 (by omega)
  cases e
  refine ⟨b, off + k, rfl, fun i hi => ?_⟩
  rw [Nat.add_assoc, hc (k + i) (by omega)]
  simp [List.getD_eq_getElem?_getD, List.getElem?_drop]

theorem bel_of_drew {w w' : World} (h : Below w.drew.heap.size w.drew w') : Below w.heap.size w w' := (Below.refl _ w).drew.trans h
theorem bel_drewN (w : World) (n : Nat) : Below w.heap.size w (w.drewN n) := ⟨rfl, rfl, rfl, Nat.le_refl _, fun _ _ => rfl⟩

set_option maxRecDepth 100000 in
set_option maxHeartbeats 800000 in
theorem open_short (a : Option Addr) (len cap : Nat) (ds : List Nat) (a2 : Option Addr) (len2 cap2 : Nat) (os : List Nat) (w : World) (h64 : len2 ≠ 64) (hr2 : Row w a2 len2 os) :
    Calls Try.prog 34 #[.slice a len cap, .slice a2 len2 cap2] w fun e w' => e = .returned (.tuple #[.agg (openH ds os).cells, .bool (decide (OpenOk ds os))]) ∧ Below w.heap.size w w' := by
  have hno : ¬ OpenOk ds os := fun h => h64 (by rw [← hr2.1]; exact h.1)
  have hz : openH ds os = RH.zero := by unfold openH; rw [if_neg hno]
  have HN := Lib.hid (decide_eq_false hno)
  rw [hz, HN.out]
  clear hno hz hr2
  have hne : ((len2 : Int) != 64) = true := by simp; omega
  go_enter Try.func34, Try.ntmps34
  go_wp2
  refine bodyPost_ret (v := .tuple #[.agg RH.zero.cells, .bool false]) ?_ rfl ⟨rfl, ?_⟩
  · simp [results, Try.results34, go_sem, RH.cells, RH.zero]
  · exact bel_alloc (Below.refl _ w) _

set_option maxRecDepth 100000 in
set_option maxHeartbeats 1600000 in
theorem open_whole (a : Option Addr) (len cap : Nat) (ds : List Nat) (a2 : Option Addr) (cap2 : Nat) (os : List Nat) (w : World) (hr : Row w a len ds) (hl : len ≤ 100000) (hr2 : Row w a2 64 os) (hlc2 : 64 ≤ cap2) (hcm2 : cap2 ≤ maxLen) :
    Calls Try.prog 34 #[.slice a len cap, .slice a2 64 cap2] w fun e w' => e = .returned (.tuple #[.agg (openH ds os).cells, .bool (decide (OpenOk ds os))]) ∧ Below w.heap.size w w' := by
  unfold maxLen at hcm2
  obtain ⟨b2, off2, ha2, _⟩ := hr2.2.2 (by omega)
  subst ha2
  go_enter Try.func34, Try.ntmps34
  go_wp2_with fail
  obtain ⟨W1, hW1⟩ : ∃ W1, W1 = w.alloc (.cells #[.int .u8 0, .int .u32 0, .int .u32 0, .int .u16 0, .int .u16 0, .int .u32 0, .int .u32 0] 27) := ⟨_, rfl⟩
  have hz1 : W1.heap.size = w.heap.size + 1 := by rw [hW1]; simp
  have hb1 : Below w.heap.size w W1 := by rw [hW1]; exact bel_alloc (Below.refl _ w) _
  have h01 : W1.heap[w.heap.size]? = some (.cells RH.zero.cells 27 (0, 0)) := by rw [hW1]; exact heap_alloc_new w _
  rw [← hW1]
  clear hW1
  refine (take_any (some ⟨b2, off2, none⟩) cap2 os W1 (row_keep hr2 hb1 (Nat.le_refl _)) (fun e => by cases e)).mono ?_
  rintro e w2 ⟨rfl, hb2⟩
  have hb02 := bel_trans hb1 hb2
  have h02 : w2.heap[w.heap.size]? = some (.cells RH.zero.cells 27 (0, 0)) := by rw [hb2.block _ (by omega)]; exact h01
  have hz2 := hb2.size
  clear hb1 hb2 h01
  have hft : (takeH os).Fits := takeH_fits hr2.2.1 (by have := hr2.1; omega)
  obtain ⟨h, hh⟩ : ∃ h, takeH os = h := ⟨_, rfl⟩
  rw [hh] at hft ⊢
  have HOK := Lib.hid (openOk_at (ds := ds) hr2.1 hh)
  have HOH := Lib.hid (openH_at (ds := ds) hh)
  clear hh
  unfold RH.cells
  go_wp2_with fail
  obtain ⟨W3, hW3⟩ : ∃ W3, W3 = w2.alloc (.cells #[.int .u8 (h.ki : Int), .int .u32 (h.ep : Int), .int .u32 (h.ba : Int), .int .u16 (h.ix : Int), .int .u16 (h.ct : Int), .int .u32 (h.bl : Int), .int .u32 (h.mo : Int)] 27) := ⟨_, rfl⟩
  have hb23 : Below w2.heap.size w2 W3 := by rw [hW3]; exact bel_alloc (Below.refl _ w2) _
  have hh3 : HdrAt h w2.heap.size W3 := by rw [hW3]; exact hdr_new h w2
  have hz3 : W3.heap.size = w2.heap.size + 1 := by rw [hW3]; simp
  have h03 : W3.heap[w.heap.size]? = some (.cells RH.zero.cells 27 (0, 0)) := by rw [hb23.block _ (by omega)]; exact h02
  rw [← hW3]
  clear hW3 h02
  obtain ⟨p, hp⟩ : ∃ p, p = w2.heap.size := ⟨_, rfl⟩
  have hwp : w.heap.size < p := by omega
  have hb03 : Below w.heap.size w W3 := bel_trans hb02 hb23
  rw [← hp] at hh3 hz3 ⊢
  have HZ3 := Lib.hid hz3
  have HR1 : Hid (∀ w', Below W3.heap.size W3 w' → Row w' a len ds ∧ Row w' (some ⟨b2, off2, none⟩) 64 os ∧ Row w' (some ⟨b2, off2 + 32, none⟩) 32 (os.drop 32)) := Lib.hid fun w' hb => by
    have hx := bel_trans hb03 hb
    have hy := row_keep hr2 hx (Nat.le_refl _)
    exact ⟨row_keep hr hx (Nat.le_refl _), hy, row_suffix hy 32 (by omega)⟩
  have HB := Lib.hid hb03
  have HF := Lib.hid hft
  have H03 := Lib.hid h03
  clear hp hz1 hz2 hb02 hb23 hr hr2 hft h03 hb03 hz3
  obtain ⟨c0, c1, c2, c3, c4, c5, c6⟩ := hh3
  by_cases k1 : h.ki < 1
  · have HN : Hid (¬ OpenOk ds os) := Lib.hid fun e => by have := (HOK.out.1 e).1; omega
    have d1 : decide ((h.ki : Int) < 1) = true := decide_eq_true (by omega)
    clear k1
    go_quiet (fail)
    have h04 : (W3.drewN nq).heap[w.heap.size]? = some (.cells RH.zero.cells 27 (0, 0)) := H03.out
    have hb04 : Below w.heap.size w (W3.drewN nq) := bel_trans HB.out (bel_drewN W3 nq)
    obtain ⟨W4, hW4⟩ : ∃ W4, W4 = W3.drewN nq := ⟨_, rfl⟩
    rw [← hW4] at h04 hb04 ⊢
    clear hW4 c0 c1 c2 c3 c4 c5 c6
    obtain ⟨e0, e1, e2, e3, e4, e5, e6⟩ := hdr_cells h04
    have f0 := hdr_free h04 0
    have f1 := hdr_free h04 1
    have f2 := hdr_free h04 2
    have f3 := hdr_free h04 3
    have f4 := hdr_free h04 4
    have f5 := hdr_free h04 5
    have f6 := hdr_free h04 6
    have HZ := Lib.hid (HOH.out.trans (if_neg HN.out))
    have HD := Lib.hid (decide_eq_false HN.out)
    clear h04
    go_wp2
    refine bodyPost_ret (v := .tuple #[.agg RH.zero.cells, .bool false]) ?_ rfl ⟨by rw [HZ.out, HD.out], ?_⟩
    · simp [results, Try.results34, go_sem, RH.cells, RH.zero, e0, e1, e2, e3, e4, e5, e6]
    · exact bel_six hb04 w.heap.size (Nat.le_refl _) _ _ _ _ _ _ _
  · by_cases k6 : 6 < h.ki
    · have HN : Hid (¬ OpenOk ds os) := Lib.hid fun e => by have := (HOK.out.1 e).2.1; omega
      have d1 : decide ((h.ki : Int) < 1) = false := decide_eq_false (by omega)
      have d6 : decide ((6 : Int) < (h.ki : Int)) = true := decide_eq_true (by omega)
      clear k1 k6
      go_quiet (fail)
      have h04 : (W3.drewN nq).heap[w.heap.size]? = some (.cells RH.zero.cells 27 (0, 0)) := H03.out
      have hb04 : Below w.heap.size w (W3.drewN nq) := bel_trans HB.out (bel_drewN W3 nq)
      obtain ⟨W4, hW4⟩ : ∃ W4, W4 = W3.drewN nq := ⟨_, rfl⟩
      rw [← hW4] at h04 hb04 ⊢
      clear hW4 c0 c1 c2 c3 c4 c5 c6
      obtain ⟨e0, e1, e2, e3, e4, e5, e6⟩ := hdr_cells h04
      have f0 := hdr_free h04 0
      have f1 := hdr_free h04 1
      have f2 := hdr_free h04 2
      have f3 := hdr_free h04 3
      have f4 := hdr_free h04 4
      have f5 := hdr_free h04 5
      have f6 := hdr_free h04 6
      have HZ := Lib.hid (HOH.out.trans (if_neg HN.out))
      have HD := Lib.hid (decide_eq_false HN.out)
      clear h04
      go_wp2
      refine bodyPost_ret (v := .tuple #[.agg RH.zero.cells, .bool false]) ?_ rfl ⟨by rw [HZ.out, HD.out], ?_⟩
      · simp [results, Try.results34, go_sem, RH.cells, RH.zero, e0, e1, e2, e3, e4, e5, e6]
      · exact bel_six hb04 w.heap.size (Nat.le_refl _) _ _ _ _ _ _ _
    · have d1 : decide ((h.ki : Int) < 1) = false := decide_eq_false (by omega)
      have d6 : decide ((6 : Int) < (h.ki : Int)) = false := decide_eq_false (by omega)
      have HK : Hid (1 ≤ h.ki ∧ h.ki ≤ 6) := Lib.hid ⟨by omega, by omega⟩
      have hz : (32 : Int) ≤ 64 := by omega
      have hcc : (64 : Int) ≤ (cap2 : Int) := by omega
      obtain ⟨E, hE⟩ : ∃ E, decide (os = sealB h ds (os.drop 32)) = E := ⟨_, rfl⟩
      have HE := Lib.hid hE
      have HSEAL : Hid (Calls Try.prog 33 #[.agg #[.int .u8 (h.ki : Int), .int .u32 (h.ep : Int), .int .u32 (h.ba : Int), .int .u16 (h.ix : Int), .int .u16 (h.ct : Int), .int .u32 (h.bl : Int), .int .u32 (h.mo : Int)], .slice a len cap, .slice (some ⟨b2, off2 + 32, none⟩) 32 (cap2 - 32)] W3.drew (RetOwn W3.drew (sealB h ds (os.drop 32)))) :=
        Lib.hid (seal_any h HF.out a len cap ds (some ⟨b2, off2 + 32, none⟩) 32 (cap2 - 32) (os.drop 32) W3.drew (HR1.out _ (Below.refl _ W3).drew).1 hl (HR1.out _ (Below.refl _ W3).drew).2.2 (by omega) (by unfold maxLen; omega) (fun e => by cases e) (by omega))
      have HCN : Hid (¬ cap2 = 32) := Lib.hid (by omega)
      clear hE k1 k6
      go_region_held3 (fun w' => w'.cell? ⟨p, 0, none⟩ = some (.int .u8 (h.ki : Int)) ∧ w'.cell? ⟨p, 1, none⟩ = some (.int .u32 (h.ep : Int)) ∧ w'.cell? ⟨p, 2, none⟩ = some (.int .u32 (h.ba : Int)) ∧ w'.cell? ⟨p, 3, none⟩ = some (.int .u16 (h.ix : Int)) ∧ w'.cell? ⟨p, 4, none⟩ = some (.int .u16 (h.ct : Int)) ∧ w'.cell? ⟨p, 5, none⟩ = some (.int .u32 (h.bl : Int)) ∧ w'.cell? ⟨p, 6, none⟩ = some (.int .u32 (h.mo : Int)))
        (first | exact hS | go_keep)
        (first
          | (go_simp; go_at_call 33; rw [if_neg HCN.out]; ((with_reducible refine HSEAL.out.mono ?_)); (intro e w5 h5; obtain ⟨a5, k5, rfl, hr5, _, _, hb5⟩ := retOwn_len h5; rw [sealB_len] at hr5 ⊢; have hS := HdrAt.below (h := h) (B := p) ⟨c0, c1, c2, c3, c4, c5, c6⟩ ((Below.refl _ W3).drew.trans hb5) (show p < W3.heap.size by rw [HZ3.out]; exact Nat.lt_succ_self _)))
          | (go_simp; go_at_call 63; ((with_reducible refine (equal_any _ 64 _ a5 64 k5 os _ w5 (HR1.out _ (bel_of_drew hb5)).2.1 hr5).mono ?_)); (rintro e w6 ⟨rfl, rfl⟩; rw [HE.out])))
      have hb06 : Below w.heap.size w w6 := bel_trans HB.out (bel_of_drew hb5)
      have h06 : w6.heap[w.heap.size]? = some (.cells RH.zero.cells 27 (0, 0)) := by rw [hb5.block _ (show w.heap.size < W3.heap.size by rw [HZ3.out]; omega)]; exact H03.out
      obtain ⟨e0, e1, e2, e3, e4, e5, e6⟩ := hdr_cells h06
      have f0 := hdr_free h06 0
      have f1 := hdr_free h06 1
      have f2 := hdr_free h06 2
      have f3 := hdr_free h06 3
      have f4 := hdr_free h06 4
      have f5 := hdr_free h06 5
      have f6 := hdr_free h06 6
      obtain ⟨g0, g1, g2, g3, g4, g5, g6⟩ := hS
      clear h5 hr5 hb5 h06 HSEAL c0 c1 c2 c3 c4 c5 c6
      cases E with
      | true =>
        have HN : Hid (OpenOk ds os) := Lib.hid (HOK.out.2 ⟨HK.out.1, HK.out.2, of_decide_eq_true HE.out⟩)
        have HZ := Lib.hid (HOH.out.trans (if_pos HN.out))
        have HD := Lib.hid (decide_eq_true HN.out)
        go_wp2
        refine bodyPost_ret (v := .tuple #[.agg h.cells, .bool true]) ?_ rfl ⟨by rw [HZ.out, HD.out], ?_⟩
        · simp [results, Try.results34, go_sem, RH.cells, e0, e1, e2, e3, e4, e5, e6]
        · exact bel_six hb06 w.heap.size (Nat.le_refl _) _ _ _ _ _ _ _
      | false =>
        have HN : Hid (¬ OpenOk ds os) := Lib.hid fun e => of_decide_eq_false HE.out (HOK.out.1 e).2.2
        have HZ := Lib.hid (HOH.out.trans (if_neg HN.out))
        have HD := Lib.hid (decide_eq_false HN.out)
        clear g0 g1 g2 g3 g4 g5 g6
        go_wp2
        refine bodyPost_ret (v := .tuple #[.agg RH.zero.cells, .bool false]) ?_ rfl ⟨by rw [HZ.out, HD.out], ?_⟩
        · simp [results, Try.results34, go_sem, RH.cells, RH.zero, e0, e1, e2, e3, e4, e5, e6]
        · exact bel_six hb06 w.heap.size (Nat.le_refl _) _ _ _ _ _ _ _
theorem open_any (a : Option Addr) (len cap : Nat) (ds : List Nat) (a2 : Option Addr) (len2 cap2 : Nat) (os : List Nat) (w : World) (hr : Row w a len ds) (hl : len ≤ 100000) (hr2 : Row w a2 len2 os) (hlc2 : len2 ≤ cap2) (hcm2 : cap2 ≤ maxLen) :
    Calls Try.prog 34 #[.slice a len cap, .slice a2 len2 cap2] w fun e w' => e = .returned (.tuple #[.agg (openH ds os).cells, .bool (decide (OpenOk ds os))]) ∧ Below w.heap.size w w' := by
  by_cases h64 : len2 = 64
  · subst h64; exact open_whole a len cap ds a2 cap2 os w hr hl hr2 hlc2 hcm2
  · exact open_short a len cap ds a2 len2 cap2 os w h64 hr2

end Go.Proofs.Ytnkkeffjnamcgaa
