/- StripeMany: the walk. -/
import Derived.Test.YtnhklomofebfaaaStMany
import Derived.Test.YtnhklomofebfaaaWd
namespace Go.Proofs.Ytnhklomofebfaaa
open Go.RowKit Go.Deep

set_option maxRecDepth 100000 in
set_option maxHeartbeats 1000000 in
theorem stripeMany_big (c sg rw : Int) (ha : Option Addr) (hn hc : Nat) (fa : Option Addr) (fn fc : Nat) (dd sp : Int) (ba : Option Addr) (bn bc : Nat) (nn : Int) (w : World) (hbig : 10 < hn) :
    Calls Try.prog 3 #[.agg #[.int .i64 c, .int .i64 sg, .int .i64 rw, .slice ha hn hc, .slice fa fn fc, .int .i64 dd, .int .i64 sp, .slice ba bn bc], .int .i64 nn] w fun e w' => e = .returned (.bool true) ∧ Below w.heap.size w w' := by
  have HKE := Lib.hid kept_any
  have t1 : decide ((10 : Int) < (hn : Int)) = true := by simp; omega
  have t1' : decide (10 < hn) = true := by simpa using hbig
  clear hbig
  go_enter Try.func3, Try.ntmps3
  have l0 := heap_alloc_new w (.cells #[.int .i64 c, .int .i64 sg, .int .i64 rw, .slice ha hn hc, .slice fa fn fc, .int .i64 dd, .int .i64 sp, .slice ba bn bc] 25)
  have hb0 := bel_alloc (Below.refl _ w) (.cells #[.int .i64 c, .int .i64 sg, .int .i64 rw, .slice ha hn hc, .slice fa fn fc, .int .i64 dd, .int .i64 sp, .slice ba bn bc] 25)
  go_upto_region 1 with fail
  obtain ⟨w0, hw0⟩ : ∃ x, x = w.alloc (.cells #[.int .i64 c, .int .i64 sg, .int .i64 rw, .slice ha hn hc, .slice fa fn fc, .int .i64 dd, .int .i64 sp, .slice ba bn bc] 25) := ⟨_, rfl⟩
  obtain ⟨cb, hcb⟩ : ∃ x, x = w.heap.size := ⟨_, rfl⟩
  rw [← hw0, ← hcb] at l0
  rw [← hw0] at hb0
  rw [← hw0, ← hcb]
  have HX0 : Hid (∀ x : World, Below w0.heap.size w0 x → x.cell? ⟨cb, 0, none⟩ = some (.int .i64 c) ∧ x.cell? ⟨cb, 1, none⟩ = some (.int .i64 sg) ∧ x.cell? ⟨cb, 2, none⟩ = some (.int .i64 rw) ∧ x.cell? ⟨cb, 3, none⟩ = some (.slice ha hn hc) ∧ x.cell? ⟨cb, 4, none⟩ = some (.slice fa fn fc) ∧ x.cell? ⟨cb, 5, none⟩ = some (.int .i64 dd) ∧ x.cell? ⟨cb, 6, none⟩ = some (.int .i64 sp) ∧ x.cell? ⟨cb, 7, none⟩ = some (.slice ba bn bc)) := Lib.hid fun x hx => eight_at ((hx.block _ (Array.getElem?_eq_some_iff.1 l0).1).trans l0)
  have HB0 := Lib.hid hb0
  clear hw0 hcb hb0 l0
  go_wp2_with fail
  ((with_reducible refine (HKE.out _).mono ?_))
  rintro e w1 ⟨rfl, hb1⟩
  have HB1 := Lib.hid (bel_trans HB0.out hb1)
  obtain ⟨z0, z1, z2, z3, z4, z5, z6, z7⟩ := HX0.out w1 hb1
  clear hb1
  go_wp2_with fail
  ((with_reducible refine (HKE.out _).mono ?_))
  rintro e w2 ⟨rfl, hb2⟩
  have HB2 := Lib.hid (bel_trans HB1.out hb2)
  clear hb2 z0 z1 z2 z3 z4 z5 z6 z7
  go_wp2
  go_ret
  exact ⟨rfl, HB2.out⟩
theorem modN18 (x : Int) : ∃ t : Nat, t < 18 ∧ IntKind.i64.wrap ((IntKind.u64.wrap x).tmod 18) = (t : Int) ∧ wrap64 ((IntKind.u64.wrap x).tmod 18) = (t : Int) ∧ IntKind.u64.wrap ((IntKind.u64.wrap x).tmod 18) = (t : Int) ∧ (IntKind.u64.wrap x).tmod 18 = (t : Int) ∧ IntKind.i64.wrap (t : Int) = (t : Int) := by
  obtain ⟨h1, h2⟩ := modN_eq 18 x (by omega) (by omega)
  rw [show ((18 : Nat) : Int) = 18 from rfl] at h1
  refine ⟨modN 18 x, h2, ?_, ?_, ?_, h1, by rw [IntKind.wrap_i64]; omega⟩
  · rw [h1, IntKind.wrap_i64]; omega
  · rw [h1]; exact IntWalk.wrap64_in _ (by omega)
  · rw [h1, IntKind.wrap_u64]; omega
theorem div6 (k : Nat) (h : k < 18) : ∃ d m q : Nat, q = 6 + k / 6 ∧ m = k % 6 ∧ (k : Int).tdiv 6 = (d : Int) ∧ (k : Int).tmod 6 = (m : Int) ∧ (6 : Int) + (d : Int) = (q : Int) ∧ wrap64 (d : Int) = (d : Int) ∧ wrap64 (m : Int) = (m : Int) ∧ wrap64 (q : Int) = (q : Int) := by
  refine ⟨k / 6, k % 6, 6 + k / 6, rfl, rfl, by rw [Int.tdiv_eq_ediv_of_nonneg (by omega)]; omega, by rw [Int.tmod_eq_emod_of_nonneg (by omega)]; omega, by omega, IntWalk.wrap64_in _ (by omega), IntWalk.wrap64_in _ (by omega), IntWalk.wrap64_in _ (by omega)⟩
set_option maxRecDepth 100000 in
set_option maxHeartbeats 16000000 in
theorem stripeMany_small (c sg rw : Int) (ha : Option Addr) (hn hc : Nat) (fa : Option Addr) (fn fc : Nat) (dd sp : Int) (ba : Option Addr) (bn bc : Nat) (nn : Int) (HL : List RH) (FL BL : List Nat) (w : World) (hok : CaseOk w ha hn fa fn ba bn bc HL FL BL) (h10 : hn ≤ 10) :
    Calls Try.prog 3 #[.agg #[.int .i64 c, .int .i64 sg, .int .i64 rw, .slice ha hn hc, .slice fa fn fc, .int .i64 dd, .int .i64 sp, .slice ba bn bc], .int .i64 nn] w fun e w' => e = .returned (.bool true) ∧ Below w.heap.size w w' := by
  have HC := Lib.hid hok
  have t1 : decide ((10 : Int) < (hn : Int)) = false := by simp; omega
  have t1' : decide (10 < hn) = false := by simp; omega
  have HKE := Lib.hid kept_any
  have HSH := Lib.hid fun x : World => caseShape_any c sg rw ha hn hc fa fn fc dd sp ba bn bc x
  have HPG := Lib.hid fun (x : World) (hx : Below w.heap.size w x) => casePages_any c sg rw ha hn hc fa fn fc dd sp ba bn bc HL FL x (HC.out.heads.keep hx (Nat.le_refl _)) HC.out.hlen HC.out.hmax HC.out.fit (row_keep HC.out.first hx (Nat.le_refl _)) HC.out.fmax
  obtain ⟨n, hnc⟩ : ∃ n, n = chipsOf c := ⟨_, rfl⟩
  have hn3 : 3 ≤ n ∧ n ≤ 7 := by rw [hnc]; exact (chips_eq c).2
  rw [← hnc] at HSH
  obtain ⟨k, hk⟩ : ∃ k, k + 1 = n := ⟨n - 1, by omega⟩
  have hkc : chipsOf c - 1 = k := by omega
  have hgood : GoodG (n : Nat) (20 : Nat) (6 : Nat) (256 : Nat) := by unfold GoodG; omega
  have HNW := Lib.hid fun x : World => ramNew_any n 20 6 256 x hgood
  rw [show ((20 : Nat) : Int) = 20 from rfl, show ((6 : Nat) : Int) = 6 from rfl, show ((256 : Nat) : Int) = 256 from rfl] at HNW
  have HN := Lib.hid (And.intro hn3 hk)
  have HKC := Lib.hid hkc
  obtain ⟨N, hN18, hm0, hm1, hm2, hm3, hm4⟩ := modN18 nn
  have HN18 := Lib.hid hN18
  have HMM := Lib.hid (And.intro hm0 (And.intro hm1 (And.intro hm2 (And.intro hm3 hm4))))
  clear hn3 hk hkc hnc hgood hok h10 hN18 hm0 hm1 hm2 hm3 hm4
  go_enter Try.func3, Try.ntmps3
  have l0 := heap_alloc_new w (.cells #[.int .i64 c, .int .i64 sg, .int .i64 rw, .slice ha hn hc, .slice fa fn fc, .int .i64 dd, .int .i64 sp, .slice ba bn bc] 25)
  have hb0 := bel_alloc (Below.refl _ w) (.cells #[.int .i64 c, .int .i64 sg, .int .i64 rw, .slice ha hn hc, .slice fa fn fc, .int .i64 dd, .int .i64 sp, .slice ba bn bc] 25)
  go_upto_region 1 with fail
  obtain ⟨w0, hw0⟩ : ∃ x, x = w.alloc (.cells #[.int .i64 c, .int .i64 sg, .int .i64 rw, .slice ha hn hc, .slice fa fn fc, .int .i64 dd, .int .i64 sp, .slice ba bn bc] 25) := ⟨_, rfl⟩
  obtain ⟨cb, hcb⟩ : ∃ x, x = w.heap.size := ⟨_, rfl⟩
  rw [← hw0, ← hcb] at l0
  rw [← hw0] at hb0
  rw [← hw0, ← hcb]
  have HX0 : Hid (∀ x : World, Below w0.heap.size w0 x → x.cell? ⟨cb, 0, none⟩ = some (.int .i64 c) ∧ x.cell? ⟨cb, 1, none⟩ = some (.int .i64 sg) ∧ x.cell? ⟨cb, 2, none⟩ = some (.int .i64 rw) ∧ x.cell? ⟨cb, 3, none⟩ = some (.slice ha hn hc) ∧ x.cell? ⟨cb, 4, none⟩ = some (.slice fa fn fc) ∧ x.cell? ⟨cb, 5, none⟩ = some (.int .i64 dd) ∧ x.cell? ⟨cb, 6, none⟩ = some (.int .i64 sp) ∧ x.cell? ⟨cb, 7, none⟩ = some (.slice ba bn bc)) := Lib.hid fun x hx => eight_at ((hx.block _ (Array.getElem?_eq_some_iff.1 l0).1).trans l0)
  have HB0 := Lib.hid hb0
  clear hw0 hcb hb0 l0
  go_wp2_with fail
  ((with_reducible refine (HKE.out _).mono ?_))
  rintro e w1 ⟨rfl, hb1⟩
  have HB1 := Lib.hid hb1
  clear hb1
  obtain ⟨z0, z1, z2, z3, z4, z5, z6, z7⟩ := HX0.out w1 HB1.out
  go_wp2_with fail
  ((with_reducible refine (HSH.out _).mono ?_))
  rintro e w2 ⟨rfl, hb2⟩
  have l3 := heap_alloc_new w2 (.cells #[.int .i64 (n : Int), .int .i64 20, .int .i64 6, .int .i64 256] 28)
  have hb3 := bel_trans HB1.out (bel_trans hb2 (bel_alloc (Below.refl _ w2) (.cells #[.int .i64 (n : Int), .int .i64 20, .int .i64 6, .int .i64 256] 28)))
  clear z0 z1 z2 z3 z4 z5 z6 z7
  go_upto_region 4 with fail
  obtain ⟨w3, hw3⟩ : ∃ x, x = w2.alloc (.cells #[.int .i64 (n : Int), .int .i64 20, .int .i64 6, .int .i64 256] 28) := ⟨_, rfl⟩
  obtain ⟨qb, hqb⟩ : ∃ x, x = w2.heap.size := ⟨_, rfl⟩
  rw [← hw3, ← hqb] at l3
  rw [← hw3] at hb3
  rw [← hw3, ← hqb]
  have HB3 := Lib.hid hb3
  obtain ⟨g0, g1, g2, g3⟩ := four_at l3
  clear hw3 hqb l3 hb2 hb3
  go_wp2_with fail
  ((with_reducible refine (HNW.out _).mono ?_))
  rintro e w4 ⟨rb, pb, gb, rfl, hr4, hb4⟩
  obtain ⟨B, hB⟩ : ∃ B, B = w3.heap.size := ⟨_, rfl⟩
  rw [← hB] at hr4
  have HR4 := Lib.hid hr4
  have HBB : Hid (w0.heap.size ≤ B ∧ B ≤ w4.heap.size) := Lib.hid ⟨by rw [hB]; exact HB3.out.size, by rw [hB]; exact hb4.size⟩
  have HWB : Hid (w.heap.size ≤ B) := Lib.hid (Nat.le_trans HB0.out.size HBB.out.1)
  have HB04 := Lib.hid (bel_trans HB3.out hb4)
  have HB4 := Lib.hid (bel_trans HB0.out HB04.out)
  have HXB : Hid (∀ x : World, Below B w4 x → x.cell? ⟨cb, 0, none⟩ = some (.int .i64 c) ∧ x.cell? ⟨cb, 1, none⟩ = some (.int .i64 sg) ∧ x.cell? ⟨cb, 2, none⟩ = some (.int .i64 rw) ∧ x.cell? ⟨cb, 3, none⟩ = some (.slice ha hn hc) ∧ x.cell? ⟨cb, 4, none⟩ = some (.slice fa fn fc) ∧ x.cell? ⟨cb, 5, none⟩ = some (.int .i64 dd) ∧ x.cell? ⟨cb, 6, none⟩ = some (.int .i64 sp) ∧ x.cell? ⟨cb, 7, none⟩ = some (.slice ba bn bc)) := Lib.hid fun x hx => HX0.out x (HB04.out.trans (hx.mono HBB.out.1))
  have HWX : Hid (∀ x : World, Below B w4 x → Below w.heap.size w x) := Lib.hid fun x hx => HB4.out.trans (hx.mono HWB.out)
  clear g0 g1 g2 g3 hr4 hb4 hB
  obtain ⟨z0, z1, z2, z3, z4, z5, z6, z7⟩ := HXB.out w4 (Below.refl _ _)
  obtain ⟨hm0, hm1, hm2, hm3, hm4⟩ := HMM.out
  go_wp2_with fail
  ((with_reducible refine (HPG.out _ (HWX.out _ (Below.refl _ _))).mono ?_))
  rintro e w6 ⟨sv, L, rfl, hG, hb6⟩
  rw [HKC.out] at hG
  obtain ⟨a, cap, rfl, hPG, hPn, hLO, hLn⟩ := pgs_new HR4.out hG (fun j hj => pgAt_ok HL FL HC.out.fit j (by have := HN.out; omega)) (by have := HN.out; omega) (by omega)
  have HM6 := Lib.hid (mi_new (HR4.out.step hb6) hPG)
  have HPN := Lib.hid hPn
  have HLO := Lib.hid (And.intro hLO hLn)
  have HS6 : Hid (B ≤ w6.heap.size) := Lib.hid (Nat.le_trans HBB.out.2 hb6.size)
  have HB6 : Hid (Below B w4 w6) := Lib.hid (hb6.mono HBB.out.2)
  clear z0 z1 z2 z3 z4 z5 z6 z7 hG hPG hPn hLO hLn hb6 hm0 hm1 hm2 hm3 hm4 HX0 HC HPG HNW HKE HSH HXB HR4
  go_wp2_with fail
  go_loopw [8] (fun iv wr => ∃ (i : Nat) (s : RS), i ≤ N ∧ iv = .int .i64 (i : Int) ∧ MI B rb n L a i s wr ∧ Below B w4 wr ∧ B ≤ wr.heap.size) (fun iv _ => N - (intOf iv).toNat)
  case atStart => exact ⟨0, _, Nat.zero_le _, rfl, HM6.out, HB6.out, HS6.out⟩
  case round =>
    obtain ⟨i, s, hi, rfl, hM, hB, hS⟩ := hrel
    have HM := Lib.hid hM
    have HBr := Lib.hid hB
    have HSr := Lib.hid hS
    clear hM hB hS HM6 HB6 HS6
    by_cases hlt : i < N
    · have q1 : decide (i < N) = true := by simpa using hlt
      have hi18 : i < 18 := by have := HN18.out; omega
      have HWR := Lib.hid (HM.out.write HSr.out (by have := HN18.out; omega) HN.out.1 k cap HN.out.2 HLO.out.2 HPN.out)
      obtain ⟨qd, qm, qs, hqs, hqm, d1, d2, d3, d4, d5, d6⟩ := div6 i (by have := HN18.out; omega)
      rw [← hqs, ← hqm] at HWR
      have HDD := Lib.hid (And.intro d1 (And.intro d2 (And.intro d3 (And.intro d4 (And.intro d5 d6)))))
      clear hqs hqm d1 d2 d3 d4 d5 d6
      obtain ⟨d1, d2, d3, d4, d5, d6⟩ := HDD.out
      go_wp2_with fail
      ((with_reducible refine HWR.out.mono ?_))
      rintro e w7 ⟨rfl, s', hM', hB', hS'⟩
      have HM' := Lib.hid hM'
      have HB' := Lib.hid (HBr.out.trans hB')
      have HS' := Lib.hid (Nat.le_trans HSr.out hS')
      clear hM' hB' hS' d1 d2 d3 d4 d5 d6 HWR
      go_wp2_with fail
      go_roundw
      case rel => exact ⟨i + 1, s', by omega, by go_num, HM'.out, HB'.out, HS'.out⟩
      case measure => have := HN18.out; simp [intOf]; omega
    · obtain rfl : i = N := by omega
      have q1 : decide (i < i) = false := by simp
      obtain ⟨V, hV⟩ : ∃ x, x = wr := ⟨_, rfl⟩
      rw [← hV] at HM HBr HSr ⊢
      clear hV
      go_wp2_with fail
      clear q1
      go_loopw [9] (fun iv wr => ∃ j : Nat, j ≤ 18 ∧ iv = .int .i64 (j : Int) ∧ Below V.heap.size V wr) (fun iv _ => 18 - (intOf iv).toNat)
      case atStart => exact ⟨0, by omega, rfl, Below.refl _ _⟩
      case round =>
        obtain ⟨j, hj, rfl, hB⟩ := hrel
        have HB := Lib.hid hB
        clear hB
        by_cases hlj : j < 18
        · have q2 : decide ((j : Int) < 18) = true := by simp; omega
          have q2' : decide (j < 18) = true := by simpa using hlj
          have HLJ := Lib.hid hlj
          have hMr := HM.out.step HB.out
          have hln : L.length + 1 = n := by rw [HLO.out.2]; exact HN.out.2
          have HLN := Lib.hid hln
          by_cases hjN : j < i
          · have hRW0 := (hMr.rowW j hlj hjN HLO.out.1 hln)
            rw [show n - 1 = k by have := HN.out; omega] at hRW0
            have HRW := Lib.hid hRW0
            clear hRW0
            have HEV := Lib.hid fun (y : World) (hy : Below wr.heap.size wr y) => (hMr.step hy).even true j hlj HLO.out.1 HLN.out (by simp [hjN])
            have q3 : decide (j < i) = true := by simpa using hjN
            have q4 : decide ((j : Int) < (i : Int)) = true := by simp; omega
            have q5 : decide ((i : Int) ≤ (j : Int)) = false := by simp; omega
            have q5' : decide (i ≤ j) = false := by simp; omega
            obtain ⟨qd, qm, qs, hqs, hqm, d1, d2, d3, d4, d5, d6⟩ := div6 j hlj
            rw [← hqs, ← hqm] at HRW HEV
            have HDD := Lib.hid (And.intro d1 (And.intro d2 (And.intro d3 (And.intro d4 (And.intro d5 d6)))))
            clear hqs hqm d1 d2 d3 d4 d5 d6 hMr hln
            obtain ⟨d1, d2, d3, d4, d5, d6⟩ := HDD.out
            go_wp2_with fail
            ((with_reducible refine HRW.out.mono ?_))
            rintro e w7 ⟨pa, pc, Lr, rfl, hcl, hb7⟩
            have HCL := Lib.hid hcl
            have HB7 := Lib.hid hb7
            clear hcl hb7 HRW
            go_wp2_with fail
            ((with_reducible refine (HEV.out w7 HB7.out).mono ?_))
            rintro e w8 ⟨rfl, hb8⟩
            have HB8 := Lib.hid hb8
            have HV8 : Hid (Below V.heap.size V w8) := Lib.hid (bel_trans HB.out (bel_trans HB7.out hb8))
            have HP8 := Lib.hid (HM.out.step HV8.out).pgs.pg
            clear hb8 HEV d1 d2 d3 d4 d5 d6
            go_wp2_with fail
            clear q3 q4 q5 q5'
            go_loopw [15] (fun iv wy => ∃ t : Nat, t ≤ k ∧ iv = .int .i64 (t : Int) ∧ Below w8.heap.size w8 wy) (fun iv _ => k - (intOf iv).toNat)
            case atStart => exact ⟨0, Nat.zero_le _, rfl, Below.refl _ _⟩
            case round =>
              obtain ⟨t, ht, rfl, hB⟩ := hrel
              have HBy := Lib.hid hB
              clear hB
              have hk7 : k ≤ 7 := by have := HN.out; omega
              by_cases hlt2 : t < k
              · have r1 : decide (t < k) = true := by simpa using hlt2
                have r2 : decide ((k : Int) ≤ (t : Int)) = false := by simp; omega
                have r2' : decide (k ≤ t) = false := by simp; omega
                have HLT := Lib.hid hlt2
                obtain ⟨xb, xo, rfl, hxs⟩ := spage_at (HCL.out.1.step (bel_trans HB8.out HBy.out)) (i := t) (by rw [HCL.out.2.1]; exact hlt2)
                obtain ⟨yb, yo, rfl, hys⟩ := spage_at (HP8.out.step HBy.out).1 (i := t) (by rw [HLO.out.2]; exact hlt2)
                obtain ⟨e1, e2, e3⟩ := HCL.out.2.2 t hlt2
                have e4 := (HP8.out.step HBy.out).2 _ (sp_mem L t (by rw [HLO.out.2]; exact hlt2))
                have e5 := e3.step (bel_trans HB8.out HBy.out)
                generalize Lr.getD t SP.nil = X at hxs e1 e2 e3 e5
                generalize L.getD t SP.nil = Y at hys e1 e2 e4
                obtain ⟨xh, xd⟩ := X
                obtain ⟨yh, yd⟩ := Y
                simp only at e1 e2 e3 e4 e5
                subst e1
                obtain ⟨C, hCd⟩ : ∃ C : World → Prop, (∀ x, C x → Below wr.heap.size wr x) ∧ (∀ x, Below wr.heap.size wr x → C x) := ⟨_, fun _ h => h, fun _ h => h⟩
                have hC0 := hCd.2 _ (Below.refl wr.heap.size wr).drew
                haveI hne : Nonempty (Wd C) := ⟨⟨_, hC0⟩⟩
                have HCD := Lib.hid hCd
                clear hCd
                have HXC := Lib.hid fun y : Wd C => hxs.step (HCD.out.1 _ y.ok)
                have HYC := Lib.hid fun y : Wd C => hys.step (HCD.out.1 _ y.ok)
                have u0 : ∀ y : Wd C, y.w.cell? ⟨xb, xo + t * 8, none⟩ = some (.int .u8 (xh.ki : Int)) := fun y => (HXC.out y).1
                have u1 : ∀ y : Wd C, y.w.cell? ⟨xb, xo + t * 8 + 1, none⟩ = some (.int .u32 (xh.ep : Int)) := fun y => (HXC.out y).2.1
                have u2 : ∀ y : Wd C, y.w.cell? ⟨xb, xo + t * 8 + 2, none⟩ = some (.int .u32 (xh.ba : Int)) := fun y => (HXC.out y).2.2.1
                have u3 : ∀ y : Wd C, y.w.cell? ⟨xb, xo + t * 8 + 3, none⟩ = some (.int .u16 (xh.ix : Int)) := fun y => (HXC.out y).2.2.2.1
                have u4 : ∀ y : Wd C, y.w.cell? ⟨xb, xo + t * 8 + 4, none⟩ = some (.int .u16 (xh.ct : Int)) := fun y => (HXC.out y).2.2.2.2.1
                have u5 : ∀ y : Wd C, y.w.cell? ⟨xb, xo + t * 8 + 5, none⟩ = some (.int .u32 (xh.bl : Int)) := fun y => (HXC.out y).2.2.2.2.2.1
                have u6 : ∀ y : Wd C, y.w.cell? ⟨xb, xo + t * 8 + 6, none⟩ = some (.int .u32 (xh.mo : Int)) := fun y => (HXC.out y).2.2.2.2.2.2.1
                have u7 : ∀ y : Wd C, y.w.cell? ⟨xb, xo + t * 8 + 7, none⟩ = some (.slice xd.a xd.n xd.c) := fun y => (HXC.out y).2.2.2.2.2.2.2
                have v0 : ∀ y : Wd C, y.w.cell? ⟨yb, yo + t * 8, none⟩ = some (.int .u8 (xh.ki : Int)) := fun y => (HYC.out y).1
                have v1 : ∀ y : Wd C, y.w.cell? ⟨yb, yo + t * 8 + 1, none⟩ = some (.int .u32 (xh.ep : Int)) := fun y => (HYC.out y).2.1
                have v2 : ∀ y : Wd C, y.w.cell? ⟨yb, yo + t * 8 + 2, none⟩ = some (.int .u32 (xh.ba : Int)) := fun y => (HYC.out y).2.2.1
                have v3 : ∀ y : Wd C, y.w.cell? ⟨yb, yo + t * 8 + 3, none⟩ = some (.int .u16 (xh.ix : Int)) := fun y => (HYC.out y).2.2.2.1
                have v4 : ∀ y : Wd C, y.w.cell? ⟨yb, yo + t * 8 + 4, none⟩ = some (.int .u16 (xh.ct : Int)) := fun y => (HYC.out y).2.2.2.2.1
                have v5 : ∀ y : Wd C, y.w.cell? ⟨yb, yo + t * 8 + 5, none⟩ = some (.int .u32 (xh.bl : Int)) := fun y => (HYC.out y).2.2.2.2.2.1
                have v6 : ∀ y : Wd C, y.w.cell? ⟨yb, yo + t * 8 + 6, none⟩ = some (.int .u32 (xh.mo : Int)) := fun y => (HYC.out y).2.2.2.2.2.2.1
                have v7 : ∀ y : Wd C, y.w.cell? ⟨yb, yo + t * 8 + 7, none⟩ = some (.slice yd.a yd.n yd.c) := fun y => (HYC.out y).2.2.2.2.2.2.2
                have HST0 : Hid (∀ (y : Wd C) (z : World), Below y.w.heap.size y.w z → C z) := Lib.hid fun y z hb => HCD.out.2 _ (bel_trans (HCD.out.1 _ y.ok) hb)
                have HSM := Lib.hid fun y : Wd C => stSame_yes xh xd yd y.w (e5.step (HCD.out.1 _ y.ok)) (e4.1.step (HCD.out.1 _ y.ok)) e2
                have i0 : (0 : Int) ≤ (t : Int) := by omega
                have i1 : (t : Int) < (k : Int) := by omega
                clear hxs hys e2 e3 e4 e5
                go_upto_region 22 with fail
                refine wp_region_wd C (by kernel_rfl) (by kernel_rfl) hC0 ?_
                repeat (go_big_quiet_step (first | (go_at_call 11; with_reducible exact Calls.wd (HST0.out _) (HSM.out _))))
                refine wpQuiet_nil ?_
                intro _ hw'
                obtain ⟨y, rfl⟩ := hw'
                have HBZ : Hid (Below w8.heap.size w8 y.w) := Lib.hid (bel_trans HBy.out (HCD.out.1 _ y.ok))
                clear u0 u1 u2 u3 u4 u5 u6 u7 v0 v1 v2 v3 v4 v5 v6 v7
                go_wp2_with fail
                go_roundw
                case rel => exact ⟨t + 1, by have := HLT.out; omega, by go_num, HBZ.out⟩
                case measure => have := HLT.out; simp [intOf]; omega
              · obtain rfl : t = k := by omega
                have r1 : decide (t < t) = false := by simp
                go_wp2_with fail
                go_roundw
                case rel => exact ⟨j + 1, by have := HLJ.out; omega, by go_num, bel_trans HV8.out HBy.out⟩
                case measure => have := HLJ.out; simp [intOf]; omega
          · have HRW := Lib.hid (hMr.rowB j hlj (by omega))
            have HEV := Lib.hid fun (y : World) (hy : Below wr.heap.size wr y) => (hMr.step hy).even false j hlj HLO.out.1 HLN.out (by simp; omega)
            have q3 : decide (j < i) = false := by simp; omega
            have q4 : decide ((j : Int) < (i : Int)) = false := by simp; omega
            have q5 : decide ((i : Int) ≤ (j : Int)) = true := by simp; omega
            have q5' : decide (i ≤ j) = true := by simp; omega
            obtain ⟨qd, qm, qs, hqs, hqm, d1, d2, d3, d4, d5, d6⟩ := div6 j hlj
            rw [← hqs, ← hqm] at HRW HEV
            have HDD := Lib.hid (And.intro d1 (And.intro d2 (And.intro d3 (And.intro d4 (And.intro d5 d6)))))
            clear hqs hqm d1 d2 d3 d4 d5 d6 hMr hln
            obtain ⟨d1, d2, d3, d4, d5, d6⟩ := HDD.out
            go_wp2_with fail
            ((with_reducible refine HRW.out.mono ?_))
            rintro e w7 ⟨rfl, hb7⟩
            have HB7 := Lib.hid hb7
            clear hb7 HRW
            go_wp2_with fail
            ((with_reducible refine (HEV.out w7 HB7.out).mono ?_))
            rintro e w8 ⟨rfl, hb8⟩
            have HV8 : Hid (Below V.heap.size V w8) := Lib.hid (bel_trans HB.out (bel_trans HB7.out hb8))
            clear hb8 HEV d1 d2 d3 d4 d5 d6
            go_wp2_with fail
            clear q3 q4 q5 q5'
            go_loopw [15] (fun iv wy => iv = .int .i64 0 ∧ wy = w8) (fun iv _ => 1 - (intOf iv).toNat)
            case atStart => exact ⟨rfl, rfl⟩
            case round =>
              obtain ⟨rfl, rfl⟩ := hrel
              go_wp2_with fail
              go_roundw
              case rel => exact ⟨j + 1, by have := HLJ.out; omega, by go_num, HV8.out⟩
              case measure => have := HLJ.out; simp [intOf]; omega
        · obtain rfl : j = 18 := by omega
          have q2 : decide (((18 : Nat) : Int) < 18) = false := by simp
          have HW : Hid (Below w.heap.size w wr) := Lib.hid (HWX.out _ (HBr.out.trans (HB.out.mono HSr.out)))
          go_wp2_with fail
          go_ret
          exact ⟨rfl, HW.out⟩
theorem stripeMany_all (c sg rw : Int) (ha : Option Addr) (hn hc : Nat) (fa : Option Addr) (fn fc : Nat) (dd sp : Int) (ba : Option Addr) (bn bc : Nat) (HL : List RH) (FL BL : List Nat) (nn : Int) (w : World) (h : CaseOk w ha hn fa fn ba bn bc HL FL BL ∧ bn ≤ maxLen) (_ : (Lit.int .i64 nn).wf = true) :
    Calls Try.prog 3 #[.agg #[.int .i64 c, .int .i64 sg, .int .i64 rw, .slice ha hn hc, .slice fa fn fc, .int .i64 dd, .int .i64 sp, .slice ba bn bc], .int .i64 nn] w fun e w' => e = .returned (.bool true) ∧ Below w.heap.size w w' := by
  by_cases h10 : hn ≤ 10
  · exact stripeMany_small c sg rw ha hn hc fa fn fc dd sp ba bn bc nn HL FL BL w h.1 h10
  · exact stripeMany_big c sg rw ha hn hc fa fn fc dd sp ba bn bc nn w (by omega)
end Go.Proofs.Ytnhklomofebfaaa
