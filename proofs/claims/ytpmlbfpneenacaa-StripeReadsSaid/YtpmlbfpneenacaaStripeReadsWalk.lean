/- StripeReads: the walk. -/
import Derived.Test.YtpmlbfpneenacaaStCaseOk
import Derived.Test.YtpmlbfpneenacaaWd
import Derived.Test.YtpmlbfpneenacaaWithN
namespace Go.Proofs.Ytpmlbfpneenacaa
open Go.RowKit Go.Deep

set_option maxRecDepth 100000 in
set_option maxHeartbeats 1000000 in
theorem stripeReads_bigh (c sg rw : Int) (ha : Option Addr) (hn hc : Nat) (fa : Option Addr) (fn fc : Nat) (dd sp : Int) (ba : Option Addr) (bn bc : Nat) (w : World) (hbig : 10 < hn) :
    Calls Try.prog 5 #[.agg #[.int .i64 c, .int .i64 sg, .int .i64 rw, .slice ha hn hc, .slice fa fn fc, .int .i64 dd, .int .i64 sp, .slice ba bn bc]] w fun e w' => e = .returned (.bool true) ∧ Below w.heap.size w w' := by
  have HKE := Lib.hid kept_any
  have t1 : decide ((10 : Int) < (hn : Int)) = true := by simp; omega
  have t1' : decide (10 < hn) = true := by simpa using hbig
  clear hbig
  go_enter Try.func5, Try.ntmps5
  have l0 := heap_alloc_new w (.cells #[.int .i64 c, .int .i64 sg, .int .i64 rw, .slice ha hn hc, .slice fa fn fc, .int .i64 dd, .int .i64 sp, .slice ba bn bc] 52)
  have hb0 := bel_alloc (Below.refl _ w) (.cells #[.int .i64 c, .int .i64 sg, .int .i64 rw, .slice ha hn hc, .slice fa fn fc, .int .i64 dd, .int .i64 sp, .slice ba bn bc] 52)
  go_upto_region 1 with fail
  obtain ⟨w0, hw0⟩ : ∃ x, x = w.alloc (.cells #[.int .i64 c, .int .i64 sg, .int .i64 rw, .slice ha hn hc, .slice fa fn fc, .int .i64 dd, .int .i64 sp, .slice ba bn bc] 52) := ⟨_, rfl⟩
  obtain ⟨cb, hcb⟩ : ∃ x, x = w.heap.size := ⟨_, rfl⟩
  rw [← hw0, ← hcb] at l0
  rw [← hw0] at hb0
  rw [← hw0, ← hcb]
  have HX0 : Hid (∀ x : World, Below w0.heap.size w0 x → x.cell? ⟨cb, 0, none⟩ = some (.int .i64 c) ∧ x.cell? ⟨cb, 1, none⟩ = some (.int .i64 sg) ∧ x.cell? ⟨cb, 2, none⟩ = some (.int .i64 rw) ∧ x.cell? ⟨cb, 3, none⟩ = some (.slice ha hn hc) ∧ x.cell? ⟨cb, 4, none⟩ = some (.slice fa fn fc) ∧ x.cell? ⟨cb, 5, none⟩ = some (.int .i64 dd) ∧ x.cell? ⟨cb, 6, none⟩ = some (.int .i64 sp) ∧ x.cell? ⟨cb, 7, none⟩ = some (.slice ba bn bc)) := Lib.hid fun x hx => eight_at ((hx.block _ (Array.getElem?_eq_some_iff.1 l0).1).trans l0)
  have HCB : Hid (w.heap.size ≤ cb ∧ cb < w0.heap.size) := Lib.hid ⟨Nat.le_of_eq hcb.symm, (Array.getElem?_eq_some_iff.1 l0).1⟩
  have HB0 := Lib.hid hb0
  clear hw0 hcb hb0 l0
  go_wp2_with fail
  ((with_reducible refine (HKE.out _).mono ?_))
  rintro e w1 ⟨rfl, hb1⟩
  have HB1 := Lib.hid (bel_trans HB0.out hb1)
  obtain ⟨z0, z1, z2, z3, z4, z5, z6, z7⟩ := HX0.out w1 hb1
  clear hb1
  go_wp2_with fail
  ((with_reducible refine (HKE.out _).mono ?_))
  rintro e w2 ⟨rfl, hb2⟩
  have HB2 := Lib.hid (bel_trans HB1.out hb2)
  clear hb2 z0 z1 z2 z3 z4 z5 z6 z7
  go_wp2
  go_ret
  exact ⟨rfl, HB2.out⟩
set_option maxRecDepth 100000 in
set_option maxHeartbeats 1000000 in
theorem stripeReads_bigb (c sg rw : Int) (ha : Option Addr) (hn hc : Nat) (fa : Option Addr) (fn fc : Nat) (dd sp : Int) (ba : Option Addr) (bn bc : Nat) (w : World) (hsm : hn ≤ 10) (hbig : 320 < bn) :
    Calls Try.prog 5 #[.agg #[.int .i64 c, .int .i64 sg, .int .i64 rw, .slice ha hn hc, .slice fa fn fc, .int .i64 dd, .int .i64 sp, .slice ba bn bc]] w fun e w' => e = .returned (.bool true) ∧ Below w.heap.size w w' := by
  have HKE := Lib.hid kept_any
  have t1 : decide ((10 : Int) < (hn : Int)) = false := by simp; omega
  have t1' : decide (10 < hn) = false := by simp; omega
  have t2 : decide ((320 : Int) < (bn : Int)) = true := by simp; omega
  have t2' : decide (320 < bn) = true := by simpa using hbig
  clear hbig hsm
  go_enter Try.func5, Try.ntmps5
  have l0 := heap_alloc_new w (.cells #[.int .i64 c, .int .i64 sg, .int .i64 rw, .slice ha hn hc, .slice fa fn fc, .int .i64 dd, .int .i64 sp, .slice ba bn bc] 52)
  have hb0 := bel_alloc (Below.refl _ w) (.cells #[.int .i64 c, .int .i64 sg, .int .i64 rw, .slice ha hn hc, .slice fa fn fc, .int .i64 dd, .int .i64 sp, .slice ba bn bc] 52)
  go_upto_region 1 with fail
  obtain ⟨w0, hw0⟩ : ∃ x, x = w.alloc (.cells #[.int .i64 c, .int .i64 sg, .int .i64 rw, .slice ha hn hc, .slice fa fn fc, .int .i64 dd, .int .i64 sp, .slice ba bn bc] 52) := ⟨_, rfl⟩
  obtain ⟨cb, hcb⟩ : ∃ x, x = w.heap.size := ⟨_, rfl⟩
  rw [← hw0, ← hcb] at l0
  rw [← hw0] at hb0
  rw [← hw0, ← hcb]
  have HX0 : Hid (∀ x : World, Below w0.heap.size w0 x → x.cell? ⟨cb, 0, none⟩ = some (.int .i64 c) ∧ x.cell? ⟨cb, 1, none⟩ = some (.int .i64 sg) ∧ x.cell? ⟨cb, 2, none⟩ = some (.int .i64 rw) ∧ x.cell? ⟨cb, 3, none⟩ = some (.slice ha hn hc) ∧ x.cell? ⟨cb, 4, none⟩ = some (.slice fa fn fc) ∧ x.cell? ⟨cb, 5, none⟩ = some (.int .i64 dd) ∧ x.cell? ⟨cb, 6, none⟩ = some (.int .i64 sp) ∧ x.cell? ⟨cb, 7, none⟩ = some (.slice ba bn bc)) := Lib.hid fun x hx => eight_at ((hx.block _ (Array.getElem?_eq_some_iff.1 l0).1).trans l0)
  have HCB : Hid (w.heap.size ≤ cb ∧ cb < w0.heap.size) := Lib.hid ⟨Nat.le_of_eq hcb.symm, (Array.getElem?_eq_some_iff.1 l0).1⟩
  have HB0 := Lib.hid hb0
  clear hw0 hcb hb0 l0
  go_wp2_with fail
  ((with_reducible refine (HKE.out _).mono ?_))
  rintro e w1 ⟨rfl, hb1⟩
  have HB1 := Lib.hid (bel_trans HB0.out hb1)
  obtain ⟨z0, z1, z2, z3, z4, z5, z6, z7⟩ := HX0.out w1 hb1
  clear hb1
  go_wp2_with fail
  ((with_reducible refine (HKE.out _).mono ?_))
  rintro e w2 ⟨rfl, hb2⟩
  have HB2 := Lib.hid (bel_trans HB1.out hb2)
  clear hb2 z0 z1 z2 z3 z4 z5 z6 z7
  go_wp2
  go_ret
  exact ⟨rfl, HB2.out⟩
set_option maxRecDepth 100000 in
set_option maxHeartbeats 8000000 in
theorem stripeReads_D (c sg rw : Int) (ha : Option Addr) (hn hc : Nat) (fa : Option Addr) (fn fc : Nat) (dd sp : Int) (ba : Option Addr) (bn bc : Nat) (HL : List RH) (FL BL : List Nat) (w : World) (hok : CaseOk w ha hn fa fn ba bn bc HL FL BL) (h10 : hn ≤ 10) (hbn : bn ≤ 320) (D : Nat) (hD : D < chipsOf c) (hdv : memC (chipsOf c) dd = (D : Int)) :
    Calls Try.prog 5 #[.agg #[.int .i64 c, .int .i64 sg, .int .i64 rw, .slice ha hn hc, .slice fa fn fc, .int .i64 dd, .int .i64 sp, .slice ba bn bc]] w fun e w' => e = .returned (.bool true) ∧ Below w.heap.size w w' := by
  have HC := Lib.hid hok
  have t1 : decide ((10 : Int) < (hn : Int)) = false := by simp; omega
  have t1' : decide (10 < hn) = false := by simp; omega
  have t2 : decide ((320 : Int) < (bn : Int)) = false := by simp; omega
  have t2' : decide (320 < bn) = false := by simp; omega
  have HBN : Hid (bn ≤ 320) := Lib.hid hbn
  have HKE := Lib.hid kept_any
  have HSH := Lib.hid fun x : World => caseShape_any c sg rw ha hn hc fa fn fc dd sp ba bn bc x
  have HPC := Lib.hid fun x : World => casePlace_any c sg rw ha hn hc fa fn fc dd sp ba bn bc x
  have HPG := Lib.hid fun (x : World) (hx : Below w.heap.size w x) => casePages_any c sg rw ha hn hc fa fn fc dd sp ba bn bc HL FL x (HC.out.heads.keep hx (Nat.le_refl _)) HC.out.hlen HC.out.hmax HC.out.fit (row_keep HC.out.first hx (Nat.le_refl _)) HC.out.fmax
  have HMD := Lib.hid fun x : World => caseMember_any c sg rw ha hn hc fa fn fc dd sp ba bn bc dd x
  have HMS := Lib.hid fun x : World => caseMember_any c sg rw ha hn hc fa fn fc dd sp ba bn bc sp x
  rw [hdv] at HMD
  obtain ⟨sv0, hsv0⟩ : ∃ v, v = memC (chipsOf c) sp := ⟨_, rfl⟩
  rw [← hsv0] at HMS
  obtain ⟨n, hnc⟩ : ∃ n, n = chipsOf c := ⟨_, rfl⟩
  have hn3 : 3 ≤ n ∧ n ≤ 7 := by rw [hnc]; exact (chips_eq c).2
  rw [← hnc] at HSH
  rw [← hnc] at hD
  obtain ⟨k, hk⟩ : ∃ k, k + 1 = n := ⟨n - 1, by omega⟩
  have hkc : chipsOf c - 1 = k := by omega
  obtain ⟨seg, hseg⟩ : ∃ s, s = modN 15 sg := ⟨_, rfl⟩
  obtain ⟨row, hrow⟩ : ∃ s, s = modN 6 rw := ⟨_, rfl⟩
  have hseg2 : seg < 15 := by rw [hseg]; exact (modN_eq 15 sg (by omega) (by omega)).2
  have hrow2 : row < 6 := by rw [hrow]; exact (modN_eq 6 rw (by omega) (by omega)).2
  rw [← hseg, ← hrow] at HPC
  obtain ⟨p, hp, hpn⟩ := par_nat n seg row (by omega)
  have hgood : GoodG (n : Nat) (20 : Nat) (6 : Nat) (256 : Nat) := by unfold GoodG; omega
  have HNW := Lib.hid fun x : World => ramNew_any n 20 6 256 x hgood
  rw [show ((20 : Nat) : Int) = 20 from rfl, show ((6 : Nat) : Int) = 6 from rfl, show ((256 : Nat) : Int) = 256 from rfl] at HNW
  have HN := Lib.hid (And.intro hn3 hk)
  have HSR := Lib.hid (And.intro hseg2 hrow2)
  have HPP := Lib.hid (And.intro hp hpn)
  have HKC := Lib.hid hkc
  have HDN := Lib.hid hD
  clear hn3 hk hseg hrow hseg2 hrow2 hp hpn hkc hnc hgood hok h10 hbn hD hdv hsv0
  go_enter Try.func5, Try.ntmps5
  have l0 := heap_alloc_new w (.cells #[.int .i64 c, .int .i64 sg, .int .i64 rw, .slice ha hn hc, .slice fa fn fc, .int .i64 dd, .int .i64 sp, .slice ba bn bc] 52)
  have hb0 := bel_alloc (Below.refl _ w) (.cells #[.int .i64 c, .int .i64 sg, .int .i64 rw, .slice ha hn hc, .slice fa fn fc, .int .i64 dd, .int .i64 sp, .slice ba bn bc] 52)
  go_upto_region 1 with fail
  obtain ⟨w0, hw0⟩ : ∃ x, x = w.alloc (.cells #[.int .i64 c, .int .i64 sg, .int .i64 rw, .slice ha hn hc, .slice fa fn fc, .int .i64 dd, .int .i64 sp, .slice ba bn bc] 52) := ⟨_, rfl⟩
  obtain ⟨cb, hcb⟩ : ∃ x, x = w.heap.size := ⟨_, rfl⟩
  rw [← hw0, ← hcb] at l0
  rw [← hw0] at hb0
  rw [← hw0, ← hcb]
  have HX0 : Hid (∀ x : World, Below w0.heap.size w0 x → x.cell? ⟨cb, 0, none⟩ = some (.int .i64 c) ∧ x.cell? ⟨cb, 1, none⟩ = some (.int .i64 sg) ∧ x.cell? ⟨cb, 2, none⟩ = some (.int .i64 rw) ∧ x.cell? ⟨cb, 3, none⟩ = some (.slice ha hn hc) ∧ x.cell? ⟨cb, 4, none⟩ = some (.slice fa fn fc) ∧ x.cell? ⟨cb, 5, none⟩ = some (.int .i64 dd) ∧ x.cell? ⟨cb, 6, none⟩ = some (.int .i64 sp) ∧ x.cell? ⟨cb, 7, none⟩ = some (.slice ba bn bc)) := Lib.hid fun x hx => eight_at ((hx.block _ (Array.getElem?_eq_some_iff.1 l0).1).trans l0)
  have HCB : Hid (w.heap.size ≤ cb ∧ cb < w0.heap.size) := Lib.hid ⟨Nat.le_of_eq hcb.symm, (Array.getElem?_eq_some_iff.1 l0).1⟩
  have HB0 := Lib.hid hb0
  clear hw0 hcb hb0 l0
  go_wp2_with fail
  ((with_reducible refine (HKE.out _).mono ?_))
  rintro e w1 ⟨rfl, hb1⟩
  have HB1 := Lib.hid hb1
  clear hb1
  obtain ⟨z0, z1, z2, z3, z4, z5, z6, z7⟩ := HX0.out w1 HB1.out
  go_wp2_with fail
  ((with_reducible refine (HSH.out _).mono ?_))
  rintro e w2 ⟨rfl, hb2⟩
  have l3 := heap_alloc_new w2 (.cells #[.int .i64 (n : Int), .int .i64 20, .int .i64 6, .int .i64 256] 54)
  have hb3 := bel_trans HB1.out (bel_trans hb2 (bel_alloc (Below.refl _ w2) (.cells #[.int .i64 (n : Int), .int .i64 20, .int .i64 6, .int .i64 256] 54)))
  clear z0 z1 z2 z3 z4 z5 z6 z7
  go_upto_region 4 with fail
  obtain ⟨w3, hw3⟩ : ∃ x, x = w2.alloc (.cells #[.int .i64 (n : Int), .int .i64 20, .int .i64 6, .int .i64 256] 54) := ⟨_, rfl⟩
  obtain ⟨qb, hqb⟩ : ∃ x, x = w2.heap.size := ⟨_, rfl⟩
  rw [← hw3, ← hqb] at l3
  rw [← hw3] at hb3
  rw [← hw3, ← hqb]
  have HL3 := Lib.hid l3
  have HB3 := Lib.hid hb3
  obtain ⟨g0, g1, g2, g3⟩ := four_at l3
  clear hw3 hqb l3 hb2 hb3
  go_wp2_with fail
  ((with_reducible refine (HNW.out _).mono ?_))
  rintro e w4 ⟨rb, pb, gb, rfl, hr4, hb4⟩
  obtain ⟨B, hB⟩ : ∃ B, B = w3.heap.size := ⟨_, rfl⟩
  rw [← hB] at hr4
  have HR4 := Lib.hid hr4
  have HBB : Hid (w0.heap.size ≤ B ∧ B ≤ w4.heap.size) := Lib.hid ⟨by rw [hB]; exact HB3.out.size, by rw [hB]; exact hb4.size⟩
  have HWB : Hid (w.heap.size ≤ B) := Lib.hid (Nat.le_trans HB0.out.size HBB.out.1)
  have HB04 := Lib.hid (bel_trans HB3.out hb4)
  have HB4 := Lib.hid (bel_trans HB0.out HB04.out)
  have HXB : Hid (∀ x : World, Below B w4 x → x.cell? ⟨cb, 0, none⟩ = some (.int .i64 c) ∧ x.cell? ⟨cb, 1, none⟩ = some (.int .i64 sg) ∧ x.cell? ⟨cb, 2, none⟩ = some (.int .i64 rw) ∧ x.cell? ⟨cb, 3, none⟩ = some (.slice ha hn hc) ∧ x.cell? ⟨cb, 4, none⟩ = some (.slice fa fn fc) ∧ x.cell? ⟨cb, 5, none⟩ = some (.int .i64 dd) ∧ x.cell? ⟨cb, 6, none⟩ = some (.int .i64 sp) ∧ x.cell? ⟨cb, 7, none⟩ = some (.slice ba bn bc)) := Lib.hid fun x hx => HX0.out x (HB04.out.trans (hx.mono HBB.out.1))
  have HGB : Hid (∀ x : World, Below B w4 x → x.cell? ⟨qb, 0, none⟩ = some (.int .i64 (n : Int)) ∧ x.cell? ⟨qb, 1, none⟩ = some (.int .i64 20) ∧ x.cell? ⟨qb, 2, none⟩ = some (.int .i64 6) ∧ x.cell? ⟨qb, 3, none⟩ = some (.int .i64 256)) := Lib.hid fun x hx => by
    have h1 := (Array.getElem?_eq_some_iff.1 HL3.out).1
    exact four_at (((hx.block _ (by rw [hB]; exact h1)).trans (hb4.block _ h1)).trans HL3.out)
  have HWX : Hid (∀ x : World, Below B w4 x → Below w.heap.size w x) := Lib.hid fun x hx => HB4.out.trans (hx.mono HWB.out)
  clear g0 g1 g2 g3 hr4 hb4 hB
  obtain ⟨z0, z1, z2, z3, z4, z5, z6, z7⟩ := HXB.out w4 (Below.refl _ _)
  go_wp2_with fail
  ((with_reducible refine (HPC.out _).mono ?_))
  rintro e w5 ⟨rfl, hb5⟩
  have HB5 : Hid (Below B w4 w5) := Lib.hid (hb5.mono HBB.out.2)
  have HR5 := Lib.hid (HR4.out.step hb5)
  have HS5 : Hid (B ≤ w5.heap.size) := Lib.hid (Nat.le_trans HBB.out.2 hb5.size)
  clear hb5 z0 z1 z2 z3 z4 z5 z6 z7
  obtain ⟨z0, z1, z2, z3, z4, z5, z6, z7⟩ := HXB.out w5 HB5.out
  go_wp2_with fail
  ((with_reducible refine (HPG.out _ (HWX.out _ HB5.out)).mono ?_))
  rintro e w6 ⟨sv, L, rfl, hG, hb6⟩
  rw [HKC.out] at hG
  obtain ⟨a, cap, rfl, hPG, hPn, hLO, hLn⟩ := pgs_new HR5.out hG (fun j hj => pgAt_ok HL FL HC.out.fit j (by have := HN.out; omega)) (by have := HN.out; omega) (by omega)
  have HPG6 := Lib.hid (And.intro hPG hPn)
  have HLO := Lib.hid (And.intro hLO hLn)
  have HR6 := Lib.hid (HR5.out.step hb6)
  have HS6 : Hid (B ≤ w6.heap.size) := Lib.hid (Nat.le_trans HS5.out hb6.size)
  have HB6 : Hid (Below B w4 w6) := Lib.hid (HB5.out.trans (hb6.mono HS5.out))
  have hp' : ((p : Nat) : Int) = ParOf (rsNew rb pb gb n 20 6 256).n (rsNew rb pb gb n 20 6 256).pg seg row := HPP.out.1
  have HWR : Hid (Calls Try.prog 30 #[.iface 56 (.pointer (some ⟨rb, 0, none⟩)), .int .i64 (seg : Int), .int .i64 (row : Int), .slice a k cap] w6 (WriteRet B (rsNew rb pb gb n 20 6 256) p seg row L w6)) := Lib.hid (write_any HR6.out HS6.out seg row p a k cap L (by show seg + 5 < 20; have := HSR.out.1; omega) (by show row < 6; exact HSR.out.2) (by show 256 ≤ 1000; omega) hp' HPP.out.2 hLn.symm HN.out.2 hPG.pg hPn (Nat.zero_le _) (by rw [deads_none (fun _ => rfl)]; omega))
  clear z0 z1 z2 z3 z4 z5 z6 z7 hG hPG hPn hLO hLn hb6 hp'
  go_wp2_with fail
  ((with_reducible refine HWR.out.mono ?_))
  rintro e w7 ⟨s', G, P, rfl, hr7, hs7, hol, hgo, hwr, hst⟩
  obtain ⟨e1, e2, e3, e4, e5, e6, e7, e8⟩ := hs7.same
  have HE : Hid (s'.n = n ∧ s'.bl = 20 ∧ s'.pg = 6 ∧ s'.sz = 256 ∧ s'.rb = rb ∧ s'.pb = pb ∧ s'.gb = gb) := Lib.hid ⟨e4, e5, e6, e7, e1, e2, e3⟩
  have HR7 := Lib.hid hr7
  have HB7 : Hid (Below B w4 w7) := Lib.hid (HB6.out.trans (hs7.below HR6.out HS6.out))
  have HS7 : Hid (B ≤ w7.heap.size) := Lib.hid (Nat.le_trans HS6.out hs7.size)
  have HP7 := Lib.hid (HPG6.out.1.rstep hs7)
  have HST : Hid (StripeB n p 256 seg row L G P) := Lib.hid hst
  have HPGE : Hid (∀ m, m < n → s'.page (m, seg, row) = onB p G P m) := Lib.hid fun m hm => has_wrote hwr hm rfl
  have HGO : Hid (∀ m, s'.gone m = 0) := Lib.hid fun m => by rw [hgo]; rfl
  clear e1 e2 e3 e4 e5 e6 e7 e8 hr7 hs7 hst hwr hol hgo
  go_upto_region 9 with fail
  obtain ⟨C, hCd⟩ : ∃ C : World → Prop, (∀ x, C x → Below w7.heap.size w7 x) ∧ (∀ x, Below w7.heap.size w7 x → C x) := ⟨_, fun _ h => h, fun _ h => h⟩
  have hC0 := hCd.2 _ (Below.refl w7.heap.size w7).drew
  haveI hne : Nonempty (Wd C) := ⟨⟨_, hC0⟩⟩
  have HCD := Lib.hid hCd
  clear hCd
  have f0 : ∀ y : Wd C, y.w.cell? ⟨cb, 0, none⟩ = some (.int .i64 c) := fun y => (HXB.out _ (HB7.out.trans ((HCD.out.1 _ y.ok).mono HS7.out))).1
  have f1 : ∀ y : Wd C, y.w.cell? ⟨cb, 1, none⟩ = some (.int .i64 sg) := fun y => (HXB.out _ (HB7.out.trans ((HCD.out.1 _ y.ok).mono HS7.out))).2.1
  have f2 : ∀ y : Wd C, y.w.cell? ⟨cb, 2, none⟩ = some (.int .i64 rw) := fun y => (HXB.out _ (HB7.out.trans ((HCD.out.1 _ y.ok).mono HS7.out))).2.2.1
  have f3 : ∀ y : Wd C, y.w.cell? ⟨cb, 3, none⟩ = some (.slice ha hn hc) := fun y => (HXB.out _ (HB7.out.trans ((HCD.out.1 _ y.ok).mono HS7.out))).2.2.2.1
  have f4 : ∀ y : Wd C, y.w.cell? ⟨cb, 4, none⟩ = some (.slice fa fn fc) := fun y => (HXB.out _ (HB7.out.trans ((HCD.out.1 _ y.ok).mono HS7.out))).2.2.2.2.1
  have f5 : ∀ y : Wd C, y.w.cell? ⟨cb, 5, none⟩ = some (.int .i64 dd) := fun y => (HXB.out _ (HB7.out.trans ((HCD.out.1 _ y.ok).mono HS7.out))).2.2.2.2.2.1
  have f6 : ∀ y : Wd C, y.w.cell? ⟨cb, 6, none⟩ = some (.int .i64 sp) := fun y => (HXB.out _ (HB7.out.trans ((HCD.out.1 _ y.ok).mono HS7.out))).2.2.2.2.2.2.1
  have f7 : ∀ y : Wd C, y.w.cell? ⟨cb, 7, none⟩ = some (.slice ba bn bc) := fun y => (HXB.out _ (HB7.out.trans ((HCD.out.1 _ y.ok).mono HS7.out))).2.2.2.2.2.2.2
  have HST0 : Hid (∀ (y : Wd C) (z : World), Below y.w.heap.size y.w z → C z) := Lib.hid fun y z hb => HCD.out.2 _ (bel_trans (HCD.out.1 _ y.ok) hb)
  refine wp_region_wd C (by kernel_rfl) (by kernel_rfl) hC0 ?_
  repeat (go_big_quiet_step (first
    | (go_at_call 29; with_reducible exact Calls.wd (HST0.out _) (HMD.out _))
    | (go_at_call 29; with_reducible exact Calls.wd (HST0.out _) (HMS.out _))))
  refine wpQuiet_nil ?_
  intro _ hw'
  obtain ⟨y, rfl⟩ := hw'
  obtain ⟨w8, hw8⟩ : ∃ x, x = y.w := ⟨_, rfl⟩
  have HB78 : Hid (Below w7.heap.size w7 w8) := Lib.hid (by rw [hw8]; exact HCD.out.1 _ y.ok)
  rw [← hw8]
  clear hw8 f0 f1 f2 f3 f4 f5 f6 f7 hC0 HST0 HCD
  clear hne
  have tD : decide ((0 : Int) ≤ (D : Int)) = true := by simp
  obtain ⟨wk, hk1, hk2, hk3⟩ := ram_die (HR7.out.step HB78.out) D (by have := HDN.out; have := HN.out; omega)
  rw [HE.out.2.2.2.2.2.2] at hk1
  have c5 : w8.cell? ⟨rb, 5, none⟩ = some (.map (some gb)) := by
    have hc := (HR7.out.step HB78.out).c.2.2.2.2.2.1
    rw [HE.out.2.2.2.2.1, HE.out.2.2.2.2.2.2] at hc
    exact hc
  have HRL := Lib.hid hk2
  have HPL := Lib.hid ((HP7.out.step HB78.out).rstep hk3)
  have HE2 : Hid ((s'.kill D).n = n ∧ (s'.kill D).bl = 20 ∧ (s'.kill D).pg = 6 ∧ (s'.kill D).sz = 256 ∧ (s'.kill D).rb = rb ∧ (s'.kill D).pb = pb ∧ (s'.kill D).gb = gb) := Lib.hid HE.out
  have HBL : Hid (Below B w4 wk ∧ B ≤ wk.heap.size) := Lib.hid (by
    have h1 : B ≤ w8.heap.size := Nat.le_trans HS7.out HB78.out.size
    exact ⟨HB7.out.trans ((HB78.out.mono HS7.out).trans (hk3.below (HR7.out.step HB78.out) h1)), Nat.le_trans h1 hk3.size⟩)
  clear hk2 hk3
  go_upto_region 18 with fail
  obtain ⟨wL, hwL⟩ : ∃ x, x = wk := ⟨_, rfl⟩
  rw [← hwL] at HRL HPL HBL ⊢
  clear hwL hk1 c5 tD
  have HRD : Hid (∀ (x : World) (i : Nat), Below wL.heap.size wL x → i < k → Calls Try.prog 34 #[.iface 56 (.pointer (some ⟨rb, 0, none⟩)), .agg #[.int .i64 (seg : Int), .int .i64 (row : Int), .int .i64 (i : Int)]] x (ReadPRet (L.getD i SP.nil).h (L.getD i SP.nil).d.l x)) := Lib.hid fun x i hx hi => by
    have := stripe_read (HRL.out.step hx) (by rw [HE2.out.2.2.2.1]; omega) seg row i p D (by rw [HE2.out.2.1]; have := HSR.out.1; omega) (by rw [HE2.out.2.2.1]; exact HSR.out.2) (by rw [HE2.out.1]; have := HN.out; omega)
      (by rw [HE2.out.1, HE2.out.2.2.1]; exact HPP.out.1) (by rw [HE2.out.1]; exact HPP.out.2) (by rw [HE2.out.1, HE2.out.2.2.2.1]; exact HST.out) (by rw [HE2.out.2.2.2.1]; exact HLO.out.1) (by rw [HE2.out.1, HLO.out.2]; exact HN.out.2)
      (fun m hm hne => ⟨by show (if m = D then 1 else s'.gone m) = 0; rw [if_neg hne]; exact HGO.out m, HPGE.out m (by rw [HE2.out.1] at hm; exact hm)⟩) (Or.inl (by show (if D = D then 1 else s'.gone D) ≠ 0; simp))
    rw [HE2.out.2.2.2.2.1] at this
    exact this
  obtain ⟨lb, lo, hae, _⟩ := spage_at HPL.out.pg.1 HPL.out.len.1
  subst hae
  have BW0 := Below.refl wL.heap.size wL
  go_upto_region 19 with fail
  go_loopw [13] (fun iv wr => ∃ i : Nat, i ≤ k ∧ iv = .int .i64 (i : Int) ∧ Below wL.heap.size wL wr) (fun iv _ => (k - intOf iv).toNat)
  case atStart => exact ⟨0, Nat.zero_le _, rfl, BW0⟩
  case round =>
    obtain ⟨i, hi, rfl, hbw⟩ := hrel
    have HBW := Lib.hid hbw
    clear hbw BW0
    by_cases hlt : i < k
    · have q1 : decide (i < k) = true := by simpa using hlt
      have q1' : decide ((i : Int) < (k : Int)) = true := by simpa using hlt
      have HIK := Lib.hid hlt
      obtain ⟨q0, hq0⟩ : ∃ q, q = L.getD i SP.nil := ⟨_, rfl⟩
      have HQ0 := Lib.hid hq0
      have HRI := Lib.hid (HRD.out wr i HBW.out hlt)
      rw [← hq0] at HRI
      clear hq0
      go_wp2_with fail
      ((with_reducible refine HRI.out.mono ?_))
      rintro e w8 ⟨E, rfl, x1, x2, x3, hb8⟩
      have l9 := heap_alloc_new w8 (.cells #[.int .u8 (q0.h.ki : Int), .int .u32 (q0.h.ep : Int), .int .u32 (q0.h.ba : Int), .int .u16 (q0.h.ix : Int), .int .u16 (q0.h.ct : Int), .int .u32 (q0.h.bl : Int), .int .u32 (q0.h.mo : Int), .slice E.a E.n E.c] 77)
      have hb9 := bel_trans hb8 (bel_alloc (Below.refl _ w8) (.cells #[.int .u8 (q0.h.ki : Int), .int .u32 (q0.h.ep : Int), .int .u32 (q0.h.ba : Int), .int .u16 (q0.h.ix : Int), .int .u16 (q0.h.ct : Int), .int .u32 (q0.h.bl : Int), .int .u32 (q0.h.mo : Int), .slice E.a E.n E.c] 77))
      have hE9 := x2.step (bel_alloc (Below.refl _ w8) (.cells #[.int .u8 (q0.h.ki : Int), .int .u32 (q0.h.ep : Int), .int .u32 (q0.h.ba : Int), .int .u16 (q0.h.ix : Int), .int .u16 (q0.h.ct : Int), .int .u32 (q0.h.bl : Int), .int .u32 (q0.h.mo : Int), .slice E.a E.n E.c] 77))
      go_upto_region 22 with fail
      obtain ⟨w9, hw9⟩ : ∃ x, x = w8.alloc (.cells #[.int .u8 (q0.h.ki : Int), .int .u32 (q0.h.ep : Int), .int .u32 (q0.h.ba : Int), .int .u16 (q0.h.ix : Int), .int .u16 (q0.h.ct : Int), .int .u32 (q0.h.bl : Int), .int .u32 (q0.h.mo : Int), .slice E.a E.n E.c] 77) := ⟨_, rfl⟩
      obtain ⟨eb, heb⟩ : ∃ x, x = w8.heap.size := ⟨_, rfl⟩
      rw [← hw9, ← heb] at l9
      rw [← hw9] at hb9 hE9
      rw [← hw9, ← heb]
      have HP9 := Lib.hid (HPL.out.step (bel_trans HBW.out hb9))
      have HB9 := Lib.hid (bel_trans HBW.out hb9)
      have HE9 := Lib.hid (And.intro x1 hE9)
      have HCC : Hid (∀ x : World, Below w9.heap.size w9 x → (x.cell? ⟨eb, 0, none⟩ = some (.int .u8 (q0.h.ki : Int)) ∧ x.cell? ⟨eb, 1, none⟩ = some (.int .u32 (q0.h.ep : Int)) ∧ x.cell? ⟨eb, 2, none⟩ = some (.int .u32 (q0.h.ba : Int)) ∧ x.cell? ⟨eb, 3, none⟩ = some (.int .u16 (q0.h.ix : Int)) ∧ x.cell? ⟨eb, 4, none⟩ = some (.int .u16 (q0.h.ct : Int)) ∧ x.cell? ⟨eb, 5, none⟩ = some (.int .u32 (q0.h.bl : Int)) ∧ x.cell? ⟨eb, 6, none⟩ = some (.int .u32 (q0.h.mo : Int)) ∧ x.cell? ⟨eb, 7, none⟩ = some (.slice E.a E.n E.c) ∧ x.cell? ⟨lb, lo + i * 8, none⟩ = some (.int .u8 (q0.h.ki : Int)) ∧ x.cell? ⟨lb, lo + i * 8 + 1, none⟩ = some (.int .u32 (q0.h.ep : Int)) ∧ x.cell? ⟨lb, lo + i * 8 + 2, none⟩ = some (.int .u32 (q0.h.ba : Int)) ∧ x.cell? ⟨lb, lo + i * 8 + 3, none⟩ = some (.int .u16 (q0.h.ix : Int)) ∧ x.cell? ⟨lb, lo + i * 8 + 4, none⟩ = some (.int .u16 (q0.h.ct : Int)) ∧ x.cell? ⟨lb, lo + i * 8 + 5, none⟩ = some (.int .u32 (q0.h.bl : Int)) ∧ x.cell? ⟨lb, lo + i * 8 + 6, none⟩ = some (.int .u32 (q0.h.mo : Int)) ∧ x.cell? ⟨lb, lo + i * 8 + 7, none⟩ = some (.slice q0.d.a q0.d.n q0.d.c))) := Lib.hid fun x hx => by
        obtain ⟨a0, a1, a2, a3, a4, a5, a6, a7⟩ := eight_at ((hx.block _ (Array.getElem?_eq_some_iff.1 l9).1).trans l9)
        obtain ⟨lb', lo', hae, hpa⟩ := spage_at (HP9.out.step hx).pg.1 (show i < L.length by rw [HLO.out.2]; exact hlt)
        cases hae
        rw [← HQ0.out] at hpa
        obtain ⟨b0, b1, b2, b3, b4, b5, b6, b7⟩ := hpa
        exact ⟨a0, a1, a2, a3, a4, a5, a6, a7, b0, b1, b2, b3, b4, b5, b6, b7⟩
      have HD9 : Hid (Below w9.heap.size w9 w9.drew) := Lib.hid (Below.refl _ _).drew
      have hS0 := HCC.out w9.drew HD9.out
      have HSM : Hid (∀ x : World, Below w9.heap.size w9 x → Calls Try.prog 35 #[.agg #[.int .u8 (q0.h.ki : Int), .int .u32 (q0.h.ep : Int), .int .u32 (q0.h.ba : Int), .int .u16 (q0.h.ix : Int), .int .u16 (q0.h.ct : Int), .int .u32 (q0.h.bl : Int), .int .u32 (q0.h.mo : Int), .slice E.a E.n E.c], .agg #[.int .u8 (q0.h.ki : Int), .int .u32 (q0.h.ep : Int), .int .u32 (q0.h.ba : Int), .int .u16 (q0.h.ix : Int), .int .u16 (q0.h.ct : Int), .int .u32 (q0.h.bl : Int), .int .u32 (q0.h.mo : Int), .slice q0.d.a q0.d.n q0.d.c]] x fun e w' => e = .returned (.bool true) ∧ Below x.heap.size x w') := Lib.hid fun x hx => by
        refine stSame_yes q0.h E q0.d x (HE9.out.2.step hx) ?_ HE9.out.1
        rw [HQ0.out]
        exact ((HP9.out.step hx).pg.2 _ (sp_mem L i (by rw [HLO.out.2]; exact hlt))).1
      have i0 : (0 : Int) ≤ (i : Int) := by omega
      have i1 : (i : Int) < (k : Int) := by omega
      clear x1 x2 x3 hb8 l9 hb9 hE9 hw9 heb
      go_region_held3 (fun x => x.cell? ⟨eb, 0, none⟩ = some (.int .u8 (q0.h.ki : Int)) ∧ x.cell? ⟨eb, 1, none⟩ = some (.int .u32 (q0.h.ep : Int)) ∧ x.cell? ⟨eb, 2, none⟩ = some (.int .u32 (q0.h.ba : Int)) ∧ x.cell? ⟨eb, 3, none⟩ = some (.int .u16 (q0.h.ix : Int)) ∧ x.cell? ⟨eb, 4, none⟩ = some (.int .u16 (q0.h.ct : Int)) ∧ x.cell? ⟨eb, 5, none⟩ = some (.int .u32 (q0.h.bl : Int)) ∧ x.cell? ⟨eb, 6, none⟩ = some (.int .u32 (q0.h.mo : Int)) ∧ x.cell? ⟨eb, 7, none⟩ = some (.slice E.a E.n E.c) ∧ x.cell? ⟨lb, lo + i * 8, none⟩ = some (.int .u8 (q0.h.ki : Int)) ∧ x.cell? ⟨lb, lo + i * 8 + 1, none⟩ = some (.int .u32 (q0.h.ep : Int)) ∧ x.cell? ⟨lb, lo + i * 8 + 2, none⟩ = some (.int .u32 (q0.h.ba : Int)) ∧ x.cell? ⟨lb, lo + i * 8 + 3, none⟩ = some (.int .u16 (q0.h.ix : Int)) ∧ x.cell? ⟨lb, lo + i * 8 + 4, none⟩ = some (.int .u16 (q0.h.ct : Int)) ∧ x.cell? ⟨lb, lo + i * 8 + 5, none⟩ = some (.int .u32 (q0.h.bl : Int)) ∧ x.cell? ⟨lb, lo + i * 8 + 6, none⟩ = some (.int .u32 (q0.h.mo : Int)) ∧ x.cell? ⟨lb, lo + i * 8 + 7, none⟩ = some (.slice q0.d.a q0.d.n q0.d.c))
        (first | with_reducible exact hS0 | with_reducible exact hS1 | go_keep)
        (first
          | (go_simp; go_at_call 35; ((with_reducible refine (HSM.out _ HD9.out).mono ?_)); (intro e wb hr; obtain ⟨rfl, hbb⟩ := hr; have HBb := Lib.hid (bel_trans HD9.out hbb); have hS1 := HCC.out wb HBb.out; clear hbb)))
      all_goals
        clear hS0 hS1
        have hk7 : k ≤ 6 := by have := HN.out; omega
        go_wp2
        go_roundw
        case rel => exact ⟨i + 1, by have := HIK.out; omega, by go_num, bel_trans HB9.out HBb.out⟩
        case measure => have := HIK.out; simp [intOf]; omega
    · obtain rfl : i = k := by omega
      have q1 : decide (i < i) = false := by simp
      have q1' : decide ((i : Int) < (i : Int)) = false := by simp
      clear hlt hi
      go_wp2
      go_ret
      exact ⟨rfl, HWX.out _ (HBL.out.1.trans (HBW.out.mono HBL.out.2))⟩
set_option maxRecDepth 100000 in
set_option maxHeartbeats 8000000 in
theorem stripeReads_N (c sg rw : Int) (ha : Option Addr) (hn hc : Nat) (fa : Option Addr) (fn fc : Nat) (dd sp : Int) (ba : Option Addr) (bn bc : Nat) (HL : List RH) (FL BL : List Nat) (w : World) (hok : CaseOk w ha hn fa fn ba bn bc HL FL BL) (h10 : hn ≤ 10) (hbn : bn ≤ 320) (hdv : memC (chipsOf c) dd = -1) (hsv : memC (chipsOf c) sp = -1) :
    Calls Try.prog 5 #[.agg #[.int .i64 c, .int .i64 sg, .int .i64 rw, .slice ha hn hc, .slice fa fn fc, .int .i64 dd, .int .i64 sp, .slice ba bn bc]] w fun e w' => e = .returned (.bool true) ∧ Below w.heap.size w w' := by
  have HC := Lib.hid hok
  have t1 : decide ((10 : Int) < (hn : Int)) = false := by simp; omega
  have t1' : decide (10 < hn) = false := by simp; omega
  have t2 : decide ((320 : Int) < (bn : Int)) = false := by simp; omega
  have t2' : decide (320 < bn) = false := by simp; omega
  have HBN : Hid (bn ≤ 320) := Lib.hid hbn
  have HKE := Lib.hid kept_any
  have HSH := Lib.hid fun x : World => caseShape_any c sg rw ha hn hc fa fn fc dd sp ba bn bc x
  have HPC := Lib.hid fun x : World => casePlace_any c sg rw ha hn hc fa fn fc dd sp ba bn bc x
  have HPG := Lib.hid fun (x : World) (hx : Below w.heap.size w x) => casePages_any c sg rw ha hn hc fa fn fc dd sp ba bn bc HL FL x (HC.out.heads.keep hx (Nat.le_refl _)) HC.out.hlen HC.out.hmax HC.out.fit (row_keep HC.out.first hx (Nat.le_refl _)) HC.out.fmax
  have HMD := Lib.hid fun x : World => caseMember_any c sg rw ha hn hc fa fn fc dd sp ba bn bc dd x
  have HMS := Lib.hid fun x : World => caseMember_any c sg rw ha hn hc fa fn fc dd sp ba bn bc sp x
  rw [hdv] at HMD
  rw [hsv] at HMS
  obtain ⟨n, hnc⟩ : ∃ n, n = chipsOf c := ⟨_, rfl⟩
  have hn3 : 3 ≤ n ∧ n ≤ 7 := by rw [hnc]; exact (chips_eq c).2
  rw [← hnc] at HSH
  obtain ⟨k, hk⟩ : ∃ k, k + 1 = n := ⟨n - 1, by omega⟩
  have hkc : chipsOf c - 1 = k := by omega
  obtain ⟨seg, hseg⟩ : ∃ s, s = modN 15 sg := ⟨_, rfl⟩
  obtain ⟨row, hrow⟩ : ∃ s, s = modN 6 rw := ⟨_, rfl⟩
  have hseg2 : seg < 15 := by rw [hseg]; exact (modN_eq 15 sg (by omega) (by omega)).2
  have hrow2 : row < 6 := by rw [hrow]; exact (modN_eq 6 rw (by omega) (by omega)).2
  rw [← hseg, ← hrow] at HPC
  obtain ⟨p, hp, hpn⟩ := par_nat n seg row (by omega)
  have hgood : GoodG (n : Nat) (20 : Nat) (6 : Nat) (256 : Nat) := by unfold GoodG; omega
  have HNW := Lib.hid fun x : World => ramNew_any n 20 6 256 x hgood
  rw [show ((20 : Nat) : Int) = 20 from rfl, show ((6 : Nat) : Int) = 6 from rfl, show ((256 : Nat) : Int) = 256 from rfl] at HNW
  have HN := Lib.hid (And.intro hn3 hk)
  have HSR := Lib.hid (And.intro hseg2 hrow2)
  have HPP := Lib.hid (And.intro hp hpn)
  have HKC := Lib.hid hkc
  clear hn3 hk hseg hrow hseg2 hrow2 hp hpn hkc hnc hgood hok h10 hbn hdv hsv
  go_enter Try.func5, Try.ntmps5
  have l0 := heap_alloc_new w (.cells #[.int .i64 c, .int .i64 sg, .int .i64 rw, .slice ha hn hc, .slice fa fn fc, .int .i64 dd, .int .i64 sp, .slice ba bn bc] 52)
  have hb0 := bel_alloc (Below.refl _ w) (.cells #[.int .i64 c, .int .i64 sg, .int .i64 rw, .slice ha hn hc, .slice fa fn fc, .int .i64 dd, .int .i64 sp, .slice ba bn bc] 52)
  go_upto_region 1 with fail
  obtain ⟨w0, hw0⟩ : ∃ x, x = w.alloc (.cells #[.int .i64 c, .int .i64 sg, .int .i64 rw, .slice ha hn hc, .slice fa fn fc, .int .i64 dd, .int .i64 sp, .slice ba bn bc] 52) := ⟨_, rfl⟩
  obtain ⟨cb, hcb⟩ : ∃ x, x = w.heap.size := ⟨_, rfl⟩
  rw [← hw0, ← hcb] at l0
  rw [← hw0] at hb0
  rw [← hw0, ← hcb]
  have HX0 : Hid (∀ x : World, Below w0.heap.size w0 x → x.cell? ⟨cb, 0, none⟩ = some (.int .i64 c) ∧ x.cell? ⟨cb, 1, none⟩ = some (.int .i64 sg) ∧ x.cell? ⟨cb, 2, none⟩ = some (.int .i64 rw) ∧ x.cell? ⟨cb, 3, none⟩ = some (.slice ha hn hc) ∧ x.cell? ⟨cb, 4, none⟩ = some (.slice fa fn fc) ∧ x.cell? ⟨cb, 5, none⟩ = some (.int .i64 dd) ∧ x.cell? ⟨cb, 6, none⟩ = some (.int .i64 sp) ∧ x.cell? ⟨cb, 7, none⟩ = some (.slice ba bn bc)) := Lib.hid fun x hx => eight_at ((hx.block _ (Array.getElem?_eq_some_iff.1 l0).1).trans l0)
  have HCB : Hid (w.heap.size ≤ cb ∧ cb < w0.heap.size) := Lib.hid ⟨Nat.le_of_eq hcb.symm, (Array.getElem?_eq_some_iff.1 l0).1⟩
  have HB0 := Lib.hid hb0
  clear hw0 hcb hb0 l0
  go_wp2_with fail
  ((with_reducible refine (HKE.out _).mono ?_))
  rintro e w1 ⟨rfl, hb1⟩
  have HB1 := Lib.hid hb1
  clear hb1
  obtain ⟨z0, z1, z2, z3, z4, z5, z6, z7⟩ := HX0.out w1 HB1.out
  go_wp2_with fail
  ((with_reducible refine (HSH.out _).mono ?_))
  rintro e w2 ⟨rfl, hb2⟩
  have l3 := heap_alloc_new w2 (.cells #[.int .i64 (n : Int), .int .i64 20, .int .i64 6, .int .i64 256] 54)
  have hb3 := bel_trans HB1.out (bel_trans hb2 (bel_alloc (Below.refl _ w2) (.cells #[.int .i64 (n : Int), .int .i64 20, .int .i64 6, .int .i64 256] 54)))
  clear z0 z1 z2 z3 z4 z5 z6 z7
  go_upto_region 4 with fail
  obtain ⟨w3, hw3⟩ : ∃ x, x = w2.alloc (.cells #[.int .i64 (n : Int), .int .i64 20, .int .i64 6, .int .i64 256] 54) := ⟨_, rfl⟩
  obtain ⟨qb, hqb⟩ : ∃ x, x = w2.heap.size := ⟨_, rfl⟩
  rw [← hw3, ← hqb] at l3
  rw [← hw3] at hb3
  rw [← hw3, ← hqb]
  have HL3 := Lib.hid l3
  have HB3 := Lib.hid hb3
  obtain ⟨g0, g1, g2, g3⟩ := four_at l3
  clear hw3 hqb l3 hb2 hb3
  go_wp2_with fail
  ((with_reducible refine (HNW.out _).mono ?_))
  rintro e w4 ⟨rb, pb, gb, rfl, hr4, hb4⟩
  obtain ⟨B, hB⟩ : ∃ B, B = w3.heap.size := ⟨_, rfl⟩
  rw [← hB] at hr4
  have HR4 := Lib.hid hr4
  have HBB : Hid (w0.heap.size ≤ B ∧ B ≤ w4.heap.size) := Lib.hid ⟨by rw [hB]; exact HB3.out.size, by rw [hB]; exact hb4.size⟩
  have HWB : Hid (w.heap.size ≤ B) := Lib.hid (Nat.le_trans HB0.out.size HBB.out.1)
  have HB04 := Lib.hid (bel_trans HB3.out hb4)
  have HB4 := Lib.hid (bel_trans HB0.out HB04.out)
  have HXB : Hid (∀ x : World, Below B w4 x → x.cell? ⟨cb, 0, none⟩ = some (.int .i64 c) ∧ x.cell? ⟨cb, 1, none⟩ = some (.int .i64 sg) ∧ x.cell? ⟨cb, 2, none⟩ = some (.int .i64 rw) ∧ x.cell? ⟨cb, 3, none⟩ = some (.slice ha hn hc) ∧ x.cell? ⟨cb, 4, none⟩ = some (.slice fa fn fc) ∧ x.cell? ⟨cb, 5, none⟩ = some (.int .i64 dd) ∧ x.cell? ⟨cb, 6, none⟩ = some (.int .i64 sp) ∧ x.cell? ⟨cb, 7, none⟩ = some (.slice ba bn bc)) := Lib.hid fun x hx => HX0.out x (HB04.out.trans (hx.mono HBB.out.1))
  have HGB : Hid (∀ x : World, Below B w4 x → x.cell? ⟨qb, 0, none⟩ = some (.int .i64 (n : Int)) ∧ x.cell? ⟨qb, 1, none⟩ = some (.int .i64 20) ∧ x.cell? ⟨qb, 2, none⟩ = some (.int .i64 6) ∧ x.cell? ⟨qb, 3, none⟩ = some (.int .i64 256)) := Lib.hid fun x hx => by
    have h1 := (Array.getElem?_eq_some_iff.1 HL3.out).1
    exact four_at (((hx.block _ (by rw [hB]; exact h1)).trans (hb4.block _ h1)).trans HL3.out)
  have HWX : Hid (∀ x : World, Below B w4 x → Below w.heap.size w x) := Lib.hid fun x hx => HB4.out.trans (hx.mono HWB.out)
  clear g0 g1 g2 g3 hr4 hb4 hB
  obtain ⟨z0, z1, z2, z3, z4, z5, z6, z7⟩ := HXB.out w4 (Below.refl _ _)
  go_wp2_with fail
  ((with_reducible refine (HPC.out _).mono ?_))
  rintro e w5 ⟨rfl, hb5⟩
  have HB5 : Hid (Below B w4 w5) := Lib.hid (hb5.mono HBB.out.2)
  have HR5 := Lib.hid (HR4.out.step hb5)
  have HS5 : Hid (B ≤ w5.heap.size) := Lib.hid (Nat.le_trans HBB.out.2 hb5.size)
  clear hb5 z0 z1 z2 z3 z4 z5 z6 z7
  obtain ⟨z0, z1, z2, z3, z4, z5, z6, z7⟩ := HXB.out w5 HB5.out
  go_wp2_with fail
  ((with_reducible refine (HPG.out _ (HWX.out _ HB5.out)).mono ?_))
  rintro e w6 ⟨sv, L, rfl, hG, hb6⟩
  rw [HKC.out] at hG
  obtain ⟨a, cap, rfl, hPG, hPn, hLO, hLn⟩ := pgs_new HR5.out hG (fun j hj => pgAt_ok HL FL HC.out.fit j (by have := HN.out; omega)) (by have := HN.out; omega) (by omega)
  have HPG6 := Lib.hid (And.intro hPG hPn)
  have HLO := Lib.hid (And.intro hLO hLn)
  have HR6 := Lib.hid (HR5.out.step hb6)
  have HS6 : Hid (B ≤ w6.heap.size) := Lib.hid (Nat.le_trans HS5.out hb6.size)
  have HB6 : Hid (Below B w4 w6) := Lib.hid (HB5.out.trans (hb6.mono HS5.out))
  have hp' : ((p : Nat) : Int) = ParOf (rsNew rb pb gb n 20 6 256).n (rsNew rb pb gb n 20 6 256).pg seg row := HPP.out.1
  have HWR : Hid (Calls Try.prog 30 #[.iface 56 (.pointer (some ⟨rb, 0, none⟩)), .int .i64 (seg : Int), .int .i64 (row : Int), .slice a k cap] w6 (WriteRet B (rsNew rb pb gb n 20 6 256) p seg row L w6)) := Lib.hid (write_any HR6.out HS6.out seg row p a k cap L (by show seg + 5 < 20; have := HSR.out.1; omega) (by show row < 6; exact HSR.out.2) (by show 256 ≤ 1000; omega) hp' HPP.out.2 hLn.symm HN.out.2 hPG.pg hPn (Nat.zero_le _) (by rw [deads_none (fun _ => rfl)]; omega))
  clear z0 z1 z2 z3 z4 z5 z6 z7 hG hPG hPn hLO hLn hb6 hp'
  go_wp2_with fail
  ((with_reducible refine HWR.out.mono ?_))
  rintro e w7 ⟨s', G, P, rfl, hr7, hs7, hol, hgo, hwr, hst⟩
  obtain ⟨e1, e2, e3, e4, e5, e6, e7, e8⟩ := hs7.same
  have HE : Hid (s'.n = n ∧ s'.bl = 20 ∧ s'.pg = 6 ∧ s'.sz = 256 ∧ s'.rb = rb ∧ s'.pb = pb ∧ s'.gb = gb) := Lib.hid ⟨e4, e5, e6, e7, e1, e2, e3⟩
  have HR7 := Lib.hid hr7
  have HB7 : Hid (Below B w4 w7) := Lib.hid (HB6.out.trans (hs7.below HR6.out HS6.out))
  have HS7 : Hid (B ≤ w7.heap.size) := Lib.hid (Nat.le_trans HS6.out hs7.size)
  have HP7 := Lib.hid (HPG6.out.1.rstep hs7)
  have HST : Hid (StripeB n p 256 seg row L G P) := Lib.hid hst
  have HPGE : Hid (∀ m, m < n → s'.page (m, seg, row) = onB p G P m) := Lib.hid fun m hm => has_wrote hwr hm rfl
  have HGO : Hid (∀ m, s'.gone m = 0) := Lib.hid fun m => by rw [hgo]; rfl
  clear e1 e2 e3 e4 e5 e6 e7 e8 hr7 hs7 hst hwr hol hgo
  go_upto_region 9 with fail
  obtain ⟨C, hCd⟩ : ∃ C : World → Prop, (∀ x, C x → Below w7.heap.size w7 x) ∧ (∀ x, Below w7.heap.size w7 x → C x) := ⟨_, fun _ h => h, fun _ h => h⟩
  have hC0 := hCd.2 _ (Below.refl w7.heap.size w7).drew
  haveI hne : Nonempty (Wd C) := ⟨⟨_, hC0⟩⟩
  have HCD := Lib.hid hCd
  clear hCd
  have f0 : ∀ y : Wd C, y.w.cell? ⟨cb, 0, none⟩ = some (.int .i64 c) := fun y => (HXB.out _ (HB7.out.trans ((HCD.out.1 _ y.ok).mono HS7.out))).1
  have f1 : ∀ y : Wd C, y.w.cell? ⟨cb, 1, none⟩ = some (.int .i64 sg) := fun y => (HXB.out _ (HB7.out.trans ((HCD.out.1 _ y.ok).mono HS7.out))).2.1
  have f2 : ∀ y : Wd C, y.w.cell? ⟨cb, 2, none⟩ = some (.int .i64 rw) := fun y => (HXB.out _ (HB7.out.trans ((HCD.out.1 _ y.ok).mono HS7.out))).2.2.1
  have f3 : ∀ y : Wd C, y.w.cell? ⟨cb, 3, none⟩ = some (.slice ha hn hc) := fun y => (HXB.out _ (HB7.out.trans ((HCD.out.1 _ y.ok).mono HS7.out))).2.2.2.1
  have f4 : ∀ y : Wd C, y.w.cell? ⟨cb, 4, none⟩ = some (.slice fa fn fc) := fun y => (HXB.out _ (HB7.out.trans ((HCD.out.1 _ y.ok).mono HS7.out))).2.2.2.2.1
  have f5 : ∀ y : Wd C, y.w.cell? ⟨cb, 5, none⟩ = some (.int .i64 dd) := fun y => (HXB.out _ (HB7.out.trans ((HCD.out.1 _ y.ok).mono HS7.out))).2.2.2.2.2.1
  have f6 : ∀ y : Wd C, y.w.cell? ⟨cb, 6, none⟩ = some (.int .i64 sp) := fun y => (HXB.out _ (HB7.out.trans ((HCD.out.1 _ y.ok).mono HS7.out))).2.2.2.2.2.2.1
  have f7 : ∀ y : Wd C, y.w.cell? ⟨cb, 7, none⟩ = some (.slice ba bn bc) := fun y => (HXB.out _ (HB7.out.trans ((HCD.out.1 _ y.ok).mono HS7.out))).2.2.2.2.2.2.2
  have HST0 : Hid (∀ (y : Wd C) (z : World), Below y.w.heap.size y.w z → C z) := Lib.hid fun y z hb => HCD.out.2 _ (bel_trans (HCD.out.1 _ y.ok) hb)
  refine wp_region_wd C (by kernel_rfl) (by kernel_rfl) hC0 ?_
  repeat (go_big_quiet_step (first
    | (go_at_call 29; with_reducible exact Calls.wd (HST0.out _) (HMD.out _))
    | (go_at_call 29; with_reducible exact Calls.wd (HST0.out _) (HMS.out _))))
  refine wpQuiet_nil ?_
  intro _ hw'
  obtain ⟨y, rfl⟩ := hw'
  obtain ⟨w8, hw8⟩ : ∃ x, x = y.w := ⟨_, rfl⟩
  have HB78 : Hid (Below w7.heap.size w7 w8) := Lib.hid (by rw [hw8]; exact HCD.out.1 _ y.ok)
  rw [← hw8]
  clear hw8 f0 f1 f2 f3 f4 f5 f6 f7 hC0 HST0 HCD
  clear hne
  have tD : decide ((0 : Int) ≤ -1) = false := by decide
  go_upto_region 18 with fail
  obtain ⟨wL, hwL⟩ : ∃ x, x = w8 := ⟨_, rfl⟩
  have HRL := Lib.hid (HR7.out.step HB78.out)
  have HPL := Lib.hid (HP7.out.step HB78.out)
  have HE2 := HE
  have HBL : Hid (Below B w4 w8 ∧ B ≤ w8.heap.size) := Lib.hid ⟨HB7.out.trans (HB78.out.mono HS7.out), Nat.le_trans HS7.out HB78.out.size⟩
  rw [← hwL] at HRL HPL HBL ⊢
  clear hwL tD
  have HRD : Hid (∀ (x : World) (i : Nat), Below wL.heap.size wL x → i < k → Calls Try.prog 34 #[.iface 56 (.pointer (some ⟨rb, 0, none⟩)), .agg #[.int .i64 (seg : Int), .int .i64 (row : Int), .int .i64 (i : Int)]] x (ReadPRet (L.getD i SP.nil).h (L.getD i SP.nil).d.l x)) := Lib.hid fun x i hx hi => by
    have := stripe_read (HRL.out.step hx) (by rw [HE2.out.2.2.2.1]; omega) seg row i p n (by rw [HE2.out.2.1]; have := HSR.out.1; omega) (by rw [HE2.out.2.2.1]; exact HSR.out.2) (by rw [HE2.out.1]; have := HN.out; omega)
      (by rw [HE2.out.1, HE2.out.2.2.1]; exact HPP.out.1) (by rw [HE2.out.1]; exact HPP.out.2) (by rw [HE2.out.1, HE2.out.2.2.2.1]; exact HST.out) (by rw [HE2.out.2.2.2.1]; exact HLO.out.1) (by rw [HE2.out.1, HLO.out.2]; exact HN.out.2)
      (fun m hm hne => ⟨HGO.out m, HPGE.out m (by rw [HE2.out.1] at hm; exact hm)⟩) (Or.inr (Or.inr (by rw [HE2.out.1]; exact Nat.le_refl _)))
    rw [HE2.out.2.2.2.2.1] at this
    exact this
  obtain ⟨lb, lo, hae, _⟩ := spage_at HPL.out.pg.1 HPL.out.len.1
  subst hae
  have BW0 := Below.refl wL.heap.size wL
  go_upto_region 19 with fail
  go_loopw [13] (fun iv wr => ∃ i : Nat, i ≤ k ∧ iv = .int .i64 (i : Int) ∧ Below wL.heap.size wL wr) (fun iv _ => (k - intOf iv).toNat)
  case atStart => exact ⟨0, Nat.zero_le _, rfl, BW0⟩
  case round =>
    obtain ⟨i, hi, rfl, hbw⟩ := hrel
    have HBW := Lib.hid hbw
    clear hbw BW0
    by_cases hlt : i < k
    · have q1 : decide (i < k) = true := by simpa using hlt
      have q1' : decide ((i : Int) < (k : Int)) = true := by simpa using hlt
      have HIK := Lib.hid hlt
      obtain ⟨q0, hq0⟩ : ∃ q, q = L.getD i SP.nil := ⟨_, rfl⟩
      have HQ0 := Lib.hid hq0
      have HRI := Lib.hid (HRD.out wr i HBW.out hlt)
      rw [← hq0] at HRI
      clear hq0
      go_wp2_with fail
      ((with_reducible refine HRI.out.mono ?_))
      rintro e w8 ⟨E, rfl, x1, x2, x3, hb8⟩
      have l9 := heap_alloc_new w8 (.cells #[.int .u8 (q0.h.ki : Int), .int .u32 (q0.h.ep : Int), .int .u32 (q0.h.ba : Int), .int .u16 (q0.h.ix : Int), .int .u16 (q0.h.ct : Int), .int .u32 (q0.h.bl : Int), .int .u32 (q0.h.mo : Int), .slice E.a E.n E.c] 77)
      have hb9 := bel_trans hb8 (bel_alloc (Below.refl _ w8) (.cells #[.int .u8 (q0.h.ki : Int), .int .u32 (q0.h.ep : Int), .int .u32 (q0.h.ba : Int), .int .u16 (q0.h.ix : Int), .int .u16 (q0.h.ct : Int), .int .u32 (q0.h.bl : Int), .int .u32 (q0.h.mo : Int), .slice E.a E.n E.c] 77))
      have hE9 := x2.step (bel_alloc (Below.refl _ w8) (.cells #[.int .u8 (q0.h.ki : Int), .int .u32 (q0.h.ep : Int), .int .u32 (q0.h.ba : Int), .int .u16 (q0.h.ix : Int), .int .u16 (q0.h.ct : Int), .int .u32 (q0.h.bl : Int), .int .u32 (q0.h.mo : Int), .slice E.a E.n E.c] 77))
      go_upto_region 22 with fail
      obtain ⟨w9, hw9⟩ : ∃ x, x = w8.alloc (.cells #[.int .u8 (q0.h.ki : Int), .int .u32 (q0.h.ep : Int), .int .u32 (q0.h.ba : Int), .int .u16 (q0.h.ix : Int), .int .u16 (q0.h.ct : Int), .int .u32 (q0.h.bl : Int), .int .u32 (q0.h.mo : Int), .slice E.a E.n E.c] 77) := ⟨_, rfl⟩
      obtain ⟨eb, heb⟩ : ∃ x, x = w8.heap.size := ⟨_, rfl⟩
      rw [← hw9, ← heb] at l9
      rw [← hw9] at hb9 hE9
      rw [← hw9, ← heb]
      have HP9 := Lib.hid (HPL.out.step (bel_trans HBW.out hb9))
      have HB9 := Lib.hid (bel_trans HBW.out hb9)
      have HE9 := Lib.hid (And.intro x1 hE9)
      have HCC : Hid (∀ x : World, Below w9.heap.size w9 x → (x.cell? ⟨eb, 0, none⟩ = some (.int .u8 (q0.h.ki : Int)) ∧ x.cell? ⟨eb, 1, none⟩ = some (.int .u32 (q0.h.ep : Int)) ∧ x.cell? ⟨eb, 2, none⟩ = some (.int .u32 (q0.h.ba : Int)) ∧ x.cell? ⟨eb, 3, none⟩ = some (.int .u16 (q0.h.ix : Int)) ∧ x.cell? ⟨eb, 4, none⟩ = some (.int .u16 (q0.h.ct : Int)) ∧ x.cell? ⟨eb, 5, none⟩ = some (.int .u32 (q0.h.bl : Int)) ∧ x.cell? ⟨eb, 6, none⟩ = some (.int .u32 (q0.h.mo : Int)) ∧ x.cell? ⟨eb, 7, none⟩ = some (.slice E.a E.n E.c) ∧ x.cell? ⟨lb, lo + i * 8, none⟩ = some (.int .u8 (q0.h.ki : Int)) ∧ x.cell? ⟨lb, lo + i * 8 + 1, none⟩ = some (.int .u32 (q0.h.ep : Int)) ∧ x.cell? ⟨lb, lo + i * 8 + 2, none⟩ = some (.int .u32 (q0.h.ba : Int)) ∧ x.cell? ⟨lb, lo + i * 8 + 3, none⟩ = some (.int .u16 (q0.h.ix : Int)) ∧ x.cell? ⟨lb, lo + i * 8 + 4, none⟩ = some (.int .u16 (q0.h.ct : Int)) ∧ x.cell? ⟨lb, lo + i * 8 + 5, none⟩ = some (.int .u32 (q0.h.bl : Int)) ∧ x.cell? ⟨lb, lo + i * 8 + 6, none⟩ = some (.int .u32 (q0.h.mo : Int)) ∧ x.cell? ⟨lb, lo + i * 8 + 7, none⟩ = some (.slice q0.d.a q0.d.n q0.d.c))) := Lib.hid fun x hx => by
        obtain ⟨a0, a1, a2, a3, a4, a5, a6, a7⟩ := eight_at ((hx.block _ (Array.getElem?_eq_some_iff.1 l9).1).trans l9)
        obtain ⟨lb', lo', hae, hpa⟩ := spage_at (HP9.out.step hx).pg.1 (show i < L.length by rw [HLO.out.2]; exact hlt)
        cases hae
        rw [← HQ0.out] at hpa
        obtain ⟨b0, b1, b2, b3, b4, b5, b6, b7⟩ := hpa
        exact ⟨a0, a1, a2, a3, a4, a5, a6, a7, b0, b1, b2, b3, b4, b5, b6, b7⟩
      have HD9 : Hid (Below w9.heap.size w9 w9.drew) := Lib.hid (Below.refl _ _).drew
      have hS0 := HCC.out w9.drew HD9.out
      have HSM : Hid (∀ x : World, Below w9.heap.size w9 x → Calls Try.prog 35 #[.agg #[.int .u8 (q0.h.ki : Int), .int .u32 (q0.h.ep : Int), .int .u32 (q0.h.ba : Int), .int .u16 (q0.h.ix : Int), .int .u16 (q0.h.ct : Int), .int .u32 (q0.h.bl : Int), .int .u32 (q0.h.mo : Int), .slice E.a E.n E.c], .agg #[.int .u8 (q0.h.ki : Int), .int .u32 (q0.h.ep : Int), .int .u32 (q0.h.ba : Int), .int .u16 (q0.h.ix : Int), .int .u16 (q0.h.ct : Int), .int .u32 (q0.h.bl : Int), .int .u32 (q0.h.mo : Int), .slice q0.d.a q0.d.n q0.d.c]] x fun e w' => e = .returned (.bool true) ∧ Below x.heap.size x w') := Lib.hid fun x hx => by
        refine stSame_yes q0.h E q0.d x (HE9.out.2.step hx) ?_ HE9.out.1
        rw [HQ0.out]
        exact ((HP9.out.step hx).pg.2 _ (sp_mem L i (by rw [HLO.out.2]; exact hlt))).1
      have i0 : (0 : Int) ≤ (i : Int) := by omega
      have i1 : (i : Int) < (k : Int) := by omega
      clear x1 x2 x3 hb8 l9 hb9 hE9 hw9 heb
      go_region_held3 (fun x => x.cell? ⟨eb, 0, none⟩ = some (.int .u8 (q0.h.ki : Int)) ∧ x.cell? ⟨eb, 1, none⟩ = some (.int .u32 (q0.h.ep : Int)) ∧ x.cell? ⟨eb, 2, none⟩ = some (.int .u32 (q0.h.ba : Int)) ∧ x.cell? ⟨eb, 3, none⟩ = some (.int .u16 (q0.h.ix : Int)) ∧ x.cell? ⟨eb, 4, none⟩ = some (.int .u16 (q0.h.ct : Int)) ∧ x.cell? ⟨eb, 5, none⟩ = some (.int .u32 (q0.h.bl : Int)) ∧ x.cell? ⟨eb, 6, none⟩ = some (.int .u32 (q0.h.mo : Int)) ∧ x.cell? ⟨eb, 7, none⟩ = some (.slice E.a E.n E.c) ∧ x.cell? ⟨lb, lo + i * 8, none⟩ = some (.int .u8 (q0.h.ki : Int)) ∧ x.cell? ⟨lb, lo + i * 8 + 1, none⟩ = some (.int .u32 (q0.h.ep : Int)) ∧ x.cell? ⟨lb, lo + i * 8 + 2, none⟩ = some (.int .u32 (q0.h.ba : Int)) ∧ x.cell? ⟨lb, lo + i * 8 + 3, none⟩ = some (.int .u16 (q0.h.ix : Int)) ∧ x.cell? ⟨lb, lo + i * 8 + 4, none⟩ = some (.int .u16 (q0.h.ct : Int)) ∧ x.cell? ⟨lb, lo + i * 8 + 5, none⟩ = some (.int .u32 (q0.h.bl : Int)) ∧ x.cell? ⟨lb, lo + i * 8 + 6, none⟩ = some (.int .u32 (q0.h.mo : Int)) ∧ x.cell? ⟨lb, lo + i * 8 + 7, none⟩ = some (.slice q0.d.a q0.d.n q0.d.c))
        (first | with_reducible exact hS0 | with_reducible exact hS1 | go_keep)
        (first
          | (go_simp; go_at_call 35; ((with_reducible refine (HSM.out _ HD9.out).mono ?_)); (intro e wb hr; obtain ⟨rfl, hbb⟩ := hr; have HBb := Lib.hid (bel_trans HD9.out hbb); have hS1 := HCC.out wb HBb.out; clear hbb)))
      all_goals
        clear hS0 hS1
        have hk7 : k ≤ 6 := by have := HN.out; omega
        go_wp2
        go_roundw
        case rel => exact ⟨i + 1, by have := HIK.out; omega, by go_num, bel_trans HB9.out HBb.out⟩
        case measure => have := HIK.out; simp [intOf]; omega
    · obtain rfl : i = k := by omega
      have q1 : decide (i < i) = false := by simp
      have q1' : decide ((i : Int) < (i : Int)) = false := by simp
      clear hlt hi
      go_wp2
      go_ret
      exact ⟨rfl, HWX.out _ (HBL.out.1.trans (HBW.out.mono HBL.out.2))⟩
set_option maxRecDepth 100000 in
set_option maxHeartbeats 8000000 in
theorem stripeReads_S (c sg rw : Int) (ha : Option Addr) (hn hc : Nat) (fa : Option Addr) (fn fc : Nat) (dd sp : Int) (ba : Option Addr) (bn bc : Nat) (HL : List RH) (FL BL : List Nat) (w : World) (hok : CaseOk w ha hn fa fn ba bn bc HL FL BL) (h10 : hn ≤ 10) (hbn : bn ≤ 320) (Sp : Nat) (hS : Sp < chipsOf c) (hdv : memC (chipsOf c) dd = -1) (hsv : memC (chipsOf c) sp = (Sp : Int)) :
    Calls Try.prog 5 #[.agg #[.int .i64 c, .int .i64 sg, .int .i64 rw, .slice ha hn hc, .slice fa fn fc, .int .i64 dd, .int .i64 sp, .slice ba bn bc]] w fun e w' => e = .returned (.bool true) ∧ Below w.heap.size w w' := by
  have HC := Lib.hid hok
  have t1 : decide ((10 : Int) < (hn : Int)) = false := by simp; omega
  have t1' : decide (10 < hn) = false := by simp; omega
  have t2 : decide ((320 : Int) < (bn : Int)) = false := by simp; omega
  have t2' : decide (320 < bn) = false := by simp; omega
  have HBN : Hid (bn ≤ 320) := Lib.hid hbn
  have HKE := Lib.hid kept_any
  have HSH := Lib.hid fun x : World => caseShape_any c sg rw ha hn hc fa fn fc dd sp ba bn bc x
  have HPC := Lib.hid fun x : World => casePlace_any c sg rw ha hn hc fa fn fc dd sp ba bn bc x
  have HPG := Lib.hid fun (x : World) (hx : Below w.heap.size w x) => casePages_any c sg rw ha hn hc fa fn fc dd sp ba bn bc HL FL x (HC.out.heads.keep hx (Nat.le_refl _)) HC.out.hlen HC.out.hmax HC.out.fit (row_keep HC.out.first hx (Nat.le_refl _)) HC.out.fmax
  have HMD := Lib.hid fun x : World => caseMember_any c sg rw ha hn hc fa fn fc dd sp ba bn bc dd x
  have HMS := Lib.hid fun x : World => caseMember_any c sg rw ha hn hc fa fn fc dd sp ba bn bc sp x
  rw [hdv] at HMD
  rw [hsv] at HMS
  obtain ⟨n, hnc⟩ : ∃ n, n = chipsOf c := ⟨_, rfl⟩
  have hn3 : 3 ≤ n ∧ n ≤ 7 := by rw [hnc]; exact (chips_eq c).2
  rw [← hnc] at HSH
  rw [← hnc] at hS
  obtain ⟨k, hk⟩ : ∃ k, k + 1 = n := ⟨n - 1, by omega⟩
  have hkc : chipsOf c - 1 = k := by omega
  obtain ⟨seg, hseg⟩ : ∃ s, s = modN 15 sg := ⟨_, rfl⟩
  obtain ⟨row, hrow⟩ : ∃ s, s = modN 6 rw := ⟨_, rfl⟩
  have hseg2 : seg < 15 := by rw [hseg]; exact (modN_eq 15 sg (by omega) (by omega)).2
  have hrow2 : row < 6 := by rw [hrow]; exact (modN_eq 6 rw (by omega) (by omega)).2
  rw [← hseg, ← hrow] at HPC
  obtain ⟨p, hp, hpn⟩ := par_nat n seg row (by omega)
  have hgood : GoodG (n : Nat) (20 : Nat) (6 : Nat) (256 : Nat) := by unfold GoodG; omega
  have HNW := Lib.hid fun x : World => ramNew_any n 20 6 256 x hgood
  rw [show ((20 : Nat) : Int) = 20 from rfl, show ((6 : Nat) : Int) = 6 from rfl, show ((256 : Nat) : Int) = 256 from rfl] at HNW
  have HN := Lib.hid (And.intro hn3 hk)
  have HSR := Lib.hid (And.intro hseg2 hrow2)
  have HPP := Lib.hid (And.intro hp hpn)
  have HKC := Lib.hid hkc
  have HDN := Lib.hid hS
  clear hn3 hk hseg hrow hseg2 hrow2 hp hpn hkc hnc hgood hok h10 hbn hS hdv hsv
  go_enter Try.func5, Try.ntmps5
  have l0 := heap_alloc_new w (.cells #[.int .i64 c, .int .i64 sg, .int .i64 rw, .slice ha hn hc, .slice fa fn fc, .int .i64 dd, .int .i64 sp, .slice ba bn bc] 52)
  have hb0 := bel_alloc (Below.refl _ w) (.cells #[.int .i64 c, .int .i64 sg, .int .i64 rw, .slice ha hn hc, .slice fa fn fc, .int .i64 dd, .int .i64 sp, .slice ba bn bc] 52)
  go_upto_region 1 with fail
  obtain ⟨w0, hw0⟩ : ∃ x, x = w.alloc (.cells #[.int .i64 c, .int .i64 sg, .int .i64 rw, .slice ha hn hc, .slice fa fn fc, .int .i64 dd, .int .i64 sp, .slice ba bn bc] 52) := ⟨_, rfl⟩
  obtain ⟨cb, hcb⟩ : ∃ x, x = w.heap.size := ⟨_, rfl⟩
  rw [← hw0, ← hcb] at l0
  rw [← hw0] at hb0
  rw [← hw0, ← hcb]
  have HX0 : Hid (∀ x : World, Below w0.heap.size w0 x → x.cell? ⟨cb, 0, none⟩ = some (.int .i64 c) ∧ x.cell? ⟨cb, 1, none⟩ = some (.int .i64 sg) ∧ x.cell? ⟨cb, 2, none⟩ = some (.int .i64 rw) ∧ x.cell? ⟨cb, 3, none⟩ = some (.slice ha hn hc) ∧ x.cell? ⟨cb, 4, none⟩ = some (.slice fa fn fc) ∧ x.cell? ⟨cb, 5, none⟩ = some (.int .i64 dd) ∧ x.cell? ⟨cb, 6, none⟩ = some (.int .i64 sp) ∧ x.cell? ⟨cb, 7, none⟩ = some (.slice ba bn bc)) := Lib.hid fun x hx => eight_at ((hx.block _ (Array.getElem?_eq_some_iff.1 l0).1).trans l0)
  have HCB : Hid (w.heap.size ≤ cb ∧ cb < w0.heap.size) := Lib.hid ⟨Nat.le_of_eq hcb.symm, (Array.getElem?_eq_some_iff.1 l0).1⟩
  have HB0 := Lib.hid hb0
  clear hw0 hcb hb0 l0
  go_wp2_with fail
  ((with_reducible refine (HKE.out _).mono ?_))
  rintro e w1 ⟨rfl, hb1⟩
  have HB1 := Lib.hid hb1
  clear hb1
  obtain ⟨z0, z1, z2, z3, z4, z5, z6, z7⟩ := HX0.out w1 HB1.out
  go_wp2_with fail
  ((with_reducible refine (HSH.out _).mono ?_))
  rintro e w2 ⟨rfl, hb2⟩
  have l3 := heap_alloc_new w2 (.cells #[.int .i64 (n : Int), .int .i64 20, .int .i64 6, .int .i64 256] 54)
  have hb3 := bel_trans HB1.out (bel_trans hb2 (bel_alloc (Below.refl _ w2) (.cells #[.int .i64 (n : Int), .int .i64 20, .int .i64 6, .int .i64 256] 54)))
  clear z0 z1 z2 z3 z4 z5 z6 z7
  go_upto_region 4 with fail
  obtain ⟨w3, hw3⟩ : ∃ x, x = w2.alloc (.cells #[.int .i64 (n : Int), .int .i64 20, .int .i64 6, .int .i64 256] 54) := ⟨_, rfl⟩
  obtain ⟨qb, hqb⟩ : ∃ x, x = w2.heap.size := ⟨_, rfl⟩
  rw [← hw3, ← hqb] at l3
  rw [← hw3] at hb3
  rw [← hw3, ← hqb]
  have HL3 := Lib.hid l3
  have HB3 := Lib.hid hb3
  obtain ⟨g0, g1, g2, g3⟩ := four_at l3
  clear hw3 hqb l3 hb2 hb3
  go_wp2_with fail
  ((with_reducible refine (HNW.out _).mono ?_))
  rintro e w4 ⟨rb, pb, gb, rfl, hr4, hb4⟩
  obtain ⟨B, hB⟩ : ∃ B, B = w3.heap.size := ⟨_, rfl⟩
  rw [← hB] at hr4
  have HR4 := Lib.hid hr4
  have HBB : Hid (w0.heap.size ≤ B ∧ B ≤ w4.heap.size) := Lib.hid ⟨by rw [hB]; exact HB3.out.size, by rw [hB]; exact hb4.size⟩
  have HWB : Hid (w.heap.size ≤ B) := Lib.hid (Nat.le_trans HB0.out.size HBB.out.1)
  have HB04 := Lib.hid (bel_trans HB3.out hb4)
  have HB4 := Lib.hid (bel_trans HB0.out HB04.out)
  have HXB : Hid (∀ x : World, Below B w4 x → x.cell? ⟨cb, 0, none⟩ = some (.int .i64 c) ∧ x.cell? ⟨cb, 1, none⟩ = some (.int .i64 sg) ∧ x.cell? ⟨cb, 2, none⟩ = some (.int .i64 rw) ∧ x.cell? ⟨cb, 3, none⟩ = some (.slice ha hn hc) ∧ x.cell? ⟨cb, 4, none⟩ = some (.slice fa fn fc) ∧ x.cell? ⟨cb, 5, none⟩ = some (.int .i64 dd) ∧ x.cell? ⟨cb, 6, none⟩ = some (.int .i64 sp) ∧ x.cell? ⟨cb, 7, none⟩ = some (.slice ba bn bc)) := Lib.hid fun x hx => HX0.out x (HB04.out.trans (hx.mono HBB.out.1))
  have HGB : Hid (∀ x : World, Below B w4 x → x.cell? ⟨qb, 0, none⟩ = some (.int .i64 (n : Int)) ∧ x.cell? ⟨qb, 1, none⟩ = some (.int .i64 20) ∧ x.cell? ⟨qb, 2, none⟩ = some (.int .i64 6) ∧ x.cell? ⟨qb, 3, none⟩ = some (.int .i64 256)) := Lib.hid fun x hx => by
    have h1 := (Array.getElem?_eq_some_iff.1 HL3.out).1
    exact four_at (((hx.block _ (by rw [hB]; exact h1)).trans (hb4.block _ h1)).trans HL3.out)
  have HWX : Hid (∀ x : World, Below B w4 x → Below w.heap.size w x) := Lib.hid fun x hx => HB4.out.trans (hx.mono HWB.out)
  clear g0 g1 g2 g3 hr4 hb4 hB
  obtain ⟨z0, z1, z2, z3, z4, z5, z6, z7⟩ := HXB.out w4 (Below.refl _ _)
  go_wp2_with fail
  ((with_reducible refine (HPC.out _).mono ?_))
  rintro e w5 ⟨rfl, hb5⟩
  have HB5 : Hid (Below B w4 w5) := Lib.hid (hb5.mono HBB.out.2)
  have HR5 := Lib.hid (HR4.out.step hb5)
  have HS5 : Hid (B ≤ w5.heap.size) := Lib.hid (Nat.le_trans HBB.out.2 hb5.size)
  clear hb5 z0 z1 z2 z3 z4 z5 z6 z7
  obtain ⟨z0, z1, z2, z3, z4, z5, z6, z7⟩ := HXB.out w5 HB5.out
  go_wp2_with fail
  ((with_reducible refine (HPG.out _ (HWX.out _ HB5.out)).mono ?_))
  rintro e w6 ⟨sv, L, rfl, hG, hb6⟩
  rw [HKC.out] at hG
  obtain ⟨a, cap, rfl, hPG, hPn, hLO, hLn⟩ := pgs_new HR5.out hG (fun j hj => pgAt_ok HL FL HC.out.fit j (by have := HN.out; omega)) (by have := HN.out; omega) (by omega)
  have HPG6 := Lib.hid (And.intro hPG hPn)
  have HLO := Lib.hid (And.intro hLO hLn)
  have HR6 := Lib.hid (HR5.out.step hb6)
  have HS6 : Hid (B ≤ w6.heap.size) := Lib.hid (Nat.le_trans HS5.out hb6.size)
  have HB6 : Hid (Below B w4 w6) := Lib.hid (HB5.out.trans (hb6.mono HS5.out))
  have hp' : ((p : Nat) : Int) = ParOf (rsNew rb pb gb n 20 6 256).n (rsNew rb pb gb n 20 6 256).pg seg row := HPP.out.1
  have HWR : Hid (Calls Try.prog 30 #[.iface 56 (.pointer (some ⟨rb, 0, none⟩)), .int .i64 (seg : Int), .int .i64 (row : Int), .slice a k cap] w6 (WriteRet B (rsNew rb pb gb n 20 6 256) p seg row L w6)) := Lib.hid (write_any HR6.out HS6.out seg row p a k cap L (by show seg + 5 < 20; have := HSR.out.1; omega) (by show row < 6; exact HSR.out.2) (by show 256 ≤ 1000; omega) hp' HPP.out.2 hLn.symm HN.out.2 hPG.pg hPn (Nat.zero_le _) (by rw [deads_none (fun _ => rfl)]; omega))
  clear z0 z1 z2 z3 z4 z5 z6 z7 hG hPG hPn hLO hLn hb6 hp'
  go_wp2_with fail
  ((with_reducible refine HWR.out.mono ?_))
  rintro e w7 ⟨s', G, P, rfl, hr7, hs7, hol, hgo, hwr, hst⟩
  obtain ⟨e1, e2, e3, e4, e5, e6, e7, e8⟩ := hs7.same
  have HE : Hid (s'.n = n ∧ s'.bl = 20 ∧ s'.pg = 6 ∧ s'.sz = 256 ∧ s'.rb = rb ∧ s'.pb = pb ∧ s'.gb = gb) := Lib.hid ⟨e4, e5, e6, e7, e1, e2, e3⟩
  have HR7 := Lib.hid hr7
  have HB7 : Hid (Below B w4 w7) := Lib.hid (HB6.out.trans (hs7.below HR6.out HS6.out))
  have HS7 : Hid (B ≤ w7.heap.size) := Lib.hid (Nat.le_trans HS6.out hs7.size)
  have HP7 := Lib.hid (HPG6.out.1.rstep hs7)
  have HST : Hid (StripeB n p 256 seg row L G P) := Lib.hid hst
  have HFW : Hid (∀ m, m < n → ∃ q, s'.F (m, seg, row) = some q ∧ q.l = onB p G P m) := Lib.hid fun m hm => hwr.1 m (ordL_all hm) rfl
  have HPGE : Hid (∀ m, m < n → s'.page (m, seg, row) = onB p G P m) := Lib.hid fun m hm => has_wrote hwr hm rfl
  have HGO : Hid (∀ m, s'.gone m = 0) := Lib.hid fun m => by rw [hgo]; rfl
  clear e1 e2 e3 e4 e5 e6 e7 e8 hr7 hs7 hst hwr hol hgo
  go_upto_region 9 with fail
  obtain ⟨C, hCd⟩ : ∃ C : World → Prop, (∀ x, C x → Below w7.heap.size w7 x) ∧ (∀ x, Below w7.heap.size w7 x → C x) := ⟨_, fun _ h => h, fun _ h => h⟩
  have hC0 := hCd.2 _ (Below.refl w7.heap.size w7).drew
  haveI hne : Nonempty (Wd C) := ⟨⟨_, hC0⟩⟩
  have HCD := Lib.hid hCd
  clear hCd
  have f0 : ∀ y : Wd C, y.w.cell? ⟨cb, 0, none⟩ = some (.int .i64 c) := fun y => (HXB.out _ (HB7.out.trans ((HCD.out.1 _ y.ok).mono HS7.out))).1
  have f1 : ∀ y : Wd C, y.w.cell? ⟨cb, 1, none⟩ = some (.int .i64 sg) := fun y => (HXB.out _ (HB7.out.trans ((HCD.out.1 _ y.ok).mono HS7.out))).2.1
  have f2 : ∀ y : Wd C, y.w.cell? ⟨cb, 2, none⟩ = some (.int .i64 rw) := fun y => (HXB.out _ (HB7.out.trans ((HCD.out.1 _ y.ok).mono HS7.out))).2.2.1
  have f3 : ∀ y : Wd C, y.w.cell? ⟨cb, 3, none⟩ = some (.slice ha hn hc) := fun y => (HXB.out _ (HB7.out.trans ((HCD.out.1 _ y.ok).mono HS7.out))).2.2.2.1
  have f4 : ∀ y : Wd C, y.w.cell? ⟨cb, 4, none⟩ = some (.slice fa fn fc) := fun y => (HXB.out _ (HB7.out.trans ((HCD.out.1 _ y.ok).mono HS7.out))).2.2.2.2.1
  have f5 : ∀ y : Wd C, y.w.cell? ⟨cb, 5, none⟩ = some (.int .i64 dd) := fun y => (HXB.out _ (HB7.out.trans ((HCD.out.1 _ y.ok).mono HS7.out))).2.2.2.2.2.1
  have f6 : ∀ y : Wd C, y.w.cell? ⟨cb, 6, none⟩ = some (.int .i64 sp) := fun y => (HXB.out _ (HB7.out.trans ((HCD.out.1 _ y.ok).mono HS7.out))).2.2.2.2.2.2.1
  have f7 : ∀ y : Wd C, y.w.cell? ⟨cb, 7, none⟩ = some (.slice ba bn bc) := fun y => (HXB.out _ (HB7.out.trans ((HCD.out.1 _ y.ok).mono HS7.out))).2.2.2.2.2.2.2
  have HST0 : Hid (∀ (y : Wd C) (z : World), Below y.w.heap.size y.w z → C z) := Lib.hid fun y z hb => HCD.out.2 _ (bel_trans (HCD.out.1 _ y.ok) hb)
  refine wp_region_wd C (by kernel_rfl) (by kernel_rfl) hC0 ?_
  repeat (go_big_quiet_step (first
    | (go_at_call 29; with_reducible exact Calls.wd (HST0.out _) (HMD.out _))
    | (go_at_call 29; with_reducible exact Calls.wd (HST0.out _) (HMS.out _))))
  refine wpQuiet_nil ?_
  intro _ hw'
  obtain ⟨y, rfl⟩ := hw'
  obtain ⟨w8, hw8⟩ : ∃ x, x = y.w := ⟨_, rfl⟩
  have HB78 : Hid (Below w7.heap.size w7 w8) := Lib.hid (by rw [hw8]; exact HCD.out.1 _ y.ok)
  rw [← hw8]
  clear hw8 f0 f1 f2 f3 f4 f5 f6 f7 hC0 HST0 HCD
  clear hne
  have tD : decide ((0 : Int) ≤ -1) = false := by decide
  have tS : decide ((0 : Int) ≤ (Sp : Int)) = true := by simp
  have HR8 := Lib.hid (HR7.out.step HB78.out)
  have hpg0 := HPGE.out Sp HDN.out
  have hok3 : ok3 (Sp, seg, row) := by have := HDN.out; have := HN.out; have := HSR.out; unfold ok3; simp only; omega
  have hFs : ∃ q, s'.F (Sp, seg, row) = some q ∧ q.l = onB p G P Sp := HFW.out Sp HDN.out
  obtain ⟨⟨qa, qn, qc, ql⟩, hq0, hql⟩ := hFs
  obtain ⟨hqp, hqn, hqf, hqo⟩ := HR8.out.parts (Sp, seg, row) _ hok3 hq0
  rw [HE.out.2.2.2.1] at hqn
  simp only at hqn hql hqf hqo
  obtain ⟨qb0, qo, hqa, _⟩ := hqp.1.2.2 (by show 0 < qn; omega)
  simp only at hqa
  subst hqn hqa
  have HQP := Lib.hid hqp
  have HLK : Hid (∀ x : World, Below w8.heap.size w8 x → (Instr.lookup 63 (.map (some pb)) (.agg #[.int .i64 (Sp : Int), .int .i64 (seg : Int), .int .i64 (row : Int)]) false).run Try.prog x = .ok (.slice (some ⟨qb0, qo, none⟩) (256 + 64) qc) x) := Lib.hid fun x hx => by
    have h1 := (HR8.out.step hx).pages
    have h2 := h1.lookup keyF3 Try.underlying63 (zeroB x) (x := (Sp, seg, row)) hok3
    have h3 : (s'.pageV (Sp, seg, row)).getD (.slice none 0 0) = .slice (some ⟨qb0, qo, none⟩) (256 + 64) qc := by
      unfold RS.pageV
      rw [hq0]
      rfl
    rw [h3, HE.out.2.2.2.2.2.1] at h2
    exact h2
  have HOK3 := Lib.hid hok3
  have HQL := Lib.hid (And.intro hql hpg0)
  clear hok3 hq0 hqp hqf hqo hql hpg0
  have HBX8 : Hid (∀ x : World, Below w8.heap.size w8 x → Below B w4 x) := Lib.hid fun x hx => HB7.out.trans ((HB78.out.mono HS7.out).trans (hx.mono (Nat.le_trans HS7.out HB78.out.size)))
  have HSS : Hid (∀ x : World, Below w8.heap.size w8 x → (x.cell? ⟨rb, 4, none⟩ = some (.map (some pb)) ∧ x.cell? ⟨cb, 7, none⟩ = some (.slice ba bn bc))) := Lib.hid fun x hx => by
    have h4 := (HR8.out.step hx).c.2.2.2.2.1
    rw [HE.out.2.2.2.2.1, HE.out.2.2.2.2.2.1] at h4
    exact ⟨h4, (HXB.out x (HBX8.out x hx)).2.2.2.2.2.2.2⟩
  have HQ1 := HQL.out.1.symm.trans HQL.out.1
  have HWI : Hid (∀ x : World, Below w8.heap.size w8 x → Calls Try.prog 20 #[.slice (some ⟨qb0, qo, none⟩) (256 + 64) qc, .int .i64 0, .slice ba bn bc] x (RetOwn x (ql.take 0 ++ BL ++ ql.drop (0 + bn)))) := Lib.hid fun x hx => by
    have := withN_any qb0 qo (256 + 64) qc ql 0 ba bn bc BL x ((HQP.out.step hx).1) HQP.out.2.1 (by have := HQP.out.2.2.1; unfold maxLen at this; exact this) (by have := HBN.out; omega) (by omega) (row_keep HC.out.bytes (HWX.out x (HBX8.out x hx)) (Nat.le_refl _)) HC.out.bnil
    exact this
  obtain ⟨xl, hxl⟩ : ∃ xl, xl = ql.take 0 ++ BL ++ ql.drop (0 + bn) := ⟨_, rfl⟩
  rw [← hxl] at HWI
  have HXL : Hid (xl.length = 320) := Lib.hid (by
    rw [hxl, List.length_append, List.length_append, List.length_take, List.length_drop, HC.out.bytes.1, HQP.out.1.1]
    have := HBN.out
    show min 0 (256 + 64) + bn + (256 + 64 - (0 + bn)) = 320
    omega)
  have HB0' : Hid (Below w8.heap.size w8 w8.drew) := Lib.hid (Below.refl _ _).drew
  have hS0 := HSS.out w8.drew HB0'.out
  have hK0 := HLK.out w8.drew HB0'.out
  clear hxl HQ1
  go_upto_region 13 with fail
  go_region_held3 (fun x => x.cell? ⟨rb, 4, none⟩ = some (.map (some pb)) ∧ x.cell? ⟨cb, 7, none⟩ = some (.slice ba bn bc) ∧ (Instr.lookup 63 (.map (some pb)) (.agg #[.int .i64 (Sp : Int), .int .i64 (seg : Int), .int .i64 (row : Int)]) false).run Try.prog x = .ok (.slice (some ⟨qb0, qo, none⟩) (256 + 64) qc) x)
    (first | with_reducible exact ⟨hS0.1, hS0.2, hK0⟩ | with_reducible exact ⟨hS1.1, hS1.2, hK1⟩ | go_keep)
    ((go_simp; go_at_call 20; ((with_reducible refine (HWI.out _ HB0'.out).mono ?_)); (intro e wW hr; obtain ⟨X, rfl, hXl, hXn, hXk, hb8, hXf⟩ := part_ret' hr; have HBW := Lib.hid (bel_trans HB0'.out hb8); have HX := Lib.hid (And.intro hXl (And.intro hXn (And.intro hXk (far_mono HB0'.out.size hXf)))); have hS1 := HSS.out wW HBW.out; have hK1 := HLK.out wW HBW.out; clear hr hXl hXn hXk hb8 hXf)))
  all_goals
    clear hS0 hS1 hK0 hK1
    obtain ⟨xa, xn, xc, xll⟩ := X
    have hxx : xll = xl ∧ xn = 320 := ⟨HX.out.1, by have := HX.out.2.1; rw [HXL.out] at this; exact this⟩
    obtain ⟨rfl, rfl⟩ := hxx
    obtain ⟨xb, xo, hxa, _⟩ := HX.out.2.2.1.1.2.2 (by show 0 < 320; omega)
    simp only at hxa
    subst hxa
    dsimp only
    have HXP := Lib.hid HX.out.2.2
    have hx1 : 320 ≤ xc := HXP.out.1.2.1
    have hx2 : ¬ xc = 256 := by omega
    have hx3 : xc ≤ 9223372036854775807 := by have := HXP.out.1.2.2.1; unfold maxLen at this; omega
    have hx4 : (256 : Int) ≤ (xc : Int) := by omega
    obtain ⟨H, hH⟩ : ∃ H, H = openH (xll.take 256) (xll.drop 256) := ⟨_, rfl⟩
    obtain ⟨bb, hbb⟩ : ∃ b, b = decide (OpenOk (xll.take 256) (xll.drop 256)) := ⟨_, rfl⟩
    have HOP : Hid (∀ x : World, Below wW.heap.size wW x → Calls Try.prog 32 #[.slice (some ⟨xb, xo, none⟩) 256 xc, .slice (some ⟨xb, xo + 256, none⟩) 64 (xc - 256)] x fun e w' => e = .returned (.tuple #[.agg #[.int .i64 (H.ki : Int), .int .i64 (H.ep : Int), .int .i64 (H.ba : Int), .int .i64 (H.ix : Int), .int .i64 (H.ct : Int), .int .i64 (H.bl : Int), .int .i64 (H.mo : Int)], .bool bb]) ∧ Below x.heap.size x w') := Lib.hid fun x hx => by
      have hrow : Row x (some ⟨xb, xo, none⟩) 320 xll := row_keep HXP.out.1.1 hx (Nat.le_refl _)
      have := refOpen_any (some ⟨xb, xo, none⟩) 256 xc (xll.take 256) (some ⟨xb, xo + 256, none⟩) 64 (xc - 256) (xll.drop 256) x (row_front hrow 256 (by omega)) (by omega) (fun h => by cases h) (row_suffix hrow 256 (by omega)) (by omega) (Nat.le_trans (Nat.sub_le _ _) HXP.out.1.2.2.1)
      rw [← hH, ← hbb] at this
      exact this
    have HHB := Lib.hid hbb
    clear hH hbb
    have HC0 : Hid (Below wW.heap.size wW wW.drew) := Lib.hid (Below.refl _ _).drew
    have hS0 := (HSS.out wW.drew (bel_trans HBW.out HC0.out)).1
    have HNE : Hid (rb ≠ wW.heap.size) := Lib.hid (by
      have h1 := HR8.out.rlt
      rw [HE.out.2.2.2.2.1] at h1
      have h3 := HBW.out.size
      omega)
    go_upto_region 14 with fail
    go_region_held3 (fun x => x.cell? ⟨rb, 4, none⟩ = some (.map (some pb)))
      (first | with_reducible exact hS0 | with_reducible exact hS1 | with_reducible exact far7 hS1 HNE.out | with_reducible exact (HSS.out _ (bel_trans HBW.out ((bel_alloc (Below.refl _ wW) _).drew))).1 | with_reducible exact (HSS.out _ (bel_trans HBW.out (bel_alloc HC9.out _))).1 | go_keep)
      (first
        | (go_simp; go_at_call 32; ((with_reducible refine (HOP.out _ HC0.out).mono ?_)); (intro e w9 hr; obtain ⟨rfl, hb9⟩ := hr; have HC9 := Lib.hid (bel_trans HC0.out hb9); have hS1 := (HSS.out w9 (bel_trans HBW.out HC9.out)).1; clear hb9))
        | (go_simp; go_at_call 32; ((with_reducible refine (HOP.out _ ((bel_alloc (Below.refl _ wW) _).drew)).mono ?_)); (intro e w9 hr; obtain ⟨rfl, hb9⟩ := hr; have HC9 := Lib.hid (bel_trans ((bel_alloc (Below.refl _ wW) (.cells #[.int .i64 0, .int .i64 0, .int .i64 0, .int .i64 0, .int .i64 0, .int .i64 0, .int .i64 0] 72)).drew) hb9); have HXA := Lib.hid ((hb9.block wW.heap.size (by simp)).trans (heap_alloc_new wW (.cells #[.int .i64 0, .int .i64 0, .int .i64 0, .int .i64 0, .int .i64 0, .int .i64 0, .int .i64 0] 72))); obtain ⟨x0, x1, x2, x3, x4, x5, x6⟩ := seven_at HXA.out; have xf := free_at HXA.out; have hS1 := (HSS.out w9 (bel_trans HBW.out HC9.out)).1; clear hb9)))
    all_goals
      first
        | (have HZ : Hid (Below wW.heap.size wW (w9.alloc (.cells #[.int .i64 (H.ki : Int), .int .i64 (H.ep : Int), .int .i64 (H.ba : Int), .int .i64 (H.ix : Int), .int .i64 (H.ct : Int), .int .i64 (H.bl : Int), .int .i64 (H.mo : Int)] 72))) := Lib.hid (bel_alloc HC9.out _)
           obtain ⟨wz, hwz⟩ : ∃ x, x = w9.alloc (.cells #[.int .i64 (H.ki : Int), .int .i64 (H.ep : Int), .int .i64 (H.ba : Int), .int .i64 (H.ix : Int), .int .i64 (H.ct : Int), .int .i64 (H.bl : Int), .int .i64 (H.mo : Int)] 72) := ⟨_, rfl⟩
           rw [← hwz] at HZ ⊢
           clear hwz)
        | (have HZ : Hid (Below wW.heap.size wW (((((((w9.setCell ⟨wW.heap.size, 0, none⟩ (.int .i64 (H.ki : Int))).setCell ⟨wW.heap.size, 1, none⟩ (.int .i64 (H.ep : Int))).setCell ⟨wW.heap.size, 2, none⟩ (.int .i64 (H.ba : Int))).setCell ⟨wW.heap.size, 3, none⟩ (.int .i64 (H.ix : Int))).setCell ⟨wW.heap.size, 4, none⟩ (.int .i64 (H.ct : Int))).setCell ⟨wW.heap.size, 5, none⟩ (.int .i64 (H.bl : Int))).setCell ⟨wW.heap.size, 6, none⟩ (.int .i64 (H.mo : Int)))) := Lib.hid (bel_seven HC9.out wW.heap.size (Nat.le_refl _) _ _ _ _ _ _ _)
           clear x0 x1 x2 x3 x4 x5 x6 xf
           obtain ⟨wz, hwz⟩ : ∃ x, x = (((((((w9.setCell ⟨wW.heap.size, 0, none⟩ (.int .i64 (H.ki : Int))).setCell ⟨wW.heap.size, 1, none⟩ (.int .i64 (H.ep : Int))).setCell ⟨wW.heap.size, 2, none⟩ (.int .i64 (H.ba : Int))).setCell ⟨wW.heap.size, 3, none⟩ (.int .i64 (H.ix : Int))).setCell ⟨wW.heap.size, 4, none⟩ (.int .i64 (H.ct : Int))).setCell ⟨wW.heap.size, 5, none⟩ (.int .i64 (H.bl : Int))).setCell ⟨wW.heap.size, 6, none⟩ (.int .i64 (H.mo : Int))) := ⟨_, rfl⟩
           rw [← hwz] at HZ ⊢
           clear hwz)
      have HZW : Hid (Below w8.heap.size w8 wz) := Lib.hid (bel_trans HBW.out HZ.out)
      clear hS0 hS1
      cases bb with
      | true =>
        go_wp2
        go_ret
        exact ⟨rfl, HWX.out _ (HBX8.out _ HZW.out)⟩
      | false =>
        have hbad : ¬ OpenOk (xll.take 256) (xll.drop 256) := by
          have h1 := HHB.out
          simpa using h1.symm
        have HRz := Lib.hid (HR8.out.step HZW.out)
        have hup0 := HRz.out.pages.update keyF3 Try.underlying63 (x := (Sp, seg, row)) HOK3.out (.slice (some ⟨xb, xo, none⟩) 320 xc)
        rw [show kv3 (Sp, seg, row) = .agg #[.int .i64 (Sp : Int), .int .i64 (seg : Int), .int .i64 (row : Int)] from rfl, HE.out.2.2.2.2.2.1] at hup0
        obtain ⟨w10, hup, hm10, hgr10, hsz10⟩ := hup0
        have hpO : PartOk wz ⟨some ⟨xb, xo, none⟩, 320, xc, xll⟩ := HXP.out.1.step HZ.out
        have hff : w8.heap.size ≤ xb := HXP.out.2 _ rfl
        have hB8 : B ≤ w8.heap.size := Nat.le_trans HS7.out HB78.out.size
        obtain ⟨k1, k2⟩ := ram_put HRz.out w10 (Sp, seg, row) ⟨some ⟨xb, xo, none⟩, 320, xc, xll⟩ (by rw [HE.out.2.2.2.2.2.1]; exact hm10) (by rw [HE.out.2.2.2.2.2.1]; exact hgr10) hpO (by rw [HE.out.2.2.2.1]) (fun x hx => by cases hx; exact Nat.le_trans hB8 hff) (fun x hx => by cases hx; exact HR8.out.fresh hff)
        have HRL := Lib.hid k1
        have HPL := Lib.hid (((HP7.out.step HB78.out).step HZW.out).rstep k2)
        have HE2 : Hid ((s'.put (Sp, seg, row) ⟨some ⟨xb, xo, none⟩, 320, xc, xll⟩).n = n ∧ (s'.put (Sp, seg, row) ⟨some ⟨xb, xo, none⟩, 320, xc, xll⟩).bl = 20 ∧ (s'.put (Sp, seg, row) ⟨some ⟨xb, xo, none⟩, 320, xc, xll⟩).pg = 6 ∧ (s'.put (Sp, seg, row) ⟨some ⟨xb, xo, none⟩, 320, xc, xll⟩).sz = 256 ∧ (s'.put (Sp, seg, row) ⟨some ⟨xb, xo, none⟩, 320, xc, xll⟩).rb = rb ∧ (s'.put (Sp, seg, row) ⟨some ⟨xb, xo, none⟩, 320, xc, xll⟩).pb = pb ∧ (s'.put (Sp, seg, row) ⟨some ⟨xb, xo, none⟩, 320, xc, xll⟩).gb = gb) := Lib.hid HE.out
        have HBL : Hid (Below B w4 w10 ∧ B ≤ w10.heap.size) := Lib.hid (by
          have h1 : B ≤ wz.heap.size := Nat.le_trans hB8 HZW.out.size
          exact ⟨(HBX8.out _ HZW.out).trans (k2.below HRz.out h1), Nat.le_trans h1 k2.size⟩)
        have HBAD := Lib.hid hbad
        have c4 := (HSS.out wz HZW.out).1
        clear hbad hm10 hgr10 hsz10 hpO hff hB8 k1 k2
        go_upto_region 18 with fail
        obtain ⟨wL, hwL⟩ : ∃ x, x = w10 := ⟨_, rfl⟩
        rw [← hwL] at HRL HPL HBL ⊢
        clear hwL hup c4 tD tS
        have HRD : Hid (∀ (x : World) (i : Nat), Below wL.heap.size wL x → i < k → Calls Try.prog 34 #[.iface 56 (.pointer (some ⟨rb, 0, none⟩)), .agg #[.int .i64 (seg : Int), .int .i64 (row : Int), .int .i64 (i : Int)]] x (ReadPRet (L.getD i SP.nil).h (L.getD i SP.nil).d.l x)) := Lib.hid fun x i hx hi => by
          have := stripe_read (HRL.out.step hx) (by rw [HE2.out.2.2.2.1]; omega) seg row i p Sp (by rw [HE2.out.2.1]; have := HSR.out.1; omega) (by rw [HE2.out.2.2.1]; exact HSR.out.2) (by rw [HE2.out.1]; have := HN.out; omega)
            (by rw [HE2.out.1, HE2.out.2.2.1]; exact HPP.out.1) (by rw [HE2.out.1]; exact HPP.out.2) (by rw [HE2.out.1, HE2.out.2.2.2.1]; exact HST.out) (by rw [HE2.out.2.2.2.1]; exact HLO.out.1) (by rw [HE2.out.1, HLO.out.2]; exact HN.out.2)
            (fun m hm hne => ⟨HGO.out m, (page_put_other (by intro e; simp only [Prod.mk.injEq] at e; exact hne e.1)).trans (HPGE.out m (by rw [HE2.out.1] at hm; exact hm))⟩) (Or.inr (Or.inl ⟨HGO.out Sp, by rw [page_put_same, HE2.out.2.2.2.1]; exact HBAD.out⟩))
          rw [HE2.out.2.2.2.2.1] at this
          exact this
        obtain ⟨lb, lo, hae, _⟩ := spage_at HPL.out.pg.1 HPL.out.len.1
        subst hae
        have BW0 := Below.refl wL.heap.size wL
        go_upto_region 19 with fail
        go_loopw [13] (fun iv wr => ∃ i : Nat, i ≤ k ∧ iv = .int .i64 (i : Int) ∧ Below wL.heap.size wL wr) (fun iv _ => (k - intOf iv).toNat)
        case atStart => exact ⟨0, Nat.zero_le _, rfl, BW0⟩
        case round =>
          obtain ⟨i, hi, rfl, hbw⟩ := hrel
          have HBW := Lib.hid hbw
          clear hbw BW0
          by_cases hlt : i < k
          · have q1 : decide (i < k) = true := by simpa using hlt
            have q1' : decide ((i : Int) < (k : Int)) = true := by simpa using hlt
            have HIK := Lib.hid hlt
            obtain ⟨q0, hq0⟩ : ∃ q, q = L.getD i SP.nil := ⟨_, rfl⟩
            have HQ0 := Lib.hid hq0
            have HRI := Lib.hid (HRD.out wr i HBW.out hlt)
            rw [← hq0] at HRI
            clear hq0
            go_wp2_with fail
            ((with_reducible refine HRI.out.mono ?_))
            rintro e w8 ⟨E, rfl, x1, x2, x3, hb8⟩
            have l9 := heap_alloc_new w8 (.cells #[.int .u8 (q0.h.ki : Int), .int .u32 (q0.h.ep : Int), .int .u32 (q0.h.ba : Int), .int .u16 (q0.h.ix : Int), .int .u16 (q0.h.ct : Int), .int .u32 (q0.h.bl : Int), .int .u32 (q0.h.mo : Int), .slice E.a E.n E.c] 77)
            have hb9 := bel_trans hb8 (bel_alloc (Below.refl _ w8) (.cells #[.int .u8 (q0.h.ki : Int), .int .u32 (q0.h.ep : Int), .int .u32 (q0.h.ba : Int), .int .u16 (q0.h.ix : Int), .int .u16 (q0.h.ct : Int), .int .u32 (q0.h.bl : Int), .int .u32 (q0.h.mo : Int), .slice E.a E.n E.c] 77))
            have hE9 := x2.step (bel_alloc (Below.refl _ w8) (.cells #[.int .u8 (q0.h.ki : Int), .int .u32 (q0.h.ep : Int), .int .u32 (q0.h.ba : Int), .int .u16 (q0.h.ix : Int), .int .u16 (q0.h.ct : Int), .int .u32 (q0.h.bl : Int), .int .u32 (q0.h.mo : Int), .slice E.a E.n E.c] 77))
            go_upto_region 22 with fail
            obtain ⟨w9, hw9⟩ : ∃ x, x = w8.alloc (.cells #[.int .u8 (q0.h.ki : Int), .int .u32 (q0.h.ep : Int), .int .u32 (q0.h.ba : Int), .int .u16 (q0.h.ix : Int), .int .u16 (q0.h.ct : Int), .int .u32 (q0.h.bl : Int), .int .u32 (q0.h.mo : Int), .slice E.a E.n E.c] 77) := ⟨_, rfl⟩
            obtain ⟨eb, heb⟩ : ∃ x, x = w8.heap.size := ⟨_, rfl⟩
            rw [← hw9, ← heb] at l9
            rw [← hw9] at hb9 hE9
            rw [← hw9, ← heb]
            have HP9 := Lib.hid (HPL.out.step (bel_trans HBW.out hb9))
            have HB9 := Lib.hid (bel_trans HBW.out hb9)
            have HE9 := Lib.hid (And.intro x1 hE9)
            have HCC : Hid (∀ x : World, Below w9.heap.size w9 x → (x.cell? ⟨eb, 0, none⟩ = some (.int .u8 (q0.h.ki : Int)) ∧ x.cell? ⟨eb, 1, none⟩ = some (.int .u32 (q0.h.ep : Int)) ∧ x.cell? ⟨eb, 2, none⟩ = some (.int .u32 (q0.h.ba : Int)) ∧ x.cell? ⟨eb, 3, none⟩ = some (.int .u16 (q0.h.ix : Int)) ∧ x.cell? ⟨eb, 4, none⟩ = some (.int .u16 (q0.h.ct : Int)) ∧ x.cell? ⟨eb, 5, none⟩ = some (.int .u32 (q0.h.bl : Int)) ∧ x.cell? ⟨eb, 6, none⟩ = some (.int .u32 (q0.h.mo : Int)) ∧ x.cell? ⟨eb, 7, none⟩ = some (.slice E.a E.n E.c) ∧ x.cell? ⟨lb, lo + i * 8, none⟩ = some (.int .u8 (q0.h.ki : Int)) ∧ x.cell? ⟨lb, lo + i * 8 + 1, none⟩ = some (.int .u32 (q0.h.ep : Int)) ∧ x.cell? ⟨lb, lo + i * 8 + 2, none⟩ = some (.int .u32 (q0.h.ba : Int)) ∧ x.cell? ⟨lb, lo + i * 8 + 3, none⟩ = some (.int .u16 (q0.h.ix : Int)) ∧ x.cell? ⟨lb, lo + i * 8 + 4, none⟩ = some (.int .u16 (q0.h.ct : Int)) ∧ x.cell? ⟨lb, lo + i * 8 + 5, none⟩ = some (.int .u32 (q0.h.bl : Int)) ∧ x.cell? ⟨lb, lo + i * 8 + 6, none⟩ = some (.int .u32 (q0.h.mo : Int)) ∧ x.cell? ⟨lb, lo + i * 8 + 7, none⟩ = some (.slice q0.d.a q0.d.n q0.d.c))) := Lib.hid fun x hx => by
              obtain ⟨a0, a1, a2, a3, a4, a5, a6, a7⟩ := eight_at ((hx.block _ (Array.getElem?_eq_some_iff.1 l9).1).trans l9)
              obtain ⟨lb', lo', hae, hpa⟩ := spage_at (HP9.out.step hx).pg.1 (show i < L.length by rw [HLO.out.2]; exact hlt)
              cases hae
              rw [← HQ0.out] at hpa
              obtain ⟨b0, b1, b2, b3, b4, b5, b6, b7⟩ := hpa
              exact ⟨a0, a1, a2, a3, a4, a5, a6, a7, b0, b1, b2, b3, b4, b5, b6, b7⟩
            have HD9 : Hid (Below w9.heap.size w9 w9.drew) := Lib.hid (Below.refl _ _).drew
            have hS0 := HCC.out w9.drew HD9.out
            have HSM : Hid (∀ x : World, Below w9.heap.size w9 x → Calls Try.prog 35 #[.agg #[.int .u8 (q0.h.ki : Int), .int .u32 (q0.h.ep : Int), .int .u32 (q0.h.ba : Int), .int .u16 (q0.h.ix : Int), .int .u16 (q0.h.ct : Int), .int .u32 (q0.h.bl : Int), .int .u32 (q0.h.mo : Int), .slice E.a E.n E.c], .agg #[.int .u8 (q0.h.ki : Int), .int .u32 (q0.h.ep : Int), .int .u32 (q0.h.ba : Int), .int .u16 (q0.h.ix : Int), .int .u16 (q0.h.ct : Int), .int .u32 (q0.h.bl : Int), .int .u32 (q0.h.mo : Int), .slice q0.d.a q0.d.n q0.d.c]] x fun e w' => e = .returned (.bool true) ∧ Below x.heap.size x w') := Lib.hid fun x hx => by
              refine stSame_yes q0.h E q0.d x (HE9.out.2.step hx) ?_ HE9.out.1
              rw [HQ0.out]
              exact ((HP9.out.step hx).pg.2 _ (sp_mem L i (by rw [HLO.out.2]; exact hlt))).1
            have i0 : (0 : Int) ≤ (i : Int) := by omega
            have i1 : (i : Int) < (k : Int) := by omega
            clear x1 x2 x3 hb8 l9 hb9 hE9 hw9 heb
            go_region_held3 (fun x => x.cell? ⟨eb, 0, none⟩ = some (.int .u8 (q0.h.ki : Int)) ∧ x.cell? ⟨eb, 1, none⟩ = some (.int .u32 (q0.h.ep : Int)) ∧ x.cell? ⟨eb, 2, none⟩ = some (.int .u32 (q0.h.ba : Int)) ∧ x.cell? ⟨eb, 3, none⟩ = some (.int .u16 (q0.h.ix : Int)) ∧ x.cell? ⟨eb, 4, none⟩ = some (.int .u16 (q0.h.ct : Int)) ∧ x.cell? ⟨eb, 5, none⟩ = some (.int .u32 (q0.h.bl : Int)) ∧ x.cell? ⟨eb, 6, none⟩ = some (.int .u32 (q0.h.mo : Int)) ∧ x.cell? ⟨eb, 7, none⟩ = some (.slice E.a E.n E.c) ∧ x.cell? ⟨lb, lo + i * 8, none⟩ = some (.int .u8 (q0.h.ki : Int)) ∧ x.cell? ⟨lb, lo + i * 8 + 1, none⟩ = some (.int .u32 (q0.h.ep : Int)) ∧ x.cell? ⟨lb, lo + i * 8 + 2, none⟩ = some (.int .u32 (q0.h.ba : Int)) ∧ x.cell? ⟨lb, lo + i * 8 + 3, none⟩ = some (.int .u16 (q0.h.ix : Int)) ∧ x.cell? ⟨lb, lo + i * 8 + 4, none⟩ = some (.int .u16 (q0.h.ct : Int)) ∧ x.cell? ⟨lb, lo + i * 8 + 5, none⟩ = some (.int .u32 (q0.h.bl : Int)) ∧ x.cell? ⟨lb, lo + i * 8 + 6, none⟩ = some (.int .u32 (q0.h.mo : Int)) ∧ x.cell? ⟨lb, lo + i * 8 + 7, none⟩ = some (.slice q0.d.a q0.d.n q0.d.c))
              (first | with_reducible exact hS0 | with_reducible exact hS1 | go_keep)
              (first
                | (go_simp; go_at_call 35; ((with_reducible refine (HSM.out _ HD9.out).mono ?_)); (intro e wb hr; obtain ⟨rfl, hbb⟩ := hr; have HBb := Lib.hid (bel_trans HD9.out hbb); have hS1 := HCC.out wb HBb.out; clear hbb)))
            all_goals
              clear hS0 hS1
              have hk7 : k ≤ 6 := by have := HN.out; omega
              go_wp2
              go_roundw
              case rel => exact ⟨i + 1, by have := HIK.out; omega, by go_num, bel_trans HB9.out HBb.out⟩
              case measure => have := HIK.out; simp [intOf]; omega
          · obtain rfl : i = k := by omega
            have q1 : decide (i < i) = false := by simp
            have q1' : decide ((i : Int) < (i : Int)) = false := by simp
            clear hlt hi
            go_wp2
            go_ret
            exact ⟨rfl, HWX.out _ (HBL.out.1.trans (HBW.out.mono HBL.out.2))⟩
theorem stripeReads_all (c sg rw : Int) (ha : Option Addr) (hn hc : Nat) (fa : Option Addr) (fn fc : Nat) (dd sp : Int) (ba : Option Addr) (bn bc : Nat) (HL : List RH) (FL BL : List Nat) (w : World) (h : CaseOk w ha hn fa fn ba bn bc HL FL BL ∧ bn ≤ maxLen) :
    Calls Try.prog 5 #[.agg #[.int .i64 c, .int .i64 sg, .int .i64 rw, .slice ha hn hc, .slice fa fn fc, .int .i64 dd, .int .i64 sp, .slice ba bn bc]] w fun e w' => e = .returned (.bool true) ∧ Below w.heap.size w w' := by
  have h0 : 0 < chipsOf c := by have := chips_eq c; omega
  by_cases h10 : hn ≤ 10
  · by_cases hb : bn ≤ 320
    · rcases memC_or (chipsOf c) dd h0 with hd | ⟨D, hD, hd⟩
      · rcases memC_or (chipsOf c) sp h0 with hs | ⟨Sp, hS, hs⟩
        · exact stripeReads_N c sg rw ha hn hc fa fn fc dd sp ba bn bc HL FL BL w h.1 h10 hb hd hs
        · exact stripeReads_S c sg rw ha hn hc fa fn fc dd sp ba bn bc HL FL BL w h.1 h10 hb Sp hS hd hs
      · exact stripeReads_D c sg rw ha hn hc fa fn fc dd sp ba bn bc HL FL BL w h.1 h10 hb D hD hd
    · exact stripeReads_bigb c sg rw ha hn hc fa fn fc dd sp ba bn bc w h10 (Nat.lt_of_not_le hb)
  · exact stripeReads_bigh c sg rw ha hn hc fa fn fc dd sp ba bn bc w (Nat.lt_of_not_le h10)

end Go.Proofs.Ytpmlbfpneenacaa
