/- StripeWrites: the walk, a member dead. -/
import Derived.Test.YtjljikhdhhmfcaaStFirst
import Derived.Test.YtjljikhdhhmfcaaWd
namespace Go.Proofs.Ytjljikhdhhmfcaa
open Go.RowKit Go.Deep

set_option maxRecDepth 100000 in
set_option maxHeartbeats 8000000 in
theorem stripeWrites_mainD (c sg rw : Int) (ha : Option Addr) (hn hc : Nat) (fa : Option Addr) (fn fc : Nat) (dd sp : Int) (ba : Option Addr) (bn bc : Nat) (HL : List RH) (FL BL : List Nat) (w : World) (hok : CaseOk w ha hn fa fn ba bn bc HL FL BL) (h10 : hn ≤ 10) (D : Nat) (hdv : memC (chipsOf c) dd = (D : Int)) (hDn : D < chipsOf c) :
    Calls Try.prog 4 #[.agg #[.int .i64 c, .int .i64 sg, .int .i64 rw, .slice ha hn hc, .slice fa fn fc, .int .i64 dd, .int .i64 sp, .slice ba bn bc]] w fun e w' => e = .returned (.bool true) ∧ Below w.heap.size w w' := by
  obtain ⟨zv, hsv'⟩ : ∃ v, v = memC (chipsOf c) sp := ⟨_, rfl⟩
  have hZV := memC_or (chipsOf c) sp (by have := chips_eq c; omega)
  rw [← hsv'] at hZV
  have hsv := hsv'.symm
  clear hsv'
  have HC := Lib.hid hok
  have t1 : decide ((10 : Int) < (hn : Int)) = false := by simp; omega
  have t1' : decide (10 < hn) = false := by simp; omega
  have HKE := Lib.hid kept_any
  have HSH := Lib.hid fun x : World => caseShape_any c sg rw ha hn hc fa fn fc dd sp ba bn bc x
  have HPC := Lib.hid fun x : World => casePlace_any c sg rw ha hn hc fa fn fc dd sp ba bn bc x
  have HPG := Lib.hid fun (x : World) (hx : Below w.heap.size w x) => casePages_any c sg rw ha hn hc fa fn fc dd sp ba bn bc HL FL x (HC.out.heads.keep hx (Nat.le_refl _)) HC.out.hlen HC.out.hmax HC.out.fit (row_keep HC.out.first hx (Nat.le_refl _)) HC.out.fmax
  have HMD := Lib.hid fun x : World => caseMember_any c sg rw ha hn hc fa fn fc dd sp ba bn bc dd x
  have HMS := Lib.hid fun x : World => caseMember_any c sg rw ha hn hc fa fn fc dd sp ba bn bc sp x
  rw [hdv] at HMD
  rw [hsv] at HMS
  obtain ⟨n, hnc⟩ : ∃ n, n = chipsOf c := ⟨_, rfl⟩
  have hn3 : 3 ≤ n ∧ n ≤ 7 := by rw [hnc]; exact (chips_eq c).2
  rw [← hnc] at HSH hZV hDn
  obtain ⟨k, hk⟩ : ∃ k, k + 1 = n := ⟨n - 1, by omega⟩
  have hkc : chipsOf c - 1 = k := by omega
  obtain ⟨seg, hseg⟩ : ∃ s, s = modN 15 sg := ⟨_, rfl⟩
  obtain ⟨row, hrow⟩ : ∃ s, s = modN 6 rw := ⟨_, rfl⟩
  have hseg2 : seg < 15 := by rw [hseg]; exact (modN_eq 15 sg (by omega) (by omega)).2
  have hrow2 : row < 6 := by rw [hrow]; exact (modN_eq 6 rw (by omega) (by omega)).2
  rw [← hseg, ← hrow] at HPC
  obtain ⟨p, hp, hpn⟩ := par_nat n seg row (by omega)
  have hgood : GoodG (n : Nat) (20 : Nat) (6 : Nat) (256 : Nat) := by unfold GoodG; omega
  have HNW := Lib.hid fun x : World => ramNew_any n 20 6 256 x hgood
  rw [show ((20 : Nat) : Int) = 20 from rfl, show ((6 : Nat) : Int) = 6 from rfl, show ((256 : Nat) : Int) = 256 from rfl] at HNW
  have HN := Lib.hid (And.intro hn3 hk)
  have HSR := Lib.hid (And.intro hseg2 hrow2)
  have HPP := Lib.hid (And.intro hp hpn)
  have HKC := Lib.hid hkc
  have HZV := Lib.hid hZV
  clear hZV
  have HDN := Lib.hid hDn
  clear hDn
  clear hn3 hk hseg hrow hseg2 hrow2 hp hpn hkc hnc hgood hok h10 hdv hsv
  go_enter Try.func4, Try.ntmps4
  have l0 := heap_alloc_new w (.cells #[.int .i64 c, .int .i64 sg, .int .i64 rw, .slice ha hn hc, .slice fa fn fc, .int .i64 dd, .int .i64 sp, .slice ba bn bc] 52)
  have hb0 := bel_alloc (Below.refl _ w) (.cells #[.int .i64 c, .int .i64 sg, .int .i64 rw, .slice ha hn hc, .slice fa fn fc, .int .i64 dd, .int .i64 sp, .slice ba bn bc] 52)
  go_upto_region 1 with fail
  obtain ⟨w0, hw0⟩ : ∃ x, x = w.alloc (.cells #[.int .i64 c, .int .i64 sg, .int .i64 rw, .slice ha hn hc, .slice fa fn fc, .int .i64 dd, .int .i64 sp, .slice ba bn bc] 52) := ⟨_, rfl⟩
  obtain ⟨cb, hcb⟩ : ∃ x, x = w.heap.size := ⟨_, rfl⟩
  rw [← hw0, ← hcb] at l0
  rw [← hw0] at hb0
  rw [← hw0, ← hcb]
  have HX0 : Hid (∀ x : World, Below w0.heap.size w0 x → x.cell? ⟨cb, 0, none⟩ = some (.int .i64 c) ∧ x.cell? ⟨cb, 1, none⟩ = some (.int .i64 sg) ∧ x.cell? ⟨cb, 2, none⟩ = some (.int .i64 rw) ∧ x.cell? ⟨cb, 3, none⟩ = some (.slice ha hn hc) ∧ x.cell? ⟨cb, 4, none⟩ = some (.slice fa fn fc) ∧ x.cell? ⟨cb, 5, none⟩ = some (.int .i64 dd) ∧ x.cell? ⟨cb, 6, none⟩ = some (.int .i64 sp) ∧ x.cell? ⟨cb, 7, none⟩ = some (.slice ba bn bc)) := Lib.hid fun x hx => eight_at ((hx.block _ (Array.getElem?_eq_some_iff.1 l0).1).trans l0)
  have HCB : Hid (w.heap.size ≤ cb ∧ cb < w0.heap.size) := Lib.hid ⟨Nat.le_of_eq hcb.symm, (Array.getElem?_eq_some_iff.1 l0).1⟩
  have HB0 := Lib.hid hb0
  clear hw0 hcb hb0 l0
  go_wp2_with fail
  ((with_reducible refine (HKE.out _).mono ?_))
  rintro e w1 ⟨rfl, hb1⟩
  have HB1 := Lib.hid hb1
  clear hb1
  obtain ⟨z0, z1, z2, z3, z4, z5, z6, z7⟩ := HX0.out w1 HB1.out
  go_wp2_with fail
  ((with_reducible refine (HSH.out _).mono ?_))
  rintro e w2 ⟨rfl, hb2⟩
  have l3 := heap_alloc_new w2 (.cells #[.int .i64 (n : Int), .int .i64 20, .int .i64 6, .int .i64 256] 54)
  have hb3 := bel_trans HB1.out (bel_trans hb2 (bel_alloc (Below.refl _ w2) (.cells #[.int .i64 (n : Int), .int .i64 20, .int .i64 6, .int .i64 256] 54)))
  clear z0 z1 z2 z3 z4 z5 z6 z7
  go_upto_region 4 with fail
  obtain ⟨w3, hw3⟩ : ∃ x, x = w2.alloc (.cells #[.int .i64 (n : Int), .int .i64 20, .int .i64 6, .int .i64 256] 54) := ⟨_, rfl⟩
  obtain ⟨qb, hqb⟩ : ∃ x, x = w2.heap.size := ⟨_, rfl⟩
  rw [← hw3, ← hqb] at l3
  rw [← hw3] at hb3
  rw [← hw3, ← hqb]
  have HL3 := Lib.hid l3
  have HB3 := Lib.hid hb3
  obtain ⟨g0, g1, g2, g3⟩ := four_at l3
  clear hw3 hqb l3 hb2 hb3
  go_wp2_with fail
  ((with_reducible refine (HNW.out _).mono ?_))
  rintro e w4 ⟨rb, pb, gb, rfl, hr4, hb4⟩
  obtain ⟨B, hB⟩ : ∃ B, B = w3.heap.size := ⟨_, rfl⟩
  rw [← hB] at hr4
  have HR4 := Lib.hid hr4
  have HBB : Hid (w0.heap.size ≤ B ∧ B ≤ w4.heap.size) := Lib.hid ⟨by rw [hB]; exact HB3.out.size, by rw [hB]; exact hb4.size⟩
  have HWB : Hid (w.heap.size ≤ B) := Lib.hid (Nat.le_trans HB0.out.size HBB.out.1)
  have HB04 := Lib.hid (bel_trans HB3.out hb4)
  have HB4 := Lib.hid (bel_trans HB0.out HB04.out)
  have HXB : Hid (∀ x : World, Below B w4 x → x.cell? ⟨cb, 0, none⟩ = some (.int .i64 c) ∧ x.cell? ⟨cb, 1, none⟩ = some (.int .i64 sg) ∧ x.cell? ⟨cb, 2, none⟩ = some (.int .i64 rw) ∧ x.cell? ⟨cb, 3, none⟩ = some (.slice ha hn hc) ∧ x.cell? ⟨cb, 4, none⟩ = some (.slice fa fn fc) ∧ x.cell? ⟨cb, 5, none⟩ = some (.int .i64 dd) ∧ x.cell? ⟨cb, 6, none⟩ = some (.int .i64 sp) ∧ x.cell? ⟨cb, 7, none⟩ = some (.slice ba bn bc)) := Lib.hid fun x hx => HX0.out x (HB04.out.trans (hx.mono HBB.out.1))
  have HGB : Hid (∀ x : World, Below B w4 x → x.cell? ⟨qb, 0, none⟩ = some (.int .i64 (n : Int)) ∧ x.cell? ⟨qb, 1, none⟩ = some (.int .i64 20) ∧ x.cell? ⟨qb, 2, none⟩ = some (.int .i64 6) ∧ x.cell? ⟨qb, 3, none⟩ = some (.int .i64 256)) := Lib.hid fun x hx => by
    have h1 := (Array.getElem?_eq_some_iff.1 HL3.out).1
    exact four_at (((hx.block _ (by rw [hB]; exact h1)).trans (hb4.block _ h1)).trans HL3.out)
  have HWX : Hid (∀ x : World, Below B w4 x → Below w.heap.size w x) := Lib.hid fun x hx => HB4.out.trans (hx.mono HWB.out)
  clear g0 g1 g2 g3 hr4 hb4 hB
  obtain ⟨z0, z1, z2, z3, z4, z5, z6, z7⟩ := HXB.out w4 (Below.refl _ _)
  go_wp2_with fail
  ((with_reducible refine (HPC.out _).mono ?_))
  rintro e w5 ⟨rfl, hb5⟩
  have HB5 : Hid (Below B w4 w5) := Lib.hid (hb5.mono HBB.out.2)
  have HR5 := Lib.hid (HR4.out.step hb5)
  have HS5 : Hid (B ≤ w5.heap.size) := Lib.hid (Nat.le_trans HBB.out.2 hb5.size)
  clear hb5 z0 z1 z2 z3 z4 z5 z6 z7
  obtain ⟨z0, z1, z2, z3, z4, z5, z6, z7⟩ := HXB.out w5 HB5.out
  go_wp2_with fail
  ((with_reducible refine (HPG.out _ (HWX.out _ HB5.out)).mono ?_))
  rintro e w6 ⟨sv, L, rfl, hG, hb6⟩
  rw [HKC.out] at hG
  obtain ⟨a, cap, rfl, hPG, hPn, hLO, hLn⟩ := pgs_new HR5.out hG (fun j hj => pgAt_ok HL FL HC.out.fit j (by have := HN.out; omega)) (by have := HN.out; omega) (by omega)
  have HPG6 := Lib.hid (And.intro hPG hPn)
  have HLO := Lib.hid (And.intro hLO hLn)
  have HR6 := Lib.hid (HR5.out.step hb6)
  have HS6 : Hid (B ≤ w6.heap.size) := Lib.hid (Nat.le_trans HS5.out hb6.size)
  have HB6 : Hid (Below B w4 w6) := Lib.hid (HB5.out.trans (hb6.mono HS5.out))
  clear z0 z1 z2 z3 z4 z5 z6 z7 hG hPG hPn hLO hLn hb6
  go_upto_region 7 with fail
  obtain ⟨C, hCd⟩ : ∃ C : World → Prop, (∀ x, C x → Below w6.heap.size w6 x) ∧ (∀ x, Below w6.heap.size w6 x → C x) := ⟨_, fun _ h => h, fun _ h => h⟩
  have hC0 := hCd.2 _ (Below.refl w6.heap.size w6).drew
  haveI hne : Nonempty (Wd C) := ⟨⟨_, hC0⟩⟩
  have HCD := Lib.hid hCd
  clear hCd
  have f0 : ∀ y : Wd C, y.w.cell? ⟨cb, 0, none⟩ = some (.int .i64 c) := fun y => (HXB.out _ (HB6.out.trans ((HCD.out.1 _ y.ok).mono HS6.out))).1
  have f1 : ∀ y : Wd C, y.w.cell? ⟨cb, 1, none⟩ = some (.int .i64 sg) := fun y => (HXB.out _ (HB6.out.trans ((HCD.out.1 _ y.ok).mono HS6.out))).2.1
  have f2 : ∀ y : Wd C, y.w.cell? ⟨cb, 2, none⟩ = some (.int .i64 rw) := fun y => (HXB.out _ (HB6.out.trans ((HCD.out.1 _ y.ok).mono HS6.out))).2.2.1
  have f3 : ∀ y : Wd C, y.w.cell? ⟨cb, 3, none⟩ = some (.slice ha hn hc) := fun y => (HXB.out _ (HB6.out.trans ((HCD.out.1 _ y.ok).mono HS6.out))).2.2.2.1
  have f4 : ∀ y : Wd C, y.w.cell? ⟨cb, 4, none⟩ = some (.slice fa fn fc) := fun y => (HXB.out _ (HB6.out.trans ((HCD.out.1 _ y.ok).mono HS6.out))).2.2.2.2.1
  have f5 : ∀ y : Wd C, y.w.cell? ⟨cb, 5, none⟩ = some (.int .i64 dd) := fun y => (HXB.out _ (HB6.out.trans ((HCD.out.1 _ y.ok).mono HS6.out))).2.2.2.2.2.1
  have f6 : ∀ y : Wd C, y.w.cell? ⟨cb, 6, none⟩ = some (.int .i64 sp) := fun y => (HXB.out _ (HB6.out.trans ((HCD.out.1 _ y.ok).mono HS6.out))).2.2.2.2.2.2.1
  have f7 : ∀ y : Wd C, y.w.cell? ⟨cb, 7, none⟩ = some (.slice ba bn bc) := fun y => (HXB.out _ (HB6.out.trans ((HCD.out.1 _ y.ok).mono HS6.out))).2.2.2.2.2.2.2
  have HST0 : Hid (∀ (y : Wd C) (z : World), Below y.w.heap.size y.w z → C z) := Lib.hid fun y z hb => HCD.out.2 _ (bel_trans (HCD.out.1 _ y.ok) hb)
  refine wp_region_wd C (by kernel_rfl) (by kernel_rfl) hC0 ?_
  repeat (go_big_quiet_step (first
    | (go_at_call 22; with_reducible exact Calls.wd (HST0.out _) (HMD.out _))
    | (go_at_call 22; with_reducible exact Calls.wd (HST0.out _) (HMS.out _))))
  refine wpQuiet_nil ?_
  intro _ hw'
  obtain ⟨y, rfl⟩ := hw'
  obtain ⟨w8, hw8⟩ : ∃ x, x = y.w := ⟨_, rfl⟩
  have HB68 : Hid (Below w6.heap.size w6 w8) := Lib.hid (by rw [hw8]; exact HCD.out.1 _ y.ok)
  rw [← hw8]
  clear hw8 f0 f1 f2 f3 f4 f5 f6 f7 hC0 HST0 HCD
  clear hne
  have tD : decide ((0 : Int) ≤ (D : Int)) = true := by simp
  obtain ⟨wk, hk1, hk2, hk3⟩ := ram_die (HR6.out.step HB68.out) D (by have := HN.out; have := HDN.out; omega)
  change (Instr.mapUpdate 64 (.map (some gb)) (.int .i64 (D : Int)) (.int .i64 1)).run Try.prog w8 = _ at hk1
  have c5 : w8.cell? ⟨rb, 5, none⟩ = some (.map (some gb)) := (HR6.out.step HB68.out).c.2.2.2.2.2.1
  obtain ⟨sk, hske⟩ : ∃ sk, sk = (rsNew rb pb gb n 20 6 256).kill D := ⟨_, rfl⟩
  have h1k : B ≤ w8.heap.size := Nat.le_trans HS6.out HB68.out.size
  have hrk : Ram B sk wk := by rw [hske]; exact hk2
  have hbk : Below B w4 wk := HB6.out.trans ((HB68.out.mono HS6.out).trans (hk3.below (HR6.out.step HB68.out) h1k))
  have hsk : B ≤ wk.heap.size := Nat.le_trans h1k hk3.size
  have hpk : Pgs sk wk a L := by rw [hske]; exact (HPG6.out.1.step HB68.out).rstep hk3
  have hek : sk.rb = rb ∧ sk.pb = pb ∧ sk.gb = gb ∧ sk.n = n ∧ sk.bl = 20 ∧ sk.pg = 6 ∧ sk.sz = 256 ∧ sk.ol = [] ∧ sk.ord = .slice none 0 0 := by rw [hske]; exact ⟨rfl, rfl, rfl, rfl, rfl, rfl, rfl, rfl, rfl⟩
  have hgk : ∀ m : Nat, sk.gone m = if (m : Int) = (D : Int) then 1 else 0 := fun m => by
    rw [hske]
    show (if m = D then 1 else 0) = _
    by_cases e : m = D
    · rw [if_pos e, if_pos (by omega)]
    · rw [if_neg e, if_neg (by omega)]
  have hfk : ∀ j, sk.F j = none := fun j => by rw [hske]; rfl
  clear hk2 hk3 hske h1k
  have HRK := Lib.hid hrk
  have HPK := Lib.hid hpk
  have HBK := Lib.hid (And.intro hbk hsk)
  have HEK := Lib.hid hek
  have HGK := Lib.hid (And.intro hgk hfk)
  clear hrk hbk hsk hpk hek hgk hfk
  have hbx := HRK.out.box
  rw [HEK.out.1, HEK.out.2.1, HEK.out.2.2.1, HEK.out.2.2.2.2.2.2.2.2] at hbx
  obtain ⟨x0, x1, x2, x3, x4, x5, x6, x7⟩ := eight_at hbx
  have xf := free_at hbx
  clear hbx
  obtain ⟨k1, k2, k3, k4⟩ := ram_lead HRK.out zv
  rw [HEK.out.1] at k1 k2 k3 k4
  go_upto_region 11 with fail
  obtain ⟨wf, hwf⟩ : ∃ x, x = wk.setCell ⟨rb, 6, none⟩ (.int .i64 zv) := ⟨_, rfl⟩
  have HR1 : Hid (Ram B (sk.lead zv) wf) := Lib.hid (by rw [hwf]; exact k1)
  have HP1 : Hid (Pgs (sk.lead zv) wf a L) := Lib.hid (by rw [hwf]; exact HPK.out.move k3)
  have HB1 : Hid (Below B w4 wf ∧ B ≤ wf.heap.size) := Lib.hid (by rw [hwf]; exact ⟨HBK.out.1.trans k2, Nat.le_trans HBK.out.2 k4⟩)
  rw [← hwf]
  clear hwf k1 k2 k3 k4 x0 x1 x2 x3 x4 x5 x6 x7 xf
  have HE1 : Hid ((sk.lead zv).rb = rb ∧ (sk.lead zv).pb = pb ∧ (sk.lead zv).gb = gb ∧ (sk.lead zv).n = n ∧ (sk.lead zv).bl = 20 ∧ (sk.lead zv).pg = 6 ∧ (sk.lead zv).sz = 256 ∧ (sk.lead zv).ol = [] ∧ (sk.lead zv).ord = .slice none 0 0) := Lib.hid HEK.out
  have HZB : Hid (-1 ≤ zv ∧ zv < (n : Int)) := Lib.hid (by rcases HZV.out with h | ⟨F, h1, h2⟩ <;> (have := HN.out; omega))
  have HWR : Hid (∀ x : World, Below wf.heap.size wf x → Calls Try.prog 23 #[.iface 56 (.pointer (some ⟨rb, 0, none⟩)), .int .i64 (seg : Int), .int .i64 (row : Int), .slice a k cap] x (WriteRet B (sk.lead zv) p seg row L x)) := Lib.hid fun x hx => by
    have := write_any (HR1.out.step hx) (Nat.le_trans HB1.out.2 hx.size) seg row p a k cap L (by rw [HE1.out.2.2.2.2.1]; have := HSR.out.1; omega) (by rw [HE1.out.2.2.2.2.2.1]; exact HSR.out.2) (by rw [HE1.out.2.2.2.2.2.2.1]; omega) (by rw [HE1.out.2.2.2.1, HE1.out.2.2.2.2.2.1]; exact HPP.out.1) (by rw [HE1.out.2.2.2.1]; exact HPP.out.2) HLO.out.2.symm (by rw [HE1.out.2.2.2.1]; exact HN.out.2) (HP1.out.step hx).pg (by rw [HE1.out.2.2.2.2.2.2.1]; exact HPG6.out.2) (by rw [HE1.out.2.2.2.2.2.2.2.1]; exact Nat.zero_le _) (deads_dv HGK.out.1 _ _)
    rw [HE1.out.1] at this
    exact this
  obtain ⟨W9, hW9⟩ : ∃ W9 : World → Prop, W9 = fun x => ∃ s' G P, Ram B s' x ∧ Below B w4 x ∧ B ≤ x.heap.size ∧ Pgs s' x a L ∧ (s'.n = n ∧ s'.bl = 20 ∧ s'.pg = 6 ∧ s'.sz = 256 ∧ s'.rb = rb ∧ s'.pb = pb ∧ s'.ol = ordL 0 n zv) ∧ StripeB n p 256 seg row L G P ∧ (∀ m : Nat, m < n → (m : Int) ≠ (D : Int) → ∃ q, s'.F (m, seg, row) = some q ∧ q.l = onB p G P m) ∧ ∀ m : Nat, (m : Int) = (D : Int) → s'.F (m, seg, row) = none := ⟨_, rfl⟩
  have HW9 := Lib.hid hW9
  clear hW9
  have hq0 : Below B w4 wf.drew := HB1.out.1.trans ((Below.refl B wf).drew)
  have HWS : Hid (Calls Try.prog 23 #[.iface 56 (.pointer (some ⟨rb, 0, none⟩)), .int .i64 (seg : Int), .int .i64 (row : Int), .slice a k cap] wf.drew fun e wz => e = .returned (.int .i64 0) ∧ (∃ oa oc, wz.cell? ⟨rb, 7, none⟩ = some (.slice oa n oc)) ∧ wz.cell? ⟨qb, 0, none⟩ = some (.int .i64 (n : Int)) ∧ W9 wz) := Lib.hid ((HWR.out _ ((Below.refl _ wf).drew)).mono fun e wz hr => by
    obtain ⟨s', G, P, he, hr9, hs9, hol, hgo, hwr, hst⟩ := hr
    rw [HE1.out.2.2.2.2.2.2.2.1, List.nil_append, HE1.out.2.2.2.1] at hol
    rw [HE1.out.2.2.2.1] at hst hwr
    rw [HE1.out.2.2.2.2.2.2.1] at hst
    have hq9 : Below B w4 wz := hq0.trans (hs9.below (HR1.out.step ((Below.refl _ wf).drew)) HB1.out.2)
    have hc9 := hr9.c.2.2.2.2.2.2.2
    have hl9 : s'.ol.length = n := by rw [hol]; exact ordL_len _ _ _
    obtain ⟨oa, oc, hoe⟩ := ownsI_shape hr9.ordF
    obtain ⟨e1, e2, e3, e4, e5, e6, e7, e8⟩ := hs9.same
    rw [hoe, hl9, e1, HE1.out.1] at hc9
    refine ⟨he, ⟨oa, oc, hc9⟩, (HGB.out wz hq9).1, ?_⟩
    rw [HW9.out]
    exact ⟨s', G, P, hr9, hq9, Nat.le_trans HB1.out.2 hs9.size, (HP1.out.step ((Below.refl _ wf).drew)).rstep hs9, ⟨e4.trans HE1.out.2.2.2.1, e5.trans HE1.out.2.2.2.2.1, e6.trans HE1.out.2.2.2.2.2.1, e7.trans HE1.out.2.2.2.2.2.2.1, e1.trans HE1.out.1, e2.trans HE1.out.2.1, hol⟩, hst, fun m hm hne => hwr.1 m (ordL_all hm) ((HGK.out.1 m).trans (if_neg hne)), fun m hm => (hwr.2 (m, seg, row) (fun m' _ hg e => by simp only [Prod.mk.injEq] at e; have h1 := (HGK.out.1 m').symm.trans hg; rw [← e.1, if_pos hm] at h1; cases h1)).trans (HGK.out.2 _)⟩)
  obtain ⟨v0, v1, v2, v3⟩ := HGB.out _ hq0
  clear hq0 v1 v2 v3
  go_cut [73] (fun s73 wx => s73 = .bool false ∧ W9 wx)
  case first =>
    go_region_law (first
      | (go_simp; go_at_call 23; ((with_reducible refine HWS.out.mono ?_)); (intro e wz hr; obtain ⟨rfl, ⟨oa, oc, hc9⟩, y8, hw9⟩ := hr; have hW := Lib.hid hw9; clear hw9)))
    all_goals
      go_wp2_with fail
      go_meet
      exact ⟨rfl, hW.out⟩
  case rest =>
  obtain ⟨rfl, hx9⟩ := hcut
  obtain ⟨w9, hw9⟩ : ∃ x, x = wc := ⟨_, rfl⟩
  rw [← hw9] at hx9 ⊢
  clear hw9
  rw [HW9.out] at hx9
  obtain ⟨s', G, P, hr9, hb9, hs9, hp9, he9, hst, hfa, hfd⟩ := hx9
  have HR9 := Lib.hid hr9
  have HB9 := Lib.hid (And.intro hb9 hs9)
  have HP9 := Lib.hid hp9
  have HE := Lib.hid he9
  have HST : Hid (StripeB n p 256 seg row L G P) := Lib.hid hst
  have HFA := Lib.hid (And.intro hfa hfd)
  clear hr9 hb9 hs9 hp9 he9 hst hfa hfd HW9 W9 HWR HWS v0 HR1 HP1 HB1 HE1 HRK HPK HBK HEK HGK
  obtain ⟨og, oc, hoe, hol, hoc⟩ := own_cells HR9.out.ordF (by rw [HE.out.2.2.2.2.2.2, ordL_len]; have := HN.out; omega)
  rw [HE.out.2.2.2.2.2.2, ordL_len] at hoe hoc
  have HXC : Hid (∀ x : World, Below w9.heap.size w9 x → x.cell? ⟨rb, 4, none⟩ = some (.map (some pb)) ∧ x.cell? ⟨rb, 7, none⟩ = some (.slice (some ⟨og, 0, none⟩) n oc) ∧ ∀ j, j < n → x.cell? ⟨og, j, none⟩ = some (.int .i64 (((ordL 0 n zv).getD j 0 : Nat) : Int))) := Lib.hid fun x hx => by
    have hc := (HR9.out.step hx).c
    rw [HE.out.2.2.2.2.1, HE.out.2.2.2.2.2.1, hoe] at hc
    exact ⟨hc.2.2.2.2.1, hc.2.2.2.2.2.2.2, fun j hj => (World.cell?_of_block (w := w9) (a := ⟨og, j, none⟩) (hx.block og hol)).trans (hoc j hj)⟩
  have HX9 : Hid (∀ x : World, Below w9.heap.size w9 x → Below B w4 x) := Lib.hid fun x hx => HB9.out.1.trans (hx.mono HB9.out.2)
  clear hoe hol hoc
  obtain ⟨y4, y7, yo⟩ := HXC.out w9 (Below.refl _ _)
  have yo0 := yo 0 (by have := HN.out; omega)
  clear yo
  obtain ⟨tz, htz⟩ : ∃ t, t = decide ((0 : Int) ≤ zv) := ⟨_, rfl⟩
  have tzq : decide ((0 : Int) ≤ zv) = tz := htz.symm
  have HTZ := Lib.hid htz
  clear htz
  go_upto_if 75 with fail
  go_cut [10] (fun s10 wx => s10 = .int .i64 (ordPos zv 0 : Int) ∧ wx = w9)
  case first =>
    rcases HZV.out with hz | ⟨F, hFn, hz⟩
    · obtain rfl : tz = false := by rw [HTZ.out]; simp; omega
      have hp0 : ((ordPos zv 0 : Nat) : Int) = 0 := by unfold ordPos; rw [if_neg (by omega)]; rfl
      clear hz
      go_wp2_with fail
      go_meet
      exact ⟨by rw [hp0], rfl⟩
    · obtain rfl : tz = true := by rw [HTZ.out]; simp; omega
      have hp0 : ((ordPos zv 0 : Nat) : Int) = 1 := by unfold ordPos; rw [if_pos (by omega), if_pos (by omega)]; rfl
      have hh : (((ordL 0 n zv).getD 0 0 : Nat) : Int) = zv := by rw [hz, ordL_head hFn]
      rw [hh] at yo0
      have tn : (zv != zv) = false := by simp
      have i0 : (0 : Int) ≤ 0 := by omega
      have i1 : (0 : Int) < (n : Int) := by omega
      clear hz hh
      go_wp2_with fail
      go_meet
      exact ⟨by rw [hp0], rfl⟩
  case rest =>
  obtain ⟨rfl, hw9'⟩ := hcut
  rw [hw9']
  clear hw9' yo0 y4 y7 HTZ tzq tz
  have hgood : GoodG ((k : Int) + 1) 20 6 256 := by have := HN.out; unfold GoodG; omega
  have HMB : Hid (∀ x : World, Calls Try.prog 24 #[.agg #[.int .i64 (n : Int), .int .i64 20, .int .i64 6, .int .i64 256], .int .i64 (seg : Int), .int .i64 (row : Int)] x (MemsRet p k x)) := Lib.hid fun x => by
    have hkn : ((k : Int) + 1) = (n : Int) := by have := HN.out; omega
    have := refMembers_any 20 6 256 seg row p k x hgood (by omega) (by have := HSR.out; omega) (by omega) (by have := HSR.out; omega) (by rw [hkn]; exact HPP.out.1) (by have := HPP.out; have := HN.out; omega) (by have := HN.out; omega)
    rw [hkn] at this
    exact this
  have HPR : Hid (∀ x : World, Calls Try.prog 26 #[.agg #[.int .i64 (n : Int), .int .i64 20, .int .i64 6, .int .i64 256], .int .i64 (seg : Int), .int .i64 (row : Int)] x fun e w' => e = .returned (.int .i64 (p : Int)) ∧ Below x.heap.size x w') := Lib.hid fun x => by
    have hkn : ((k : Int) + 1) = (n : Int) := by have := HN.out; omega
    have := refPar_any ((k : Int) + 1) 20 6 256 seg row x hgood (by omega) (by have := HSR.out; omega) (by omega) (by have := HSR.out; omega)
    rw [hkn, ← (show ((p : Nat) : Int) = ParOf (n : Int) 6 (seg : Int) (row : Int) from HPP.out.1)] at this
    exact this
  clear hgood
  obtain ⟨g0, g1, g2, g3⟩ := HGB.out w9 (HX9.out _ (Below.refl _ _))
  go_wp2_with fail
  ((with_reducible refine (HMB.out _).mono ?_))
  rintro e wm ⟨mv, rfl, hmo, hbm⟩
  have hul : (upto (memOf p) k).length = k := by simp [upto]
  obtain ⟨mb, mc, rfl, hmlt, hmc⟩ := own_cells (l := upto (memOf p) k) (by rw [hul]; exact hmo) (by rw [hul]; have := HN.out; omega)
  rw [hul] at hmc ⊢
  have HMC : Hid (∀ (x : World) (j : Nat), Below wm.heap.size wm x → j < k → x.cell? ⟨mb, j, none⟩ = some (.int .i64 ((memOf p j : Nat) : Int))) := Lib.hid fun x j hx hj => by
    have h1 := (World.cell?_of_block (w := wm) (a := ⟨mb, j, none⟩) (hx.block mb hmlt)).trans (hmc j hj)
    rw [show (upto (memOf p) k).getD j 0 = memOf p j by simp [upto, List.getD, hj]] at h1
    exact h1
  have HBM := Lib.hid hbm
  clear hmo hbm hul hmlt hmc g0 g1 g2 g3
  obtain ⟨lb, lo, hae, _⟩ := spage_at HP9.out.pg.1 HP9.out.len.1
  subst hae
  have BW0 := Below.refl wm.heap.size wm
  go_upto_region 20 with fail
  go_loopw [10, 12] (fun nv kv wr => ∃ kk : Nat, kk ≤ n ∧ nv = .int .i64 (ordPos zv kk : Int) ∧ kv = .int .i64 (kk : Int) ∧ Below wm.heap.size wm wr) (fun _ kv _ => n - (intOf kv).toNat)
  case atStart => exact ⟨0, Nat.zero_le _, rfl, rfl, BW0⟩
  case round =>
    obtain ⟨kk, hkk, rfl, rfl, hbw⟩ := hrel
    have HBW := Lib.hid hbw
    have HBWX := Lib.hid (HX9.out _ (bel_trans HBM.out hbw))
    clear hbw BW0
    obtain ⟨g0, g1, g2, g3⟩ := HGB.out wr HBWX.out
    by_cases hlt : kk < n
    · have q1 : decide ((kk : Int) < (n : Int)) = true := by simpa using hlt
      have q1' : decide (kk < n) = true := by simpa using hlt
      have HKN := Lib.hid hlt
      obtain ⟨tz, htz⟩ : ∃ t, t = ((kk : Int) != zv) := ⟨_, rfl⟩
      have tzq : ((kk : Int) != zv) = tz := htz.symm
      have HTZ := Lib.hid htz
      clear htz
      go_upto_if 96 with fail
      go_cut [10] (fun s10 wx => s10 = .int .i64 (ordPos zv (kk + 1) : Int) ∧ wx = wr)
      case first =>
        obtain ⟨y4, y7, yo⟩ := HXC.out wr (bel_trans HBM.out HBW.out)
        have hpm := ordPos_more zv kk
        by_cases hz : (kk : Int) = zv
        · obtain rfl : tz = false := by rw [HTZ.out]; simpa using hz
          rw [if_pos hz] at hpm
          clear hz yo
          go_wp2_with fail
          go_meet
          exact ⟨by rw [hpm], rfl⟩
        · obtain rfl : tz = true := by rw [HTZ.out]; simpa using hz
          rw [if_neg hz] at hpm
          obtain ⟨o1, o2⟩ := ordL_at HZB.out HKN.out hz
          have yk := yo (ordPos zv kk) o2
          rw [o1] at yk
          obtain ⟨np, hnp⟩ : ∃ np, np = ordPos zv kk := ⟨_, rfl⟩
          rw [← hnp] at yk hpm o2 ⊢
          have i0 : (0 : Int) ≤ (np : Int) := by omega
          have i1 : (np : Int) < (n : Int) := by omega
          have n7 : n ≤ 7 := HN.out.1.2
          have k1 : wrap64 ((np : Int) + 1) = (np : Int) + 1 := wrap_step np (by omega)
          have tk : ((kk : Int) != (kk : Int)) = false := by simp
          clear hz yo o1 hnp
          go_wp2_with fail
          go_meet
          exact ⟨by rw [hpm]; simp, rfl⟩
      case rest =>
      obtain ⟨rfl, hwr'⟩ := hcut
      rw [hwr']
      clear hwr' HTZ tzq tz
      have y4 := (HXC.out wr (bel_trans HBM.out HBW.out)).1
      have hok3 : ok3 (kk, seg, row) := by have := HKN.out; have := HN.out; have := HSR.out; unfold ok3; simp only; omega
      by_cases hdd : (kk : Int) = (D : Int)
      · have td : ((kk : Int) == (D : Int)) = true := by simpa using hdd
        have hlk : (Instr.lookup 63 (.map (some pb)) (.agg #[.int .i64 (kk : Int), .int .i64 (seg : Int), .int .i64 (row : Int)]) false).run Try.prog wr = .ok (.slice none 0 0) wr := by
          have h2 := (HR9.out.step (bel_trans HBM.out HBW.out)).pages.lookup keyF3 Try.underlying63 (zeroB wr) (x := (kk, seg, row)) hok3
          have h3 : (s'.pageV (kk, seg, row)).getD (.slice none 0 0) = .slice none 0 0 := by unfold RS.pageV; rw [HFA.out.2 kk hdd]; rfl
          rw [h3, HE.out.2.2.2.2.2.1] at h2
          exact h2
        have k1 : wrap64 ((kk : Int) + 1) = (kk : Int) + 1 := wrap_step kk (by have := HKN.out; have := HN.out; omega)
        clear hok3 hdd
        go_wp2
        go_roundw
        case rel => rw [k1]; exact ⟨kk + 1, HKN.out, rfl, rfl, HBW.out⟩
        case measure => rw [k1]; exact round_lessN HKN.out
      · have td : ((kk : Int) == (D : Int)) = false := by simpa using hdd
        obtain ⟨⟨qa, qn, qc, ql⟩, hq0, hql⟩ := HFA.out.1 kk HKN.out hdd
        obtain ⟨hqp, hqn, hqf, hqo⟩ := (HR9.out.step (bel_trans HBM.out HBW.out)).parts (kk, seg, row) _ hok3 hq0
        rw [HE.out.2.2.2.1] at hqn
        simp only at hqn hql hqf hqo
        obtain ⟨qb0, qo, hqa, _⟩ := hqp.1.2.2 (by show 0 < qn; omega)
        simp only at hqa
        subst hqn hqa
        have HQP := Lib.hid hqp
        have hlk : (Instr.lookup 63 (.map (some pb)) (.agg #[.int .i64 (kk : Int), .int .i64 (seg : Int), .int .i64 (row : Int)]) false).run Try.prog wr = .ok (.slice (some ⟨qb0, qo, none⟩) (256 + 64) qc) wr := by
          have h2 := (HR9.out.step (bel_trans HBM.out HBW.out)).pages.lookup keyF3 Try.underlying63 (zeroB wr) (x := (kk, seg, row)) hok3
          have h3 : (s'.pageV (kk, seg, row)).getD (.slice none 0 0) = .slice (some ⟨qb0, qo, none⟩) (256 + 64) qc := by unfold RS.pageV; rw [hq0]; rfl
          rw [h3, HE.out.2.2.2.2.2.1] at h2
          exact h2
        have HQL := Lib.hid hql
        clear hok3 hdd hq0 hqp hqf hqo hql
        have hx1 : 320 ≤ qc := HQP.out.2.1
        have hx2 : ¬ qc = 256 := by omega
        have hx3 : qc ≤ 9223372036854775807 := by have := HQP.out.2.2.1; unfold maxLen at this; omega
        have hx4 : (256 : Int) ≤ (qc : Int) := by omega
        obtain ⟨H, hH⟩ : ∃ H, H = openH (ql.take 256) (ql.drop 256) := ⟨_, rfl⟩
        have hao := any_ok HST.out HLO.out.1 (by rw [HLO.out.2]; exact HN.out.2) HPP.out.2 HN.out.1.1 (show seg ≤ 2000 by have := HSR.out; omega) (show row ≤ 2000 by have := HSR.out; omega) HKN.out
        rw [← HQL.out] at hao
        have HHP : Hid (kk = p → H = hdrOf (L.getD 0 SP.nil).h row seg) := Lib.hid fun hkp => by
          obtain ⟨p1, p2, _, _, p5⟩ := par_at HST.out HLO.out.1 (by rw [HLO.out.2]; exact HN.out.2) HN.out.1.1 (show seg ≤ 2000 by have := HSR.out; omega) (show row ≤ 2000 by have := HSR.out; omega)
          rw [hH, HQL.out, hkp, p1, p2]
          exact p5
        have HOP : Hid (∀ x : World, Below wr.heap.size wr x → Calls Try.prog 25 #[.slice (some ⟨qb0, qo, none⟩) 256 qc, .slice (some ⟨qb0, qo + 256, none⟩) 64 (qc - 256)] x fun e w' => e = .returned (.tuple #[.agg #[.int .i64 (H.ki : Int), .int .i64 (H.ep : Int), .int .i64 (H.ba : Int), .int .i64 (H.ix : Int), .int .i64 (H.ct : Int), .int .i64 (H.bl : Int), .int .i64 (H.mo : Int)], .bool true]) ∧ Below x.heap.size x w') := Lib.hid fun x hx => by
          have hrow : Row x (some ⟨qb0, qo, none⟩) (256 + 64) ql := row_keep HQP.out.1 hx (Nat.le_refl _)
          have := refOpen_any (some ⟨qb0, qo, none⟩) 256 qc (ql.take 256) (some ⟨qb0, qo + 256, none⟩) 64 (qc - 256) (ql.drop 256) x (row_front hrow 256 (by omega)) (by omega) (fun h => by cases h) (row_suffix hrow 256 (by omega)) (by omega) (Nat.le_trans (Nat.sub_le _ _) HQP.out.2.2.1)
          rw [← hH, show decide (OpenOk (ql.take 256) (ql.drop 256)) = true from decide_eq_true hao] at this
          exact this
        clear hH hao
        have HC0 : Hid (Below wr.heap.size wr wr.drew) := Lib.hid (Below.refl _ _).drew
        have hS0 := (HXC.out wr.drew (bel_trans HBM.out (bel_trans HBW.out HC0.out))).1
        have HNE : Hid (rb ≠ wr.heap.size) := Lib.hid (by
          have h1 := HR9.out.rlt
          rw [HE.out.2.2.2.2.1] at h1
          have h3 := HBM.out.size
          have h4 := HBW.out.size
          omega)
        have HSS : Hid (∀ x : World, Below wr.heap.size wr x → x.cell? ⟨rb, 4, none⟩ = some (.map (some pb))) := Lib.hid fun x hx => (HXC.out x (bel_trans HBM.out (bel_trans HBW.out hx))).1
        clear y4 g0 g1 g2 g3
        obtain ⟨g0, g1, g2, g3⟩ := HGB.out wr HBWX.out
        have y4 := HSS.out wr (Below.refl _ _)
        obtain ⟨WH, hWH⟩ : ∃ WH : Value → World → Prop, WH = fun v x => ∃ hb : Nat, v = .pointer (some ⟨hb, 0, none⟩) ∧ x.heap[hb]? = some (.cells #[.int .i64 (H.ki : Int), .int .i64 (H.ep : Int), .int .i64 (H.ba : Int), .int .i64 (H.ix : Int), .int .i64 (H.ct : Int), .int .i64 (H.bl : Int), .int .i64 (H.mo : Int)] 72 (0, 0)) ∧ Below wr.heap.size wr x := ⟨_, rfl⟩
        have HWH := Lib.hid hWH
        clear hWH
        go_upto_region 32 with fail
        clear g0 g1 g2 g3 y4 hlk
        go_cut [14, 15] (fun s14 s15 wx => WH s14 wx ∧ s15 = .bool true)
        case first =>
          go_region_held3 (fun x => x.cell? ⟨rb, 4, none⟩ = some (.map (some pb)))
            (first | with_reducible exact hS0 | with_reducible exact hS1 | with_reducible exact far7 hS1 HNE.out | with_reducible exact HSS.out _ ((bel_alloc (Below.refl _ wr) _).drew) | with_reducible exact HSS.out _ (bel_alloc HC9.out _) | go_keep)
            (first
              | (go_simp; go_at_call 25; ((with_reducible refine (HOP.out _ HC0.out).mono ?_)); (intro e wo hr; obtain ⟨rfl, hb9⟩ := hr; have HC9 := Lib.hid (bel_trans HC0.out hb9); have hS1 := HSS.out wo HC9.out; clear hb9))
              | (go_simp; go_at_call 25; ((with_reducible refine (HOP.out _ ((bel_alloc (Below.refl _ wr) _).drew)).mono ?_)); (intro e wo hr; obtain ⟨rfl, hb9⟩ := hr; have HC9 := Lib.hid (bel_trans ((bel_alloc (Below.refl _ wr) (.cells #[.int .i64 0, .int .i64 0, .int .i64 0, .int .i64 0, .int .i64 0, .int .i64 0, .int .i64 0] 72)).drew) hb9); have HXA := Lib.hid ((hb9.block wr.heap.size (by simp)).trans (heap_alloc_new wr (.cells #[.int .i64 0, .int .i64 0, .int .i64 0, .int .i64 0, .int .i64 0, .int .i64 0, .int .i64 0] 72))); obtain ⟨x0, x1, x2, x3, x4, x5, x6⟩ := seven_at HXA.out; have xf := free_at HXA.out; have hS1 := HSS.out wo HC9.out; clear hb9)))
          all_goals
            first
              | (have HZ : Hid (WH (.pointer (some ⟨wo.heap.size, 0, none⟩)) (wo.alloc (.cells #[.int .i64 (H.ki : Int), .int .i64 (H.ep : Int), .int .i64 (H.ba : Int), .int .i64 (H.ix : Int), .int .i64 (H.ct : Int), .int .i64 (H.bl : Int), .int .i64 (H.mo : Int)] 72))) := Lib.hid (by rw [HWH.out]; exact ⟨_, rfl, heap_alloc_new wo (.cells #[.int .i64 (H.ki : Int), .int .i64 (H.ep : Int), .int .i64 (H.ba : Int), .int .i64 (H.ix : Int), .int .i64 (H.ct : Int), .int .i64 (H.bl : Int), .int .i64 (H.mo : Int)] 72), bel_alloc HC9.out _⟩)
                 obtain ⟨wz, hwz⟩ : ∃ x, x = wo.alloc (.cells #[.int .i64 (H.ki : Int), .int .i64 (H.ep : Int), .int .i64 (H.ba : Int), .int .i64 (H.ix : Int), .int .i64 (H.ct : Int), .int .i64 (H.bl : Int), .int .i64 (H.mo : Int)] 72) := ⟨_, rfl⟩
                 rw [← hwz] at HZ ⊢
                 clear hwz)
              | (have HZ : Hid (WH (.pointer (some ⟨wr.heap.size, 0, none⟩)) (((((((wo.setCell ⟨wr.heap.size, 0, none⟩ (.int .i64 (H.ki : Int))).setCell ⟨wr.heap.size, 1, none⟩ (.int .i64 (H.ep : Int))).setCell ⟨wr.heap.size, 2, none⟩ (.int .i64 (H.ba : Int))).setCell ⟨wr.heap.size, 3, none⟩ (.int .i64 (H.ix : Int))).setCell ⟨wr.heap.size, 4, none⟩ (.int .i64 (H.ct : Int))).setCell ⟨wr.heap.size, 5, none⟩ (.int .i64 (H.bl : Int))).setCell ⟨wr.heap.size, 6, none⟩ (.int .i64 (H.mo : Int)))) := Lib.hid (by rw [HWH.out]; exact ⟨_, rfl, seven_put (.int .i64 (H.ki : Int)) (.int .i64 (H.ep : Int)) (.int .i64 (H.ba : Int)) (.int .i64 (H.ix : Int)) (.int .i64 (H.ct : Int)) (.int .i64 (H.bl : Int)) (.int .i64 (H.mo : Int)) HXA.out, bel_seven HC9.out wr.heap.size (Nat.le_refl _) _ _ _ _ _ _ _⟩)
                 clear x0 x1 x2 x3 x4 x5 x6 xf
                 obtain ⟨wz, hwz⟩ : ∃ x, x = (((((((wo.setCell ⟨wr.heap.size, 0, none⟩ (.int .i64 (H.ki : Int))).setCell ⟨wr.heap.size, 1, none⟩ (.int .i64 (H.ep : Int))).setCell ⟨wr.heap.size, 2, none⟩ (.int .i64 (H.ba : Int))).setCell ⟨wr.heap.size, 3, none⟩ (.int .i64 (H.ix : Int))).setCell ⟨wr.heap.size, 4, none⟩ (.int .i64 (H.ct : Int))).setCell ⟨wr.heap.size, 5, none⟩ (.int .i64 (H.bl : Int))).setCell ⟨wr.heap.size, 6, none⟩ (.int .i64 (H.mo : Int))) := ⟨_, rfl⟩
                 rw [← hwz] at HZ ⊢
                 clear hwz)
            clear hS0 hS1
            go_wp2_with fail
            go_meet
            exact ⟨HZ.out, rfl⟩
        case rest =>
        obtain ⟨hwh, rfl⟩ := hcut
        obtain ⟨wz, hwz⟩ : ∃ x, x = wc := ⟨_, rfl⟩
        rw [← hwz] at hwh ⊢
        clear hwz hS0
        rw [HWH.out] at hwh
        obtain ⟨hb, rfl, hhd, hz⟩ := hwh
        have HHD := Lib.hid hhd
        have HZW : Hid (Below wm.heap.size wm wz) := Lib.hid (bel_trans HBW.out hz)
        clear hhd hz HWH WH HOP HC0 HNE HSS HQP HQL hx1 hx2 hx3 hx4
        obtain ⟨e0, he0⟩ : ∃ e0, e0 = (L.getD 0 SP.nil).h.ep := ⟨_, rfl⟩
        have hef : e0 < 4294967296 := by rw [he0]; exact (HLO.out.1.fit _ (sp_mem L 0 (by rw [HLO.out.2]; have := HN.out; omega))).1.ep
        have HL0 : Hid (∀ x : World, Below wm.heap.size wm x → x.cell? ⟨lb, lo + 1, none⟩ = some (.int .u32 (e0 : Int))) := Lib.hid fun x hx => by
          obtain ⟨lb', lo', hae, hpa⟩ := spage_at (HP9.out.step (bel_trans HBM.out hx)).pg.1 (show 0 < L.length by rw [HLO.out.2]; have := HN.out; omega)
          cases hae
          have h1 := hpa.2.1
          rw [← he0] at h1
          simpa using h1
        have HE0 := Lib.hid he0
        have ik : (0 : Int) < (k : Int) := by have := HN.out; omega
        have ik0 : (0 : Int) ≤ 0 := by omega
        have u1 := wrap_u32i e0 hef
        clear he0 hef
        obtain ⟨C, hCd⟩ : ∃ C : World → Prop, (∀ x, C x → Below wz.heap.size wz x) ∧ (∀ x, Below wz.heap.size wz x → C x) := ⟨_, fun _ h => h, fun _ h => h⟩
        have hC0 := hCd.2 _ (Below.refl wz.heap.size wz).drew
        haveI hne : Nonempty (Wd C) := ⟨⟨_, hC0⟩⟩
        have HCD := Lib.hid hCd
        clear hCd
        have HHX : Hid (∀ y : Wd C, y.w.heap[hb]? = some (.cells #[.int .i64 (H.ki : Int), .int .i64 (H.ep : Int), .int .i64 (H.ba : Int), .int .i64 (H.ix : Int), .int .i64 (H.ct : Int), .int .i64 (H.bl : Int), .int .i64 (H.mo : Int)] 72 (0, 0))) := Lib.hid fun y => ((HCD.out.1 _ y.ok).block _ (Array.getElem?_eq_some_iff.1 HHD.out).1).trans HHD.out
        have f0 : ∀ y : Wd C, y.w.cell? ⟨qb, 0, none⟩ = some (.int .i64 (n : Int)) := fun y => (HGB.out _ (HX9.out _ (bel_trans HBM.out (bel_trans HZW.out (HCD.out.1 _ y.ok))))).1
        have f1 : ∀ y : Wd C, y.w.cell? ⟨qb, 1, none⟩ = some (.int .i64 20) := fun y => (HGB.out _ (HX9.out _ (bel_trans HBM.out (bel_trans HZW.out (HCD.out.1 _ y.ok))))).2.1
        have f2 : ∀ y : Wd C, y.w.cell? ⟨qb, 2, none⟩ = some (.int .i64 6) := fun y => (HGB.out _ (HX9.out _ (bel_trans HBM.out (bel_trans HZW.out (HCD.out.1 _ y.ok))))).2.2.1
        have f3 : ∀ y : Wd C, y.w.cell? ⟨qb, 3, none⟩ = some (.int .i64 256) := fun y => (HGB.out _ (HX9.out _ (bel_trans HBM.out (bel_trans HZW.out (HCD.out.1 _ y.ok))))).2.2.2
        have f4 : ∀ y : Wd C, y.w.cell? ⟨lb, lo + 1, none⟩ = some (.int .u32 (e0 : Int)) := fun y => HL0.out _ (bel_trans HZW.out (HCD.out.1 _ y.ok))
        have HST0 : Hid (∀ (y : Wd C) (z : World), Below y.w.heap.size y.w z → C z) := Lib.hid fun y z hb => HCD.out.2 _ (bel_trans (HCD.out.1 _ y.ok) hb)
        have k1 : wrap64 ((kk : Int) + 1) = (kk : Int) + 1 := wrap_step kk (by have := HKN.out; have := HN.out; omega)
        go_upto_region 33 with fail
        go_cut [171] (fun s171 wx => s171 = .bool false ∧ Below wm.heap.size wm wx)
        case first =>
          by_cases hkp : kk = p
          · have HH := HHP.out hkp
            have e5 : ((H.ki : Nat) : Int) = 5 := by rw [HH]; rfl
            have ee : ((H.ep : Nat) : Int) = (e0 : Int) := by rw [HH, HE0.out]; rfl
            have ei : ((H.ix : Nat) : Int) = (row : Int) := by rw [HH]; rfl
            have ec : ((H.ct : Nat) : Int) = (seg : Int) := by rw [HH]; rfl
            rw [e5, ee, ei, ec] at HHX
            clear HH e5 ee ei ec
            subst hkp
            have h0 : ∀ y : Wd C, y.w.cell? ⟨hb, 0, none⟩ = some (.int .i64 5) := fun y => (seven_at (HHX.out y)).1
            have h1 : ∀ y : Wd C, y.w.cell? ⟨hb, 1, none⟩ = some (.int .i64 (e0 : Int)) := fun y => (seven_at (HHX.out y)).2.1
            have h3 : ∀ y : Wd C, y.w.cell? ⟨hb, 3, none⟩ = some (.int .i64 (row : Int)) := fun y => (seven_at (HHX.out y)).2.2.2.1
            have h4 : ∀ y : Wd C, y.w.cell? ⟨hb, 4, none⟩ = some (.int .i64 (seg : Int)) := fun y => (seven_at (HHX.out y)).2.2.2.2.1
            have t1 : ((kk : Int) == (kk : Int)) = true := by simp
            have t2 : ((e0 : Int) != (e0 : Int)) = false := by simp
            have t3 : ((row : Int) != (row : Int)) = false := by simp
            have t4 : ((seg : Int) != (seg : Int)) = false := by simp
            refine wp_region_wd C (by kernel_rfl) (by as_aux_lemma => kernel_rfl) hC0 ?_
            repeat (go_big_quiet_step (first
              | (go_at_call 26; with_reducible exact Calls.wd (HST0.out _) (HPR.out _))))
            refine wpQuiet_nil ?_
            intro _ hw'
            obtain ⟨y, rfl⟩ := hw'
            have HY : Hid (Below wm.heap.size wm y.w) := Lib.hid (bel_trans HZW.out (HCD.out.1 _ y.ok))
            clear f0 f1 f2 f3 f4 h0 h1 h3 h4
            go_wp2_with fail
            go_meet
            exact ⟨rfl, HY.out⟩
          · have t1 : ((kk : Int) == (p : Int)) = false := beq_ne hkp
            clear hkp
            refine wp_region_wd C (by kernel_rfl) (by as_aux_lemma => kernel_rfl) hC0 ?_
            repeat (go_big_quiet_step (first
              | (go_at_call 26; with_reducible exact Calls.wd (HST0.out _) (HPR.out _))))
            refine wpQuiet_nil ?_
            intro _ hw'
            obtain ⟨y, rfl⟩ := hw'
            have HY : Hid (Below wm.heap.size wm y.w) := Lib.hid (bel_trans HZW.out (HCD.out.1 _ y.ok))
            clear f0 f1 f2 f3 f4
            go_wp2_with fail
            go_meet
            exact ⟨rfl, HY.out⟩
        case rest =>
        obtain ⟨rfl, hy⟩ := hcut
        have HY := Lib.hid hy
        clear hy f0 f1 f2 f3 f4 hC0 HST0 HHX HCD u1 ik ik0
        go_wp2
        go_roundw
        case rel => rw [k1]; exact ⟨kk + 1, HKN.out, rfl, rfl, HY.out⟩
        case measure => rw [k1]; exact round_lessN HKN.out
    · obtain rfl : n = kk := by omega
      have q1 : decide ((n : Int) < (n : Int)) = false := by simp
      have q1' : decide (n < n) = false := by simp
      clear hlt hkk
      have HBN := Lib.hid (bel_trans HBM.out HBW.out)
      go_upto_region 36 with fail
      have BW1 := Below.refl wr.heap.size wr
      obtain ⟨w2, hw2⟩ : ∃ x, x = wr := ⟨_, rfl⟩
      have HBV : Hid (Below wm.heap.size wm w2) := Lib.hid (by rw [hw2]; exact HBW.out)
      rw [← hw2] at BW1 ⊢
      clear hw2 g0 g1 g2 g3 HBWX q1 q1'
      go_loopw [16] (fun iv wr => ∃ i : Nat, i ≤ k ∧ iv = .int .i64 (i : Int) ∧ Below w2.heap.size w2 wr) (fun iv _ => k - (intOf iv).toNat)
      case atStart => exact ⟨0, Nat.zero_le _, rfl, BW1⟩
      case round =>
        obtain ⟨i, hi, rfl, hbw⟩ := hrel
        have HWI := Lib.hid (bel_trans HBV.out hbw)
        have HW2 := Lib.hid hbw
        clear hbw BW1
        by_cases hlt : i < k
        · have q2 : decide ((i : Int) < (k : Int)) = true := by simpa using hlt
          have q2' : decide (i < k) = true := by simpa using hlt
          have HIK := Lib.hid hlt
          obtain ⟨m, hm⟩ : ∃ m, m = memOf p i := ⟨_, rfl⟩
          have hmn : m < n := by rw [hm]; have := HN.out; have := HPP.out; unfold memOf; split <;> omega
          have hmp : m ≠ p := by rw [hm]; exact memOf_ne p i
          have hsl : slotOf p m = i := by rw [hm]; exact slot_mem p i
          have hmi : ((memOf p i : Nat) : Int) = (m : Int) := by rw [hm]
          have HMI := Lib.hid hmi
          have hok3 : ok3 (m, seg, row) := by have := HN.out; have := HSR.out; unfold ok3; simp only; omega
          have i0 : (0 : Int) ≤ (i : Int) := by omega
          have i1 : (i : Int) < (k : Int) := by omega
          clear hm hmi
          obtain ⟨C, hCd⟩ : ∃ C : World → Prop, (∀ x, C x → Below w2.heap.size w2 x) ∧ (∀ x, Below w2.heap.size w2 x → C x) := ⟨_, fun _ h => h, fun _ h => h⟩
          have hC0 := hCd.2 _ HW2.out.drew
          haveI hne : Nonempty (Wd C) := ⟨⟨_, hC0⟩⟩
          have HCD := Lib.hid hCd
          clear hCd
          have HBC : Hid (∀ y : Wd C, Below wm.heap.size wm y.w) := Lib.hid fun y => bel_trans HBV.out (HCD.out.1 _ y.ok)
          have f4 : ∀ y : Wd C, y.w.cell? ⟨rb, 4, none⟩ = some (.map (some pb)) := fun y => (HXC.out _ (bel_trans HBM.out (HBC.out y))).1
          have f5 : ∀ y : Wd C, y.w.cell? ⟨mb, i, none⟩ = some (.int .i64 (m : Int)) := fun y => (HMC.out _ i (HBC.out y) HIK.out).trans (by rw [HMI.out])
          have HST0 : Hid (∀ (y : Wd C) (z : World), Below y.w.heap.size y.w z → C z) := Lib.hid fun y z hb => HCD.out.2 _ (bel_trans (HCD.out.1 _ y.ok) hb)
          by_cases hdd : (m : Int) = (D : Int)
          · have td : ((m : Int) != (D : Int)) = false := by simpa using hdd
            have f6 : ∀ y : Wd C, (Instr.lookup 63 (.map (some pb)) (.agg #[.int .i64 (m : Int), .int .i64 (seg : Int), .int .i64 (row : Int)]) false).run Try.prog y.w = .ok (.slice none 0 0) y.w := fun y => by
              have h2 := (HR9.out.step (bel_trans HBM.out (HBC.out y))).pages.lookup keyF3 Try.underlying63 (zeroB y.w) (x := (m, seg, row)) hok3
              have h3 : (s'.pageV (m, seg, row)).getD (.slice none 0 0) = .slice none 0 0 := by unfold RS.pageV; rw [HFA.out.2 m hdd]; rfl
              rw [h3, HE.out.2.2.2.2.2.1] at h2
              exact h2
            clear hdd hok3 hmn hmp hsl hlt
            have k1 := wrap_step i (by have := HIK.out; have := HN.out; omega)
            go_upto_region 38 with fail
            refine wp_region_wd C (by kernel_rfl) (by as_aux_lemma => kernel_rfl) hC0 ?_
            repeat (go_big_quiet_step (fail))
            refine wpQuiet_nil ?_
            intro _ hw'
            obtain ⟨y, rfl⟩ := hw'
            have hC1 := HCD.out.2 _ (HCD.out.1 _ y.ok).drew
            go_upto_region 39 with fail
            refine wp_region_wd C (by kernel_rfl) (by as_aux_lemma => kernel_rfl) hC1 ?_
            repeat (go_big_quiet_step (first
              | fail))
            refine wpQuiet_nil ?_
            intro _ hw''
            obtain ⟨y2, rfl⟩ := hw''
            have HY2 : Hid (Below w2.heap.size w2 y2.w) := Lib.hid (HCD.out.1 _ y2.ok)
            go_wp2
            go_roundw
            case rel => rw [k1]; exact ⟨i + 1, HIK.out, rfl, HY2.out⟩
            case measure => rw [k1]; exact round_lessN HIK.out
          · have td : ((m : Int) != (D : Int)) = true := by simpa using hdd
            obtain ⟨⟨qa, qn, qc, ql⟩, hq0, hql⟩ := HFA.out.1 m hmn hdd
            obtain ⟨hqp, hqn, _, _⟩ := (HR9.out.step HBM.out).parts (m, seg, row) _ hok3 hq0
            rw [HE.out.2.2.2.1] at hqn
            simp only at hqn hql
            obtain ⟨qb0, qo, hqa, _⟩ := hqp.1.2.2 (by show 0 < qn; omega)
            simp only at hqa
            subst hqn hqa
            have HQP := Lib.hid hqp
            have f6 : ∀ y : Wd C, (Instr.lookup 63 (.map (some pb)) (.agg #[.int .i64 (m : Int), .int .i64 (seg : Int), .int .i64 (row : Int)]) false).run Try.prog y.w = .ok (.slice (some ⟨qb0, qo, none⟩) (256 + 64) qc) y.w := fun y => by
              have h2 := (HR9.out.step (bel_trans HBM.out (HBC.out y))).pages.lookup keyF3 Try.underlying63 (zeroB y.w) (x := (m, seg, row)) hok3
              have h3 : (s'.pageV (m, seg, row)).getD (.slice none 0 0) = .slice (some ⟨qb0, qo, none⟩) (256 + 64) qc := by unfold RS.pageV; rw [hq0]; rfl
              rw [h3, HE.out.2.2.2.2.2.1] at h2
              exact h2
            obtain ⟨q0, hq⟩ : ∃ q, q = L.getD i SP.nil := ⟨_, rfl⟩
            have hdt : ql.take 256 = q0.d.l := by
              have := (data_at HST.out HLO.out.1 (by rw [HLO.out.2]; exact HN.out.2) HPP.out.2 hmn hmp).1
              rw [hql, hq, this, hsl]
            have hx1 : 320 ≤ qc := HQP.out.2.1
            have hx3 : qc ≤ 9223372036854775807 := by have := HQP.out.2.2.1; unfold maxLen at this; omega
            have hx4 : (256 : Int) ≤ (qc : Int) := by omega
            have f7 : ∀ y : Wd C, y.w.cell? ⟨lb, lo + i * 8 + 7, none⟩ = some (.slice q0.d.a q0.d.n q0.d.c) := fun y => by
              obtain ⟨lb', lo', hae, hpa⟩ := spage_at (HP9.out.step (bel_trans HBM.out (HBC.out y))).pg.1 (show i < L.length by rw [HLO.out.2]; exact HIK.out)
              cases hae
              rw [← hq] at hpa
              exact hpa.2.2.2.2.2.2.2
            have HSA : Hid (∀ y : Wd C, Calls Try.prog 16 #[.slice (some ⟨qb0, qo, none⟩) 256 qc, .slice q0.d.a q0.d.n q0.d.c] y.w fun e w' => e = .returned (.bool true) ∧ w' = y.w) := Lib.hid fun y => by
              have hrow : Row y.w (some ⟨qb0, qo, none⟩) (256 + 64) ql := row_keep HQP.out.1 (HBC.out y) (Nat.le_refl _)
              have hr2 : Row y.w q0.d.a q0.d.n q0.d.l := by rw [hq]; exact ((HP9.out.step (bel_trans HBM.out (HBC.out y))).pg.2 _ (sp_mem L i (by rw [HLO.out.2]; exact HIK.out))).1.1
              have := sameB_any (some ⟨qb0, qo, none⟩) 256 qc q0.d.a q0.d.n q0.d.c (ql.take 256) q0.d.l y.w (row_front hrow 256 (by omega)) hr2
              rw [decide_eq_true hdt] at this
              exact this
            clear hdt hq hq0 hql hqp
            clear hdd hok3 hmn hmp hsl hlt
            have k1 := wrap_step i (by have := HIK.out; have := HN.out; omega)
            go_upto_region 38 with fail
            refine wp_region_wd C (by kernel_rfl) (by as_aux_lemma => kernel_rfl) hC0 ?_
            repeat (go_big_quiet_step (fail))
            refine wpQuiet_nil ?_
            intro _ hw'
            obtain ⟨y, rfl⟩ := hw'
            have hC1 := HCD.out.2 _ (HCD.out.1 _ y.ok).drew
            go_upto_region 39 with fail
            refine wp_region_wd C (by kernel_rfl) (by as_aux_lemma => kernel_rfl) hC1 ?_
            repeat (go_big_quiet_step (first
              | (go_at_call 16; with_reducible exact Calls.wd_same (Wd.ok _) (HSA.out _))))
            refine wpQuiet_nil ?_
            intro _ hw''
            obtain ⟨y2, rfl⟩ := hw''
            have HY2 : Hid (Below w2.heap.size w2 y2.w) := Lib.hid (HCD.out.1 _ y2.ok)
            go_wp2
            go_roundw
            case rel => rw [k1]; exact ⟨i + 1, HIK.out, rfl, HY2.out⟩
            case measure => rw [k1]; exact round_lessN HIK.out
        · obtain rfl : i = k := by omega
          have q2 : decide ((i : Int) < (i : Int)) = false := by simp
          have q2' : decide (i < i) = false := by simp
          clear hlt hi
          go_wp2
          go_ret
          exact ⟨rfl, HWX.out _ (HX9.out _ (bel_trans HBM.out HWI.out))⟩
end Go.Proofs.Ytjljikhdhhmfcaa
