/- StagePlays: the walk. -/
import Derived.Test.YtallambldbhibaaStgKill
import Derived.Test.YtallambldbhibaaStageBlocksWalk
namespace Go.Proofs.Ytallambldbhibaa
open Go.RowKit Go.Deep

def cntW (wh i : Nat) : Nat → Nat := fun x => if x = wh then i else 0
def numW : Nat → Nat → Nat := fun _ j => j
theorem cntW_at (wh i : Nat) : cntW wh i wh = i := by simp [cntW]
theorem cntW_not (wh i : Nat) (h : wh ≤ 1) : cntW wh i (1 - wh) = 0 := by
  unfold cntW
  rw [if_neg (by omega)]
theorem cntW_le (wh i x : Nat) : cntW wh i x ≤ i := by
  unfold cntW
  split <;> omega
theorem cntW_up (wh i : Nat) : (fun x => if x = wh then cntW wh i x + 1 else cntW wh i x) = cntW wh (i + 1) := by
  funext x
  unfold cntW
  by_cases h : x = wh <;> simp [h]
theorem cntW_z (wh : Nat) : (fun _ : Nat => 0) = cntW wh 0 := by
  funext x
  unfold cntW
  by_cases h : x = wh <;> simp [h]
theorem mod2_eq (x : Int) : ∃ i : Nat, i ≤ 1 ∧ wrap64 ((IntKind.u64.wrap x).tmod 2) = (i : Int) ∧ IntKind.i64.wrap ((IntKind.u64.wrap x).tmod 2) = (i : Int) := by
  have h2 : 0 ≤ IntKind.u64.wrap x := by rw [IntKind.wrap_u64]; omega
  have h3 : 0 ≤ (IntKind.u64.wrap x).tmod 2 := Int.tmod_nonneg _ h2
  have h4 : (IntKind.u64.wrap x).tmod 2 < 2 := Int.tmod_lt_of_pos _ (by omega)
  refine ⟨((IntKind.u64.wrap x).tmod 2).toNat, by omega, ?_, ?_⟩
  · rw [IntWalk.wrap64_in _ (by omega)]; omega
  · rw [IntKind.wrap_i64]; omega
theorem dead_mod (dv : Int) (N : Nat) (h : 0 ≤ dv) (hN : 3 ≤ N) (hN8 : N ≤ 8) : ∃ D : Nat, D < N ∧ D ≤ 8 ∧ dv.tmod (N : Int) = (D : Int) ∧ wrap64 (D : Int) = (D : Int) ∧ IntKind.i64.wrap (D : Int) = (D : Int) := by
  obtain ⟨d, rfl⟩ : ∃ d : Nat, dv = (d : Int) := ⟨dv.toNat, by omega⟩
  have h1 : d % N < N := Nat.mod_lt _ (by omega)
  refine ⟨d % N, h1, by omega, ?_, ?_, ?_⟩
  · rw [Int.tmod_eq_emod_of_nonneg (by omega)]
    simp
  · generalize d % N = z at h1 ⊢
    exact IntWalk.wrap64_in _ (by omega)
  · generalize d % N = z at h1 ⊢
    rw [IntKind.wrap_i64]; omega
set_option maxRecDepth 100000 in
set_option maxHeartbeats 4000000 in
theorem stagePlays_none (ch wv nv dv fv : Int) (c : Nat) (w : World) (hc : c < 256) (hdv : dv < 0) :
    Calls Try.prog 8 #[.agg #[.int .i64 ch, .int .i64 wv, .int .i64 nv, .int .i64 dv, .int .i64 fv, .int .u8 (c : Int)]] w fun e w' => e = .returned (.bool true) ∧ Below w.heap.size w w' := by
  have HSH := Lib.hid fun x : World => stgShapeL_any ch x
  have HTW := Lib.hid twice_any
  obtain ⟨N, P, R, hN, hP, hR, hN3, hN8, hP1, hP4, hRoom, p1, p1', p2, p3, hgood⟩ := stgHead ch
  rw [← hN] at HSH
  have HNW := Lib.hid fun x : World => ramNew_any N 20 5 256 x hgood
  rw [show ((20 : Nat) : Int) = 20 from rfl, show ((5 : Nat) : Int) = 5 from rfl, show ((256 : Nat) : Int) = 256 from rfl] at HNW
  obtain ⟨n, hn, un, un'⟩ := modn_eq R nv (by omega)
  obtain ⟨wh, hwh, uw, uw'⟩ := mod2_eq wv
  have u0 : IntKind.u64.wrap ((R : Int) + 1) = (R : Int) + 1 := by rw [IntKind.wrap_u64]; omega
  have nz : (R : Int) + 1 ≠ 0 := by omega
  have nz' : ((R : Int) + 1 == 0) = false := by simp; omega
  have hR20 : R ≤ 20 := by omega
  obtain ⟨D, hD⟩ : ∃ D, D = N := ⟨_, rfl⟩
  have HDN := Lib.hid hD
  have hD8 : D ≤ 8 := by rw [hD]; exact hN8
  have q0 : decide ((0 : Int) ≤ dv) = false := by simp; omega
  have q00 : decide (dv < 0) = true := by simpa using hdv
  have HRB : Hid (n ≤ 20 ∧ n ≤ R ∧ wh ≤ 1 ∧ D ≤ 8) := Lib.hid ⟨Nat.le_trans hn hR20, hn, hwh, hD8⟩
  have HRR := Lib.hid hRoom
  clear hN hP hR hN8 hP1 hP4 hRoom hn hwh hgood hN3 hD8 hD
  go_enter Try.func8, Try.ntmps8
  go_upto_region 1 with fail
  have l0 := heap_alloc_new w (.cells #[.int .i64 ch, .int .i64 wv, .int .i64 nv, .int .i64 dv, .int .i64 fv, .int .u8 (c : Int)] 95)
  have hb0 := bel_alloc (Below.refl _ w) (.cells #[.int .i64 ch, .int .i64 wv, .int .i64 nv, .int .i64 dv, .int .i64 fv, .int .u8 (c : Int)] 95)
  obtain ⟨w0, hw0⟩ : ∃ x, x = w.alloc (.cells #[.int .i64 ch, .int .i64 wv, .int .i64 nv, .int .i64 dv, .int .i64 fv, .int .u8 (c : Int)] 95) := ⟨_, rfl⟩
  obtain ⟨cb, hcb⟩ : ∃ x, x = w.heap.size := ⟨_, rfl⟩
  rw [← hw0, ← hcb] at l0
  rw [← hw0] at hb0
  rw [← hw0, ← hcb]
  have hc6 : ∀ W : World, W.heap[cb]? = some (.cells #[.int .i64 ch, .int .i64 wv, .int .i64 nv, .int .i64 dv, .int .i64 fv, .int .u8 (c : Int)] 95 (0, 0)) → W.cell? ⟨cb, 0, none⟩ = some (.int .i64 ch) ∧ W.cell? ⟨cb, 1, none⟩ = some (.int .i64 wv) ∧ W.cell? ⟨cb, 2, none⟩ = some (.int .i64 nv) ∧ W.cell? ⟨cb, 3, none⟩ = some (.int .i64 dv) ∧ W.cell? ⟨cb, 4, none⟩ = some (.int .i64 fv) ∧ W.cell? ⟨cb, 5, none⟩ = some (.int .u8 (c : Int)) := fun W h => by simp [World.cell?, h]
  obtain ⟨c0, c1, c2, c3, c4, c5⟩ := hc6 _ l0
  have HB0 := Lib.hid hb0
  clear hw0 hcb hb0 l0 hc6
  go_quiet (fail)
  have HB1 := Lib.hid (bel_trans HB0.out (show Below w0.heap.size w0 (w0.drewN nq) from ⟨rfl, rfl, rfl, Nat.le_refl _, fun _ _ => rfl⟩))
  obtain ⟨w1, hw1⟩ : ∃ x, x = w0.drewN nq := ⟨_, rfl⟩
  rw [← hw1] at HB1 ⊢
  clear hw1 c0 c1 c2 c3 c4 c5
  go_wp2_with fail
  ((with_reducible refine (HTW.out _).mono ?_))
  rintro e w2 ⟨rfl, hb2⟩
  have HB2 := Lib.hid (bel_trans HB1.out hb2)
  clear hb2
  go_wp2_with fail
  ((with_reducible refine (HSH.out _).mono ?_))
  rintro e w3 ⟨rfl, hb3⟩
  have l4 := heap_alloc_new w3 (.cells #[.int .i64 (N : Int), .int .i64 20, .int .i64 5, .int .i64 256] 54)
  have hb4 := bel_trans HB2.out (bel_trans hb3 (bel_alloc (Below.refl _ w3) (.cells #[.int .i64 (N : Int), .int .i64 20, .int .i64 5, .int .i64 256] 54)))
  go_upto_region 5 with fail
  obtain ⟨w4, hw4⟩ : ∃ x, x = w3.alloc (.cells #[.int .i64 (N : Int), .int .i64 20, .int .i64 5, .int .i64 256] 54) := ⟨_, rfl⟩
  obtain ⟨gb, hgb⟩ : ∃ x, x = w3.heap.size := ⟨_, rfl⟩
  rw [← hw4, ← hgb] at l4
  rw [← hw4] at hb4
  rw [← hw4, ← hgb]
  have HL4 := Lib.hid l4
  have HB4 := Lib.hid hb4
  obtain ⟨g0, g1, g2, g3⟩ := four_at l4
  clear hw4 hgb l4 hb3 hb4
  go_wp2_with fail
  ((with_reducible refine (HNW.out _).mono ?_))
  rintro e w5 ⟨rb, pb, gb2, rfl, hr5, hb5⟩
  have HB5 := Lib.hid (bel_trans HB4.out hb5)
  obtain ⟨B, hB⟩ : ∃ B, B = w4.heap.size := ⟨_, rfl⟩
  rw [← hB] at hr5
  have HI : Hid (StgI B rb N c D (cntW wh 0) numW (rsNew rb pb gb2 N 20 5 256) w5) := Lib.hid (by rw [← cntW_z]; exact stgI_new hr5 (by rw [hB]; exact hb5.size) D)
  have HWB : Hid (w.heap.size ≤ B) := Lib.hid (by rw [hB]; exact HB4.out.size)
  have HGB : Hid (gb < B ∧ w5.heap[gb]? = some (.cells #[.int .i64 (N : Int), .int .i64 20, .int .i64 5, .int .i64 256] 54 (0, 0))) := Lib.hid ⟨by rw [hB]; exact (Array.getElem?_eq_some_iff.1 HL4.out).1, (hb5.block _ (Array.getElem?_eq_some_iff.1 HL4.out).1).trans HL4.out⟩
  have HW5 : Hid (∀ x : World, Below B w5 x → w5.heap.size ≤ x.heap.size) := Lib.hid fun x hx => hx.size
  clear g0 g1 g2 g3 hb5 hr5 hB HL4
  obtain ⟨g0, g1, g2, g3⟩ := four_at HGB.out.2
  go_wp2_with fail
  clear g0 g1 g2 g3 u0 nz nz' un un' uw uw' p1 p1' p2 p3
  have hn20 : n ≤ 20 := HRB.out.1
  have hwh1 : wh ≤ 1 := HRB.out.2.2.1
  trace_state
  go_loopw [11] (fun iv wr => ∃ (i : Nat) (s' : RS), i ≤ n ∧ iv = .int .i64 (i : Int) ∧ StgI B rb N c D (cntW wh i) numW s' wr ∧ Below B w5 wr) (fun iv _ => (n - intOf iv).toNat)
  case atStart => exact ⟨0, _, Nat.zero_le _, rfl, HI.out, Below.refl _ _⟩
  case round =>
    obtain ⟨i, s', hi, rfl, hI, hbw⟩ := hrel
    have HJ := Lib.hid hI
    have HBW := Lib.hid hbw
    clear hI hbw HI
    by_cases hlt : i < n
    · have t1 : decide (i < n) = true := by simpa using hlt
      have t1' : decide ((i : Int) < (n : Int)) = true := by simpa using hlt
      have HPG := Lib.hid fun x : World => stgPage_any i c x (by have := HRB.out; omega) hc
      obtain ⟨fb, hfb⟩ : ∃ b, b = ((i : Int) == fv) := ⟨_, rfl⟩
      have q1 : ((i : Int) == fv) = fb := hfb.symm
      clear hfb
      cases fb with
      | true =>
        go_wp2_with fail
        ((with_reducible refine (HPG.out _).mono ?_))
        rintro e w8 ⟨E, rfl, f1, f2, f3, f4, hb8⟩
        have HPU : Hid (Calls Try.prog 42 #[.iface 56 (.pointer (some ⟨rb, 0, none⟩)), .int .i64 (wh : Int), .int .i64 (i : Int), .agg #[.int .u8 4, .int .u32 (c : Int), .int .u32 0, .int .u16 0, .int .u16 0, .int .u32 ((i : Int)), .int .u32 0, .slice E.a E.n E.c]] w8 fun e w' => e = .returned (.int .i64 0) ∧ (∃ s', StgI B rb N c D (cntW wh (i + 1)) numW s' w') ∧ Below B w8 w') := Lib.hid (by
          have hpu := stgI_put (HJ.out.step hb8) wh i i HRB.out.2.2.1 (by simp [cntW]) (by rw [HRR.out]; have := HRB.out; omega) rfl (by have := HRB.out; omega) hc (by have h1 := cntW_le wh i 0; have h2 := cntW_le wh i 1; have := HRB.out; omega) E f1 f2 f3 (fun x hx => HJ.out.ram.fresh (f4 x hx))
          rw [cntW_up] at hpu
          exact hpu)
        have HB8 : Hid (Below B w5 w8) := Lib.hid (HBW.out.trans (hb8.mono HJ.out.lo))
        clear f1 f2 f3 f4 hb8
        go_wp2_with fail
        ((with_reducible refine HPU.out.mono ?_))
        rintro e w9 ⟨rfl, hI9, hb9⟩
        have HI9 := Lib.hid hI9
        have HB9 := Lib.hid (HB8.out.trans hb9)
        clear hI9 hb9
        go_wp2
        go_roundw
        case rel =>
          obtain ⟨s9, h9⟩ := HI9.out
          exact ⟨i + 1, s9, by omega, by go_num, h9, HB9.out⟩
        case measure => simp [intOf]; omega
      | false =>
        go_wp2_with fail
        ((with_reducible refine (HPG.out _).mono ?_))
        rintro e w8 ⟨E, rfl, f1, f2, f3, f4, hb8⟩
        have HPU : Hid (Calls Try.prog 42 #[.iface 56 (.pointer (some ⟨rb, 0, none⟩)), .int .i64 (wh : Int), .int .i64 (i : Int), .agg #[.int .u8 4, .int .u32 (c : Int), .int .u32 0, .int .u16 0, .int .u16 0, .int .u32 ((i : Int)), .int .u32 0, .slice E.a E.n E.c]] w8 fun e w' => e = .returned (.int .i64 0) ∧ (∃ s', StgI B rb N c D (cntW wh (i + 1)) numW s' w') ∧ Below B w8 w') := Lib.hid (by
          have hpu := stgI_put (HJ.out.step hb8) wh i i HRB.out.2.2.1 (by simp [cntW]) (by rw [HRR.out]; have := HRB.out; omega) rfl (by have := HRB.out; omega) hc (by have h1 := cntW_le wh i 0; have h2 := cntW_le wh i 1; have := HRB.out; omega) E f1 f2 f3 (fun x hx => HJ.out.ram.fresh (f4 x hx))
          rw [cntW_up] at hpu
          exact hpu)
        have HB8 : Hid (Below B w5 w8) := Lib.hid (HBW.out.trans (hb8.mono HJ.out.lo))
        clear f1 f2 f3 f4 hb8
        go_wp2_with fail
        ((with_reducible refine HPU.out.mono ?_))
        rintro e w9 ⟨rfl, hI9, hb9⟩
        have HI9 := Lib.hid hI9
        have HB9 := Lib.hid (HB8.out.trans hb9)
        clear hI9 hb9
        go_wp2
        go_roundw
        case rel =>
          obtain ⟨s9, h9⟩ := HI9.out
          exact ⟨i + 1, s9, by omega, by go_num, h9, HB9.out⟩
        case measure => simp [intOf]; omega
    · obtain rfl : i = n := by omega
      have t1 : decide (i < i) = false := by simp
      have t1' : decide ((i : Int) < (i : Int)) = false := by simp
      clear hlt hi
      obtain ⟨n, hnn⟩ : ∃ n, n = i := ⟨_, rfl⟩
      subst hnn
      have HDD : Hid (∀ m, m < N → (s'.gone m = 0 ↔ m ≠ D)) := Lib.hid fun m hm => ⟨fun _ => by have := HDN.out; omega, fun q => HJ.out.gone m q⟩
      obtain ⟨wm, hwm⟩ : ∃ x : World, x = wr := ⟨_, rfl⟩
      subst hwm
      have HALW : Hid (∀ x : World, Below wm.heap.size wm x → Calls Try.prog 44 #[.iface 56 (.pointer (some ⟨rb, 0, none⟩)), .int .i64 (wh : Int)] x fun e w' => ∃ sv, e = .returned (.tuple #[sv, .int .i64 0]) ∧ AllPg (fun j => j) c n sv w' ∧ Below x.heap.size x w') := Lib.hid fun x hx => by
        have h := stgI_all (HJ.out.step hx) wh HRB.out.2.2.1 hc HDD.out (by rw [cntW_at, HRR.out]; exact HRB.out.2.1) (fun j hj => by rw [cntW_at] at hj; have := HRB.out; show j ≤ 1000; omega)
        rw [cntW_at] at h
        exact h
      have HALV : Hid (∀ x : World, Below wm.heap.size wm x → Calls Try.prog 44 #[.iface 56 (.pointer (some ⟨rb, 0, none⟩)), .int .i64 (1 - (wh : Int))] x fun e w' => ∃ sv, e = .returned (.tuple #[sv, .int .i64 0]) ∧ AllPg (fun j => j) c 0 sv w' ∧ Below x.heap.size x w') := Lib.hid fun x hx => by
        have h := stgI_all (HJ.out.step hx) (1 - wh) (by omega) hc HDD.out (by rw [cntW_not _ _ HRB.out.2.2.1]; exact Nat.zero_le _) (fun j hj => by rw [cntW_not _ _ HRB.out.2.2.1] at hj; omega)
        rw [cntW_not _ _ HRB.out.2.2.1, show ((1 - wh : Nat) : Int) = 1 - (wh : Int) by have := HRB.out; omega] at h
        exact h
      have HGET : Hid (∀ (x : World) (i : Nat), Below wm.heap.size wm x → i < n → Calls Try.prog 45 #[.iface 56 (.pointer (some ⟨rb, 0, none⟩)), .int .i64 (wh : Int), .int .i64 (i : Int)] x fun e w' => ∃ E : PS, e = .returned (.tuple #[.agg #[.int .u8 4, .int .u32 (c : Int), .int .u32 0, .int .u16 0, .int .u16 0, .int .u32 ((i : Int)), .int .u32 0, .slice E.a E.n E.c], .int .i64 0]) ∧ E.l = pgL i c ∧ PartOk w' E ∧ Far x.heap.size E ∧ Below x.heap.size x w') := Lib.hid fun x i hx hi =>
        stgI_get (HJ.out.step hx) wh i i HRB.out.2.2.1 hc HDD.out (by rw [cntW_at]; exact hi) (by rw [cntW_at, HRR.out]; exact HRB.out.2.1) (fun j hj => by rw [cntW_at] at hj; have := HRB.out; show j ≤ 1000; omega) rfl
      have hv1 : IntKind.i64.wrap (1 - (wh : Int)) = 1 - (wh : Int) := by have := HRB.out; rw [IntKind.wrap_i64]; omega
      have hv2 : wrap64 (1 - (wh : Int)) = 1 - (wh : Int) := IntWalk.wrap64_in _ (by have := HRB.out; omega)
      go_wp2_with fail
      ((with_reducible refine (HALW.out _ (Below.refl _ _)).mono ?_))
      rintro e wa ⟨sva, rfl, hala, hba⟩
      have HAGA := Lib.hid hala
      have HBa := Lib.hid hba
      clear hala hba
      go_wp2_with fail
      ((with_reducible refine (HALV.out _ HBa.out).mono ?_))
      rintro e wb ⟨svb, rfl, halb, hbb⟩
      have HAGB := Lib.hid (HAGA.out.step hbb)
      have HBb := Lib.hid (bel_trans HBa.out hbb)
      obtain ⟨la, lc, EL, rfl, hlx1, hlx2⟩ := HAGB.out
      have LX := Lib.hid (And.intro hlx1 hlx2)
      obtain ⟨ma, mc, EM, rfl, _, _⟩ := halb
      have k1 : ((n : Int) != (n : Int)) = false := by simp
      have k1' : (n != n) = false := by simp
      clear hlx1 hlx2 hbb HAGA HAGB HALW HALV hv1 hv2
      go_upto_region 22 with fail
      go_loopw [16] (fun iv wz => ∃ i : Nat, i ≤ n ∧ iv = .int .i64 (i : Int) ∧ Below wb.heap.size wb wz) (fun iv _ => (n - intOf iv).toNat)
      case atStart => exact ⟨0, Nat.zero_le _, rfl, Below.refl _ _⟩
      case round =>
        obtain ⟨i, hi, rfl, hbz⟩ := hrel
        have HBZ := Lib.hid hbz
        clear hbz
        by_cases hlt : i < n
        · have t1 : decide (i < n) = true := by simpa using hlt
          have t1' : decide ((i : Int) < (n : Int)) = true := by simpa using hlt
          have HGI := Lib.hid (HGET.out wr i (bel_trans HBb.out HBZ.out) hlt)
          obtain ⟨b, off, hla, hcs⟩ := LX.out.1 (by omega)
          have HCS := Lib.hid (hcs i hlt)
          have HPE := Lib.hid (LX.out.2 i hlt)
          subst hla
          have HPG := Lib.hid fun x : World => stgPage_any i c x (by have := HRB.out; omega) hc
          clear hcs
          go_wp2_with fail
          ((with_reducible refine HGI.out.mono ?_))
          rintro e wc ⟨E, rfl, f1, f2, f3, hbc⟩
          have l6 := heap_alloc_new wc (.cells #[.int .u8 4, .int .u32 (c : Int), .int .u32 0, .int .u16 0, .int .u16 0, .int .u32 ((i : Int)), .int .u32 0, .slice E.a E.n E.c] 77)
          have hb6 := bel_trans hbc (bel_alloc (Below.refl _ wc) (.cells #[.int .u8 4, .int .u32 (c : Int), .int .u32 0, .int .u16 0, .int .u16 0, .int .u32 ((i : Int)), .int .u32 0, .slice E.a E.n E.c] 77))
          have HE6 := Lib.hid (And.intro f1 (f2.step (bel_alloc (Below.refl _ wc) (.cells #[.int .u8 4, .int .u32 (c : Int), .int .u32 0, .int .u16 0, .int .u16 0, .int .u32 ((i : Int)), .int .u32 0, .slice E.a E.n E.c] 77))))
          clear f1 f2 f3 hbc
          go_upto_region 25 with fail
          obtain ⟨wd, hwd⟩ : ∃ x, x = wc.alloc (.cells #[.int .u8 4, .int .u32 (c : Int), .int .u32 0, .int .u16 0, .int .u16 0, .int .u32 ((i : Int)), .int .u32 0, .slice E.a E.n E.c] 77) := ⟨_, rfl⟩
          obtain ⟨eb, heb⟩ : ∃ x, x = wc.heap.size := ⟨_, rfl⟩
          rw [← hwd, ← heb] at l6
          rw [← hwd] at hb6 HE6
          rw [← hwd, ← heb]
          have HBD := Lib.hid (bel_trans HBZ.out hb6)
          have HCC : Hid (∀ x : World, Below wd.heap.size wd x → (x.cell? ⟨eb, 0, none⟩ = some (.int .u8 4) ∧ x.cell? ⟨eb, 1, none⟩ = some (.int .u32 (c : Int)) ∧ x.cell? ⟨eb, 2, none⟩ = some (.int .u32 0) ∧ x.cell? ⟨eb, 3, none⟩ = some (.int .u16 0) ∧ x.cell? ⟨eb, 4, none⟩ = some (.int .u16 0) ∧ x.cell? ⟨eb, 5, none⟩ = some (.int .u32 ((i : Int))) ∧ x.cell? ⟨eb, 6, none⟩ = some (.int .u32 0) ∧ x.cell? ⟨eb, 7, none⟩ = some (.slice (E).a (E).n (E).c) ∧ x.cell? ⟨b, off + i * 8, none⟩ = some (.int .u8 4) ∧ x.cell? ⟨b, off + i * 8 + 1, none⟩ = some (.int .u32 (c : Int)) ∧ x.cell? ⟨b, off + i * 8 + 2, none⟩ = some (.int .u32 0) ∧ x.cell? ⟨b, off + i * 8 + 3, none⟩ = some (.int .u16 0) ∧ x.cell? ⟨b, off + i * 8 + 4, none⟩ = some (.int .u16 0) ∧ x.cell? ⟨b, off + i * 8 + 5, none⟩ = some (.int .u32 ((i : Int))) ∧ x.cell? ⟨b, off + i * 8 + 6, none⟩ = some (.int .u32 0) ∧ x.cell? ⟨b, off + i * 8 + 7, none⟩ = some (.slice (EL i).a (EL i).n (EL i).c))) := Lib.hid fun x hx => by
            obtain ⟨a0, a1, a2, a3, a4, a5, a6, a7⟩ := eight_at ((hx.block _ (Array.getElem?_eq_some_iff.1 l6).1).trans l6)
            obtain ⟨d0, d1, d2, d3, d4, d5, d6, d7⟩ := (HCS.out.step HBD.out).step hx
            exact ⟨a0, a1, a2, a3, a4, a5, a6, a7, d0, d1, d2, d3, d4, d5, d6, d7⟩
          have HSM1 : Hid (∀ (x : World) (G : PS), Below wd.heap.size wd x → PartOk x G → G.l = pgL i c → Calls Try.prog 46 #[.agg #[.int .u8 4, .int .u32 (c : Int), .int .u32 0, .int .u16 0, .int .u16 0, .int .u32 ((i : Int)), .int .u32 0, .slice E.a E.n E.c], .agg #[.int .u8 4, .int .u32 (c : Int), .int .u32 0, .int .u16 0, .int .u16 0, .int .u32 ((i : Int)), .int .u32 0, .slice G.a G.n G.c]] x fun e w' => e = .returned (.bool true) ∧ Below x.heap.size x w') := Lib.hid fun x G hx hG hl => samePg_any i c E G x (HE6.out.2.step hx) hG (HE6.out.1.trans hl.symm)
          have HSM2 : Hid (∀ (x : World) (G : PS), Below wd.heap.size wd x → PartOk x G → G.l = pgL i c → Calls Try.prog 46 #[.agg #[.int .u8 4, .int .u32 (c : Int), .int .u32 0, .int .u16 0, .int .u16 0, .int .u32 ((i : Int)), .int .u32 0, .slice (EL i).a (EL i).n (EL i).c], .agg #[.int .u8 4, .int .u32 (c : Int), .int .u32 0, .int .u16 0, .int .u16 0, .int .u32 ((i : Int)), .int .u32 0, .slice G.a G.n G.c]] x fun e w' => e = .returned (.bool true) ∧ Below x.heap.size x w') := Lib.hid fun x G hx hG hl => samePg_any i c (EL i) G x ((HPE.out.1.step HBD.out).step hx) hG (HPE.out.2.trans hl.symm)
          have HB0 : Hid (Below wd.heap.size wd wd.drew) := Lib.hid (Below.refl _ _).drew
          have hS0 := HCC.out wd.drew HB0.out
          have i0 : (0 : Int) ≤ (i : Int) := by omega
          have i1 : (i : Int) < (n : Int) := by omega
          clear l6 hb6 hwd heb
          go_wp2_with fail
          go_region_held3 (fun x => x.cell? ⟨eb, 0, none⟩ = some (.int .u8 4) ∧ x.cell? ⟨eb, 1, none⟩ = some (.int .u32 (c : Int)) ∧ x.cell? ⟨eb, 2, none⟩ = some (.int .u32 0) ∧ x.cell? ⟨eb, 3, none⟩ = some (.int .u16 0) ∧ x.cell? ⟨eb, 4, none⟩ = some (.int .u16 0) ∧ x.cell? ⟨eb, 5, none⟩ = some (.int .u32 ((i : Int))) ∧ x.cell? ⟨eb, 6, none⟩ = some (.int .u32 0) ∧ x.cell? ⟨eb, 7, none⟩ = some (.slice (E).a (E).n (E).c) ∧ x.cell? ⟨b, off + i * 8, none⟩ = some (.int .u8 4) ∧ x.cell? ⟨b, off + i * 8 + 1, none⟩ = some (.int .u32 (c : Int)) ∧ x.cell? ⟨b, off + i * 8 + 2, none⟩ = some (.int .u32 0) ∧ x.cell? ⟨b, off + i * 8 + 3, none⟩ = some (.int .u16 0) ∧ x.cell? ⟨b, off + i * 8 + 4, none⟩ = some (.int .u16 0) ∧ x.cell? ⟨b, off + i * 8 + 5, none⟩ = some (.int .u32 ((i : Int))) ∧ x.cell? ⟨b, off + i * 8 + 6, none⟩ = some (.int .u32 0) ∧ x.cell? ⟨b, off + i * 8 + 7, none⟩ = some (.slice (EL i).a (EL i).n (EL i).c))
            (first | with_reducible exact hS0 | with_reducible exact hS1 | with_reducible exact hS2 | with_reducible exact hS3 | with_reducible exact hS4 | go_keep)
            (first
              | (go_simp; go_at_call 43; ((with_reducible refine (HPG.out wd.drew).mono ?_)); (intro e w31 hr; obtain ⟨G, rfl, g1, g2, g3, g4, hb31⟩ := hr; have HB31 := Lib.hid (bel_trans HB0.out hb31); have HGG := Lib.hid (And.intro g1 g3); have hS1 := HCC.out w31 HB31.out; clear g1 g2 g3 g4 hb31))
              | (go_simp; go_at_call 46; ((with_reducible refine (HSM2.out w33 G2 HB33.out HGG2.out.2 HGG2.out.1).mono ?_)); (intro e w34 hr; obtain ⟨rfl, hb34⟩ := hr; have HB34 := Lib.hid (bel_trans HB33.out hb34); have hS4 := HCC.out w34 HB34.out; clear hb34))
              | (go_simp; go_at_call 46; ((with_reducible refine (HSM1.out w31 G HB31.out HGG.out.2 HGG.out.1).mono ?_)); (intro e w32 hr; obtain ⟨rfl, hb32⟩ := hr; have HB32 := Lib.hid (bel_trans HB31.out hb32); have hS2 := HCC.out w32 HB32.out; clear hb32))
              | (go_simp; go_at_call 43; ((with_reducible refine (HPG.out w32).mono ?_)); (intro e w33 hr; obtain ⟨G2, rfl, g1, g2, g3, g4, hb33⟩ := hr; have HB33 := Lib.hid (bel_trans HB32.out hb33); have HGG2 := Lib.hid (And.intro g1 g3); have hS3 := HCC.out w33 HB33.out; clear g1 g2 g3 g4 hb33)))
          all_goals
            clear hS0 hS1 hS2 hS3 hS4
            go_wp2
            go_roundw
            case rel => exact ⟨i + 1, by omega, by go_num, bel_trans HBD.out HB34.out⟩
            case measure => simp [intOf]; omega
        · obtain rfl : i = n := by omega
          have t1 : decide (i < i) = false := by simp
          have t1' : decide ((i : Int) < (i : Int)) = false := by simp
          clear hlt
          go_wp2
          go_ret
          exact ⟨rfl, (bel_trans HB5.out (Below.refl _ w5)).trans (HBW.out.mono HWB.out) |>.trans ((bel_trans HBb.out HBZ.out).mono (Nat.le_trans HB5.out.size (HW5.out wm HBW.out)))⟩

set_option maxRecDepth 100000 in
set_option maxHeartbeats 4000000 in
theorem stagePlays_some (ch wv nv dv fv : Int) (c : Nat) (w : World) (hc : c < 256) (hdv : 0 ≤ dv) :
    Calls Try.prog 8 #[.agg #[.int .i64 ch, .int .i64 wv, .int .i64 nv, .int .i64 dv, .int .i64 fv, .int .u8 (c : Int)]] w fun e w' => e = .returned (.bool true) ∧ Below w.heap.size w w' := by
  have HSH := Lib.hid fun x : World => stgShapeL_any ch x
  have HTW := Lib.hid twice_any
  obtain ⟨N, P, R, hN, hP, hR, hN3, hN8, hP1, hP4, hRoom, p1, p1', p2, p3, hgood⟩ := stgHead ch
  rw [← hN] at HSH
  have HNW := Lib.hid fun x : World => ramNew_any N 20 5 256 x hgood
  rw [show ((20 : Nat) : Int) = 20 from rfl, show ((5 : Nat) : Int) = 5 from rfl, show ((256 : Nat) : Int) = 256 from rfl] at HNW
  obtain ⟨n, hn, un, un'⟩ := modn_eq R nv (by omega)
  obtain ⟨wh, hwh, uw, uw'⟩ := mod2_eq wv
  have u0 : IntKind.u64.wrap ((R : Int) + 1) = (R : Int) + 1 := by rw [IntKind.wrap_u64]; omega
  have nz : (R : Int) + 1 ≠ 0 := by omega
  have nz' : ((R : Int) + 1 == 0) = false := by simp; omega
  have hR20 : R ≤ 20 := by omega
  have q0 : decide ((0 : Int) ≤ dv) = true := by simpa using hdv
  have nN : (N : Int) ≠ 0 := by omega
  have nN' : ((N : Int) == 0) = false := by simp; omega
  have nN0 : ¬ N = 0 := by omega
  obtain ⟨D, hDN, hD8, r2, r3, r4⟩ := dead_mod dv N hdv hN3 hN8
  clear hdv
  have HRB : Hid (n ≤ 20 ∧ n ≤ R ∧ wh ≤ 1 ∧ D ≤ 8) := Lib.hid ⟨Nat.le_trans hn hR20, hn, hwh, hD8⟩
  have HRR := Lib.hid hRoom
  clear hN hP hR hN8 hP1 hP4 hRoom hn hwh hgood hN3 hD8 
  go_enter Try.func8, Try.ntmps8
  go_upto_region 1 with fail
  have l0 := heap_alloc_new w (.cells #[.int .i64 ch, .int .i64 wv, .int .i64 nv, .int .i64 dv, .int .i64 fv, .int .u8 (c : Int)] 95)
  have hb0 := bel_alloc (Below.refl _ w) (.cells #[.int .i64 ch, .int .i64 wv, .int .i64 nv, .int .i64 dv, .int .i64 fv, .int .u8 (c : Int)] 95)
  obtain ⟨w0, hw0⟩ : ∃ x, x = w.alloc (.cells #[.int .i64 ch, .int .i64 wv, .int .i64 nv, .int .i64 dv, .int .i64 fv, .int .u8 (c : Int)] 95) := ⟨_, rfl⟩
  obtain ⟨cb, hcb⟩ : ∃ x, x = w.heap.size := ⟨_, rfl⟩
  rw [← hw0, ← hcb] at l0
  rw [← hw0] at hb0
  rw [← hw0, ← hcb]
  have hc6 : ∀ W : World, W.heap[cb]? = some (.cells #[.int .i64 ch, .int .i64 wv, .int .i64 nv, .int .i64 dv, .int .i64 fv, .int .u8 (c : Int)] 95 (0, 0)) → W.cell? ⟨cb, 0, none⟩ = some (.int .i64 ch) ∧ W.cell? ⟨cb, 1, none⟩ = some (.int .i64 wv) ∧ W.cell? ⟨cb, 2, none⟩ = some (.int .i64 nv) ∧ W.cell? ⟨cb, 3, none⟩ = some (.int .i64 dv) ∧ W.cell? ⟨cb, 4, none⟩ = some (.int .i64 fv) ∧ W.cell? ⟨cb, 5, none⟩ = some (.int .u8 (c : Int)) := fun W h => by simp [World.cell?, h]
  obtain ⟨c0, c1, c2, c3, c4, c5⟩ := hc6 _ l0
  have HB0 := Lib.hid hb0
  clear hw0 hcb hb0 l0 hc6
  go_quiet (fail)
  have HB1 := Lib.hid (bel_trans HB0.out (show Below w0.heap.size w0 (w0.drewN nq) from ⟨rfl, rfl, rfl, Nat.le_refl _, fun _ _ => rfl⟩))
  obtain ⟨w1, hw1⟩ : ∃ x, x = w0.drewN nq := ⟨_, rfl⟩
  rw [← hw1] at HB1 ⊢
  clear hw1 c0 c1 c2 c3 c4 c5
  go_wp2_with fail
  ((with_reducible refine (HTW.out _).mono ?_))
  rintro e w2 ⟨rfl, hb2⟩
  have HB2 := Lib.hid (bel_trans HB1.out hb2)
  clear hb2
  go_wp2_with fail
  ((with_reducible refine (HSH.out _).mono ?_))
  rintro e w3 ⟨rfl, hb3⟩
  have l4 := heap_alloc_new w3 (.cells #[.int .i64 (N : Int), .int .i64 20, .int .i64 5, .int .i64 256] 54)
  have hb4 := bel_trans HB2.out (bel_trans hb3 (bel_alloc (Below.refl _ w3) (.cells #[.int .i64 (N : Int), .int .i64 20, .int .i64 5, .int .i64 256] 54)))
  go_upto_region 5 with fail
  obtain ⟨w4, hw4⟩ : ∃ x, x = w3.alloc (.cells #[.int .i64 (N : Int), .int .i64 20, .int .i64 5, .int .i64 256] 54) := ⟨_, rfl⟩
  obtain ⟨gb, hgb⟩ : ∃ x, x = w3.heap.size := ⟨_, rfl⟩
  rw [← hw4, ← hgb] at l4
  rw [← hw4] at hb4
  rw [← hw4, ← hgb]
  have HL4 := Lib.hid l4
  have HB4 := Lib.hid hb4
  obtain ⟨g0, g1, g2, g3⟩ := four_at l4
  clear hw4 hgb l4 hb3 hb4
  go_wp2_with fail
  ((with_reducible refine (HNW.out _).mono ?_))
  rintro e w5 ⟨rb, pb, gb2, rfl, hr5, hb5⟩
  have HB5 := Lib.hid (bel_trans HB4.out hb5)
  obtain ⟨B, hB⟩ : ∃ B, B = w4.heap.size := ⟨_, rfl⟩
  rw [← hB] at hr5
  have HI : Hid (StgI B rb N c D (cntW wh 0) numW (rsNew rb pb gb2 N 20 5 256) w5) := Lib.hid (by rw [← cntW_z]; exact stgI_new hr5 (by rw [hB]; exact hb5.size) D)
  have HWB : Hid (w.heap.size ≤ B) := Lib.hid (by rw [hB]; exact HB4.out.size)
  have HGB : Hid (gb < B ∧ w5.heap[gb]? = some (.cells #[.int .i64 (N : Int), .int .i64 20, .int .i64 5, .int .i64 256] 54 (0, 0))) := Lib.hid ⟨by rw [hB]; exact (Array.getElem?_eq_some_iff.1 HL4.out).1, (hb5.block _ (Array.getElem?_eq_some_iff.1 HL4.out).1).trans HL4.out⟩
  have HW5 : Hid (∀ x : World, Below B w5 x → w5.heap.size ≤ x.heap.size) := Lib.hid fun x hx => hx.size
  clear g0 g1 g2 g3 hb5 hr5 hB HL4
  obtain ⟨g0, g1, g2, g3⟩ := four_at HGB.out.2
  go_wp2_with fail
  clear g0 g1 g2 g3 u0 nz nz' un un' uw uw' p1 p1' p2 p3
  have hn20 : n ≤ 20 := HRB.out.1
  have hwh1 : wh ≤ 1 := HRB.out.2.2.1
  trace_state
  go_loopw [11] (fun iv wr => ∃ (i : Nat) (s' : RS), i ≤ n ∧ iv = .int .i64 (i : Int) ∧ StgI B rb N c D (cntW wh i) numW s' wr ∧ Below B w5 wr) (fun iv _ => (n - intOf iv).toNat)
  case atStart => exact ⟨0, _, Nat.zero_le _, rfl, HI.out, Below.refl _ _⟩
  case round =>
    obtain ⟨i, s', hi, rfl, hI, hbw⟩ := hrel
    have HJ := Lib.hid hI
    have HBW := Lib.hid hbw
    clear hI hbw HI
    by_cases hlt : i < n
    · have t1 : decide (i < n) = true := by simpa using hlt
      have t1' : decide ((i : Int) < (n : Int)) = true := by simpa using hlt
      have HPG := Lib.hid fun x : World => stgPage_any i c x (by have := HRB.out; omega) hc
      by_cases hfi : (i : Int) = fv
      · have q1 : ((i : Int) == fv) = true := by simpa using hfi
        clear hfi
        obtain ⟨w7, hup, hk7, hst7⟩ := stgI_kill (HJ.out.step (Below.refl _ wr).drew) (by have := HRB.out; omega : D ≤ 100000)
        have HJ7 := Lib.hid hk7
        have hbk := (hst7.below (HJ.out.step (Below.refl _ wr).drew).ram HJ.out.lo)
        have HB7 : Hid (Below B w5 w7) := Lib.hid (HBW.out.trans ((Below.refl B wr).drew.trans hbk))
        have hS0 : wr.drew.cell? ⟨rb, 5, none⟩ = some (.map (some s'.gb)) ∧ wr.drew.cell? ⟨gb, 0, none⟩ = some (.int .i64 (N : Int)) := ⟨by have := (HJ.out.step (Below.refl _ wr).drew).ram.c.2.2.2.2.2.1; rw [HJ.out.at_.1] at this; exact this, (four_at ((((HBW.out.trans (Below.refl B wr).drew).block gb HGB.out.1)).trans HGB.out.2)).1⟩
        have hS1 : w7.cell? ⟨rb, 5, none⟩ = some (.map (some s'.gb)) ∧ w7.cell? ⟨gb, 0, none⟩ = some (.int .i64 (N : Int)) := ⟨by have := HJ7.out.ram.c.2.2.2.2.2.1; rw [HJ7.out.at_.1] at this; exact this, (four_at ((HB7.out.block gb HGB.out.1).trans HGB.out.2)).1⟩
        clear hk7 hst7 hbk
        go_upto_region 12 with fail
        go_region_held3 (fun x => x.cell? ⟨rb, 5, none⟩ = some (.map (some s'.gb)) ∧ x.cell? ⟨gb, 0, none⟩ = some (.int .i64 (N : Int)))
          (first | with_reducible exact hS0 | with_reducible exact hS1 | go_keep) (fail)
        all_goals
          clear hS0 hS1 hup
          go_wp2_with fail
          ((with_reducible refine (HPG.out _).mono ?_))
          rintro e w8 ⟨E, rfl, f1, f2, f3, f4, hb8⟩
          have HPU : Hid (Calls Try.prog 42 #[.iface 56 (.pointer (some ⟨rb, 0, none⟩)), .int .i64 (wh : Int), .int .i64 (i : Int), .agg #[.int .u8 4, .int .u32 (c : Int), .int .u32 0, .int .u16 0, .int .u16 0, .int .u32 ((i : Int)), .int .u32 0, .slice E.a E.n E.c]] w8 fun e w' => e = .returned (.int .i64 0) ∧ (∃ s', StgI B rb N c D (cntW wh (i + 1)) numW s' w') ∧ Below B w8 w') := Lib.hid (by
            have hpu := stgI_put (HJ7.out.step hb8) wh i i HRB.out.2.2.1 (by simp [cntW]) (by rw [HRR.out]; have := HRB.out; omega) rfl (by have := HRB.out; omega) hc (by have h1 := cntW_le wh i 0; have h2 := cntW_le wh i 1; have := HRB.out; omega) E f1 f2 f3 (fun x hx => HJ7.out.ram.fresh (f4 x hx))
            rw [cntW_up] at hpu
            exact hpu)
          have HB8 : Hid (Below B w5 w8) := Lib.hid (HB7.out.trans (hb8.mono HJ7.out.lo))
          clear f1 f2 f3 f4 hb8
          go_wp2_with fail
          ((with_reducible refine HPU.out.mono ?_))
          rintro e w9 ⟨rfl, hI9, hb9⟩
          have HI9 := Lib.hid hI9
          have HB9 := Lib.hid (HB8.out.trans hb9)
          clear hI9 hb9
          go_wp2
          go_roundw
          case rel =>
            obtain ⟨s9, h9⟩ := HI9.out
            exact ⟨i + 1, s9, by omega, by go_num, h9, HB9.out⟩
          case measure => simp [intOf]; omega
      · have q1 : ((i : Int) == fv) = false := by simpa using hfi
        clear hfi
        go_wp2_with fail
        ((with_reducible refine (HPG.out _).mono ?_))
        rintro e w8 ⟨E, rfl, f1, f2, f3, f4, hb8⟩
        have HPU : Hid (Calls Try.prog 42 #[.iface 56 (.pointer (some ⟨rb, 0, none⟩)), .int .i64 (wh : Int), .int .i64 (i : Int), .agg #[.int .u8 4, .int .u32 (c : Int), .int .u32 0, .int .u16 0, .int .u16 0, .int .u32 ((i : Int)), .int .u32 0, .slice E.a E.n E.c]] w8 fun e w' => e = .returned (.int .i64 0) ∧ (∃ s', StgI B rb N c D (cntW wh (i + 1)) numW s' w') ∧ Below B w8 w') := Lib.hid (by
          have hpu := stgI_put (HJ.out.step hb8) wh i i HRB.out.2.2.1 (by simp [cntW]) (by rw [HRR.out]; have := HRB.out; omega) rfl (by have := HRB.out; omega) hc (by have h1 := cntW_le wh i 0; have h2 := cntW_le wh i 1; have := HRB.out; omega) E f1 f2 f3 (fun x hx => HJ.out.ram.fresh (f4 x hx))
          rw [cntW_up] at hpu
          exact hpu)
        have HB8 : Hid (Below B w5 w8) := Lib.hid (HBW.out.trans (hb8.mono HJ.out.lo))
        clear f1 f2 f3 f4 hb8
        go_wp2_with fail
        ((with_reducible refine HPU.out.mono ?_))
        rintro e w9 ⟨rfl, hI9, hb9⟩
        have HI9 := Lib.hid hI9
        have HB9 := Lib.hid (HB8.out.trans hb9)
        clear hI9 hb9
        go_wp2
        go_roundw
        case rel =>
          obtain ⟨s9, h9⟩ := HI9.out
          exact ⟨i + 1, s9, by omega, by go_num, h9, HB9.out⟩
        case measure => simp [intOf]; omega
    · obtain rfl : i = n := by omega
      have t1 : decide (i < i) = false := by simp
      have t1' : decide ((i : Int) < (i : Int)) = false := by simp
      clear hlt hi
      obtain ⟨n, hnn⟩ : ∃ n, n = i := ⟨_, rfl⟩
      subst hnn
      obtain ⟨w7, hup, hk7, hst7⟩ := stgI_kill (HJ.out.step (Below.refl _ wr).drew) (by have := HRB.out; omega : D ≤ 100000)
      have HJ7 := Lib.hid hk7
      have hbk := (hst7.below (HJ.out.step (Below.refl _ wr).drew).ram HJ.out.lo)
      have HB7 : Hid (Below B w5 w7) := Lib.hid (HBW.out.trans ((Below.refl B wr).drew.trans hbk))
      have hS0 : wr.drew.cell? ⟨rb, 5, none⟩ = some (.map (some s'.gb)) ∧ wr.drew.cell? ⟨gb, 0, none⟩ = some (.int .i64 (N : Int)) := ⟨by have := (HJ.out.step (Below.refl _ wr).drew).ram.c.2.2.2.2.2.1; rw [HJ.out.at_.1] at this; exact this, (four_at ((((HBW.out.trans (Below.refl B wr).drew).block gb HGB.out.1)).trans HGB.out.2)).1⟩
      have hS1 : w7.cell? ⟨rb, 5, none⟩ = some (.map (some s'.gb)) ∧ w7.cell? ⟨gb, 0, none⟩ = some (.int .i64 (N : Int)) := ⟨by have := HJ7.out.ram.c.2.2.2.2.2.1; rw [HJ7.out.at_.1] at this; exact this, (four_at ((HB7.out.block gb HGB.out.1).trans HGB.out.2)).1⟩
      clear hk7 hst7 hbk
      go_upto_region 16 with fail
      go_region_held3 (fun x => x.cell? ⟨rb, 5, none⟩ = some (.map (some s'.gb)) ∧ x.cell? ⟨gb, 0, none⟩ = some (.int .i64 (N : Int)))
        (first | with_reducible exact hS0 | with_reducible exact hS1 | go_keep) (fail)
      all_goals
        have HDD : Hid (∀ m, m < N → ((s'.kill D).gone m = 0 ↔ m ≠ D)) := Lib.hid fun m hm => ⟨fun q e => by subst e; simp [RS.kill] at q, fun q => HJ7.out.gone m q⟩
        have HJ := HJ7
        have HBW := HB7
        clear hS0 hS1 hup HJ7 HB7
        obtain ⟨wr, hwr⟩ : ∃ x, x = w7 := ⟨_, rfl⟩
        rw [← hwr] at HJ HBW ⊢
        clear hwr
        obtain ⟨wm, hwm⟩ : ∃ x : World, x = wr := ⟨_, rfl⟩
        subst hwm
        have HALW : Hid (∀ x : World, Below wm.heap.size wm x → Calls Try.prog 44 #[.iface 56 (.pointer (some ⟨rb, 0, none⟩)), .int .i64 (wh : Int)] x fun e w' => ∃ sv, e = .returned (.tuple #[sv, .int .i64 0]) ∧ AllPg (fun j => j) c n sv w' ∧ Below x.heap.size x w') := Lib.hid fun x hx => by
          have h := stgI_all (HJ.out.step hx) wh HRB.out.2.2.1 hc HDD.out (by rw [cntW_at, HRR.out]; exact HRB.out.2.1) (fun j hj => by rw [cntW_at] at hj; have := HRB.out; show j ≤ 1000; omega)
          rw [cntW_at] at h
          exact h
        have HALV : Hid (∀ x : World, Below wm.heap.size wm x → Calls Try.prog 44 #[.iface 56 (.pointer (some ⟨rb, 0, none⟩)), .int .i64 (1 - (wh : Int))] x fun e w' => ∃ sv, e = .returned (.tuple #[sv, .int .i64 0]) ∧ AllPg (fun j => j) c 0 sv w' ∧ Below x.heap.size x w') := Lib.hid fun x hx => by
          have h := stgI_all (HJ.out.step hx) (1 - wh) (by omega) hc HDD.out (by rw [cntW_not _ _ HRB.out.2.2.1]; exact Nat.zero_le _) (fun j hj => by rw [cntW_not _ _ HRB.out.2.2.1] at hj; omega)
          rw [cntW_not _ _ HRB.out.2.2.1, show ((1 - wh : Nat) : Int) = 1 - (wh : Int) by have := HRB.out; omega] at h
          exact h
        have HGET : Hid (∀ (x : World) (i : Nat), Below wm.heap.size wm x → i < n → Calls Try.prog 45 #[.iface 56 (.pointer (some ⟨rb, 0, none⟩)), .int .i64 (wh : Int), .int .i64 (i : Int)] x fun e w' => ∃ E : PS, e = .returned (.tuple #[.agg #[.int .u8 4, .int .u32 (c : Int), .int .u32 0, .int .u16 0, .int .u16 0, .int .u32 ((i : Int)), .int .u32 0, .slice E.a E.n E.c], .int .i64 0]) ∧ E.l = pgL i c ∧ PartOk w' E ∧ Far x.heap.size E ∧ Below x.heap.size x w') := Lib.hid fun x i hx hi =>
          stgI_get (HJ.out.step hx) wh i i HRB.out.2.2.1 hc HDD.out (by rw [cntW_at]; exact hi) (by rw [cntW_at, HRR.out]; exact HRB.out.2.1) (fun j hj => by rw [cntW_at] at hj; have := HRB.out; show j ≤ 1000; omega) rfl
        have hv1 : IntKind.i64.wrap (1 - (wh : Int)) = 1 - (wh : Int) := by have := HRB.out; rw [IntKind.wrap_i64]; omega
        have hv2 : wrap64 (1 - (wh : Int)) = 1 - (wh : Int) := IntWalk.wrap64_in _ (by have := HRB.out; omega)
        go_wp2_with fail
        ((with_reducible refine (HALW.out _ (Below.refl _ _)).mono ?_))
        rintro e wa ⟨sva, rfl, hala, hba⟩
        have HAGA := Lib.hid hala
        have HBa := Lib.hid hba
        clear hala hba
        go_wp2_with fail
        ((with_reducible refine (HALV.out _ HBa.out).mono ?_))
        rintro e wb ⟨svb, rfl, halb, hbb⟩
        have HAGB := Lib.hid (HAGA.out.step hbb)
        have HBb := Lib.hid (bel_trans HBa.out hbb)
        obtain ⟨la, lc, EL, rfl, hlx1, hlx2⟩ := HAGB.out
        have LX := Lib.hid (And.intro hlx1 hlx2)
        obtain ⟨ma, mc, EM, rfl, _, _⟩ := halb
        have k1 : ((n : Int) != (n : Int)) = false := by simp
        have k1' : (n != n) = false := by simp
        clear hlx1 hlx2 hbb HAGA HAGB HALW HALV hv1 hv2
        go_upto_region 22 with fail
        go_loopw [16] (fun iv wz => ∃ i : Nat, i ≤ n ∧ iv = .int .i64 (i : Int) ∧ Below wb.heap.size wb wz) (fun iv _ => (n - intOf iv).toNat)
        case atStart => exact ⟨0, Nat.zero_le _, rfl, Below.refl _ _⟩
        case round =>
          obtain ⟨i, hi, rfl, hbz⟩ := hrel
          have HBZ := Lib.hid hbz
          clear hbz
          by_cases hlt : i < n
          · have t1 : decide (i < n) = true := by simpa using hlt
            have t1' : decide ((i : Int) < (n : Int)) = true := by simpa using hlt
            have HGI := Lib.hid (HGET.out wr i (bel_trans HBb.out HBZ.out) hlt)
            obtain ⟨b, off, hla, hcs⟩ := LX.out.1 (by omega)
            have HCS := Lib.hid (hcs i hlt)
            have HPE := Lib.hid (LX.out.2 i hlt)
            subst hla
            have HPG := Lib.hid fun x : World => stgPage_any i c x (by have := HRB.out; omega) hc
            clear hcs
            go_wp2_with fail
            ((with_reducible refine HGI.out.mono ?_))
            rintro e wc ⟨E, rfl, f1, f2, f3, hbc⟩
            have l6 := heap_alloc_new wc (.cells #[.int .u8 4, .int .u32 (c : Int), .int .u32 0, .int .u16 0, .int .u16 0, .int .u32 ((i : Int)), .int .u32 0, .slice E.a E.n E.c] 77)
            have hb6 := bel_trans hbc (bel_alloc (Below.refl _ wc) (.cells #[.int .u8 4, .int .u32 (c : Int), .int .u32 0, .int .u16 0, .int .u16 0, .int .u32 ((i : Int)), .int .u32 0, .slice E.a E.n E.c] 77))
            have HE6 := Lib.hid (And.intro f1 (f2.step (bel_alloc (Below.refl _ wc) (.cells #[.int .u8 4, .int .u32 (c : Int), .int .u32 0, .int .u16 0, .int .u16 0, .int .u32 ((i : Int)), .int .u32 0, .slice E.a E.n E.c] 77))))
            clear f1 f2 f3 hbc
            go_upto_region 25 with fail
            obtain ⟨wd, hwd⟩ : ∃ x, x = wc.alloc (.cells #[.int .u8 4, .int .u32 (c : Int), .int .u32 0, .int .u16 0, .int .u16 0, .int .u32 ((i : Int)), .int .u32 0, .slice E.a E.n E.c] 77) := ⟨_, rfl⟩
            obtain ⟨eb, heb⟩ : ∃ x, x = wc.heap.size := ⟨_, rfl⟩
            rw [← hwd, ← heb] at l6
            rw [← hwd] at hb6 HE6
            rw [← hwd, ← heb]
            have HBD := Lib.hid (bel_trans HBZ.out hb6)
            have HCC : Hid (∀ x : World, Below wd.heap.size wd x → (x.cell? ⟨eb, 0, none⟩ = some (.int .u8 4) ∧ x.cell? ⟨eb, 1, none⟩ = some (.int .u32 (c : Int)) ∧ x.cell? ⟨eb, 2, none⟩ = some (.int .u32 0) ∧ x.cell? ⟨eb, 3, none⟩ = some (.int .u16 0) ∧ x.cell? ⟨eb, 4, none⟩ = some (.int .u16 0) ∧ x.cell? ⟨eb, 5, none⟩ = some (.int .u32 ((i : Int))) ∧ x.cell? ⟨eb, 6, none⟩ = some (.int .u32 0) ∧ x.cell? ⟨eb, 7, none⟩ = some (.slice (E).a (E).n (E).c) ∧ x.cell? ⟨b, off + i * 8, none⟩ = some (.int .u8 4) ∧ x.cell? ⟨b, off + i * 8 + 1, none⟩ = some (.int .u32 (c : Int)) ∧ x.cell? ⟨b, off + i * 8 + 2, none⟩ = some (.int .u32 0) ∧ x.cell? ⟨b, off + i * 8 + 3, none⟩ = some (.int .u16 0) ∧ x.cell? ⟨b, off + i * 8 + 4, none⟩ = some (.int .u16 0) ∧ x.cell? ⟨b, off + i * 8 + 5, none⟩ = some (.int .u32 ((i : Int))) ∧ x.cell? ⟨b, off + i * 8 + 6, none⟩ = some (.int .u32 0) ∧ x.cell? ⟨b, off + i * 8 + 7, none⟩ = some (.slice (EL i).a (EL i).n (EL i).c))) := Lib.hid fun x hx => by
              obtain ⟨a0, a1, a2, a3, a4, a5, a6, a7⟩ := eight_at ((hx.block _ (Array.getElem?_eq_some_iff.1 l6).1).trans l6)
              obtain ⟨d0, d1, d2, d3, d4, d5, d6, d7⟩ := (HCS.out.step HBD.out).step hx
              exact ⟨a0, a1, a2, a3, a4, a5, a6, a7, d0, d1, d2, d3, d4, d5, d6, d7⟩
            have HSM1 : Hid (∀ (x : World) (G : PS), Below wd.heap.size wd x → PartOk x G → G.l = pgL i c → Calls Try.prog 46 #[.agg #[.int .u8 4, .int .u32 (c : Int), .int .u32 0, .int .u16 0, .int .u16 0, .int .u32 ((i : Int)), .int .u32 0, .slice E.a E.n E.c], .agg #[.int .u8 4, .int .u32 (c : Int), .int .u32 0, .int .u16 0, .int .u16 0, .int .u32 ((i : Int)), .int .u32 0, .slice G.a G.n G.c]] x fun e w' => e = .returned (.bool true) ∧ Below x.heap.size x w') := Lib.hid fun x G hx hG hl => samePg_any i c E G x (HE6.out.2.step hx) hG (HE6.out.1.trans hl.symm)
            have HSM2 : Hid (∀ (x : World) (G : PS), Below wd.heap.size wd x → PartOk x G → G.l = pgL i c → Calls Try.prog 46 #[.agg #[.int .u8 4, .int .u32 (c : Int), .int .u32 0, .int .u16 0, .int .u16 0, .int .u32 ((i : Int)), .int .u32 0, .slice (EL i).a (EL i).n (EL i).c], .agg #[.int .u8 4, .int .u32 (c : Int), .int .u32 0, .int .u16 0, .int .u16 0, .int .u32 ((i : Int)), .int .u32 0, .slice G.a G.n G.c]] x fun e w' => e = .returned (.bool true) ∧ Below x.heap.size x w') := Lib.hid fun x G hx hG hl => samePg_any i c (EL i) G x ((HPE.out.1.step HBD.out).step hx) hG (HPE.out.2.trans hl.symm)
            have HB0 : Hid (Below wd.heap.size wd wd.drew) := Lib.hid (Below.refl _ _).drew
            have hS0 := HCC.out wd.drew HB0.out
            have i0 : (0 : Int) ≤ (i : Int) := by omega
            have i1 : (i : Int) < (n : Int) := by omega
            clear l6 hb6 hwd heb
            go_wp2_with fail
            go_region_held3 (fun x => x.cell? ⟨eb, 0, none⟩ = some (.int .u8 4) ∧ x.cell? ⟨eb, 1, none⟩ = some (.int .u32 (c : Int)) ∧ x.cell? ⟨eb, 2, none⟩ = some (.int .u32 0) ∧ x.cell? ⟨eb, 3, none⟩ = some (.int .u16 0) ∧ x.cell? ⟨eb, 4, none⟩ = some (.int .u16 0) ∧ x.cell? ⟨eb, 5, none⟩ = some (.int .u32 ((i : Int))) ∧ x.cell? ⟨eb, 6, none⟩ = some (.int .u32 0) ∧ x.cell? ⟨eb, 7, none⟩ = some (.slice (E).a (E).n (E).c) ∧ x.cell? ⟨b, off + i * 8, none⟩ = some (.int .u8 4) ∧ x.cell? ⟨b, off + i * 8 + 1, none⟩ = some (.int .u32 (c : Int)) ∧ x.cell? ⟨b, off + i * 8 + 2, none⟩ = some (.int .u32 0) ∧ x.cell? ⟨b, off + i * 8 + 3, none⟩ = some (.int .u16 0) ∧ x.cell? ⟨b, off + i * 8 + 4, none⟩ = some (.int .u16 0) ∧ x.cell? ⟨b, off + i * 8 + 5, none⟩ = some (.int .u32 ((i : Int))) ∧ x.cell? ⟨b, off + i * 8 + 6, none⟩ = some (.int .u32 0) ∧ x.cell? ⟨b, off + i * 8 + 7, none⟩ = some (.slice (EL i).a (EL i).n (EL i).c))
              (first | with_reducible exact hS0 | with_reducible exact hS1 | with_reducible exact hS2 | with_reducible exact hS3 | with_reducible exact hS4 | go_keep)
              (first
                | (go_simp; go_at_call 43; ((with_reducible refine (HPG.out wd.drew).mono ?_)); (intro e w31 hr; obtain ⟨G, rfl, g1, g2, g3, g4, hb31⟩ := hr; have HB31 := Lib.hid (bel_trans HB0.out hb31); have HGG := Lib.hid (And.intro g1 g3); have hS1 := HCC.out w31 HB31.out; clear g1 g2 g3 g4 hb31))
                | (go_simp; go_at_call 46; ((with_reducible refine (HSM2.out w33 G2 HB33.out HGG2.out.2 HGG2.out.1).mono ?_)); (intro e w34 hr; obtain ⟨rfl, hb34⟩ := hr; have HB34 := Lib.hid (bel_trans HB33.out hb34); have hS4 := HCC.out w34 HB34.out; clear hb34))
                | (go_simp; go_at_call 46; ((with_reducible refine (HSM1.out w31 G HB31.out HGG.out.2 HGG.out.1).mono ?_)); (intro e w32 hr; obtain ⟨rfl, hb32⟩ := hr; have HB32 := Lib.hid (bel_trans HB31.out hb32); have hS2 := HCC.out w32 HB32.out; clear hb32))
                | (go_simp; go_at_call 43; ((with_reducible refine (HPG.out w32).mono ?_)); (intro e w33 hr; obtain ⟨G2, rfl, g1, g2, g3, g4, hb33⟩ := hr; have HB33 := Lib.hid (bel_trans HB32.out hb33); have HGG2 := Lib.hid (And.intro g1 g3); have hS3 := HCC.out w33 HB33.out; clear g1 g2 g3 g4 hb33)))
            all_goals
              clear hS0 hS1 hS2 hS3 hS4
              go_wp2
              go_roundw
              case rel => exact ⟨i + 1, by omega, by go_num, bel_trans HBD.out HB34.out⟩
              case measure => simp [intOf]; omega
          · obtain rfl : i = n := by omega
            have t1 : decide (i < i) = false := by simp
            have t1' : decide ((i : Int) < (i : Int)) = false := by simp
            clear hlt
            go_wp2
            go_ret
            exact ⟨rfl, (bel_trans HB5.out (Below.refl _ w5)).trans (HBW.out.mono HWB.out) |>.trans ((bel_trans HBb.out HBZ.out).mono (Nat.le_trans HB5.out.size (HW5.out wm HBW.out)))⟩

theorem stagePlays_all (ch wv nv dv fv : Int) (c : Nat) (w : World) (hc : c < 256) :
    Calls Try.prog 8 #[.agg #[.int .i64 ch, .int .i64 wv, .int .i64 nv, .int .i64 dv, .int .i64 fv, .int .u8 (c : Int)]] w fun e w' => e = .returned (.bool true) ∧ Below w.heap.size w w' := by
  by_cases h : dv < 0
  · exact stagePlays_none ch wv nv dv fv c w hc h
  · exact stagePlays_some ch wv nv dv fv c w hc (by omega)
end Go.Proofs.Ytallambldbhibaa
