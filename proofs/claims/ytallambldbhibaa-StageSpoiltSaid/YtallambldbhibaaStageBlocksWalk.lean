/- StageBlocks: the walk. -/
import Derived.Test.YtallambldbhibaaStgI
namespace Go.Proofs.Ytallambldbhibaa
open Go.RowKit Go.Deep

def cntF (i j : Nat) : Nat → Nat := fun x => if x = 0 then i else if x = 1 then j else 0
theorem cntF_0 (i j : Nat) : (fun x => if x = 0 then cntF i j x + 1 else cntF i j x) = cntF (i + 1) j := by
  funext x
  unfold cntF
  by_cases h : x = 0 <;> simp [h]
theorem cntF_1 (i j : Nat) : (fun x => if x = 1 then cntF i j x + 1 else cntF i j x) = cntF i (j + 1) := by
  funext x
  unfold cntF
  by_cases h : x = 0
  · simp [h]
  · by_cases h1 : x = 1 <;> simp [h1, h]
theorem cntF_z : (fun _ : Nat => 0) = cntF 0 0 := by
  funext x
  unfold cntF
  by_cases h : x = 0 <;> simp [h]
def numF : Nat → Nat → Nat := fun wh j => if wh = 0 then j else j + 50
set_option maxRecDepth 100000 in
set_option maxHeartbeats 4000000 in
theorem stageBlocks_all (ch av bv : Int) (c : Nat) (w : World) (hc : c < 256) :
    Calls Try.prog 11 #[.agg #[.int .i64 ch, .int .i64 av, .int .i64 bv, .int .u8 (c : Int)]] w fun e w' => e = .returned (.bool true) ∧ Below w.heap.size w w' := by
  have HSH := Lib.hid fun x : World => stgShapeL_any ch x
  have HTW := Lib.hid twice_any
  obtain ⟨N, P, R, hN, hP, hR, hN3, hN8, hP1, hP4, hRoom, p1, p1', p2, p3, hgood⟩ := stgHead ch
  rw [← hN] at HSH
  have HNW := Lib.hid fun x : World => ramNew_any N 20 5 256 x hgood
  rw [show ((20 : Nat) : Int) = 20 from rfl, show ((5 : Nat) : Int) = 5 from rfl, show ((256 : Nat) : Int) = 256 from rfl] at HNW
  obtain ⟨A, hA, ua, ua'⟩ := modn_eq R av (by omega)
  obtain ⟨Z, hZ, ub, ub'⟩ := modn_eq R bv (by omega)
  have u0 : IntKind.u64.wrap ((R : Int) + 1) = (R : Int) + 1 := by rw [IntKind.wrap_u64]; omega
  have nz : (R : Int) + 1 ≠ 0 := by omega
  have nz' : ((R : Int) + 1 == 0) = false := by simp; omega
  have hR20 : R ≤ 20 := by omega
  have HRB : Hid (A ≤ 20 ∧ Z ≤ 20 ∧ A ≤ R ∧ Z ≤ R) := Lib.hid ⟨by omega, by omega, hA, hZ⟩
  have HRR := Lib.hid hRoom
  clear hN hP hR hN3 hN8 hP1 hP4 hRoom hA hZ hgood
  go_enter Try.func11, Try.ntmps11
  go_upto_region 1 with fail
  have l0 := heap_alloc_new w (.cells #[.int .i64 ch, .int .i64 av, .int .i64 bv, .int .u8 (c : Int)] 108)
  have hb0 := bel_alloc (Below.refl _ w) (.cells #[.int .i64 ch, .int .i64 av, .int .i64 bv, .int .u8 (c : Int)] 108)
  obtain ⟨w0, hw0⟩ : ∃ x, x = w.alloc (.cells #[.int .i64 ch, .int .i64 av, .int .i64 bv, .int .u8 (c : Int)] 108) := ⟨_, rfl⟩
  obtain ⟨cb, hcb⟩ : ∃ x, x = w.heap.size := ⟨_, rfl⟩
  rw [← hw0, ← hcb] at l0
  rw [← hw0] at hb0
  rw [← hw0, ← hcb]
  obtain ⟨c0, c1, c2, c3⟩ := four_at l0
  have HB0 := Lib.hid hb0
  clear hw0 hcb hb0 l0
  go_quiet (fail)
  have HB1 := Lib.hid (bel_trans HB0.out (show Below w0.heap.size w0 (w0.drewN nq) from ⟨rfl, rfl, rfl, Nat.le_refl _, fun _ _ => rfl⟩))
  obtain ⟨w1, hw1⟩ : ∃ x, x = w0.drewN nq := ⟨_, rfl⟩
  rw [← hw1] at HB1 ⊢
  clear hw1 c0 c1 c2 c3
  go_wp2_with fail
  ((with_reducible refine (HTW.out _).mono ?_))
  rintro e w2 ⟨rfl, hb2⟩
  have HB2 := Lib.hid (bel_trans HB1.out hb2)
  clear hb2
  go_wp2_with fail
  ((with_reducible refine (HSH.out _).mono ?_))
  rintro e w3 ⟨rfl, hb3⟩
  have l4 := heap_alloc_new w3 (.cells #[.int .i64 (N : Int), .int .i64 20, .int .i64 5, .int .i64 256] 54)
  have hb4 := bel_trans HB2.out (bel_trans hb3 (bel_alloc (Below.refl _ w3) (.cells #[.int .i64 (N : Int), .int .i64 20, .int .i64 5, .int .i64 256] 54)))
  go_upto_region 5 with fail
  obtain ⟨w4, hw4⟩ : ∃ x, x = w3.alloc (.cells #[.int .i64 (N : Int), .int .i64 20, .int .i64 5, .int .i64 256] 54) := ⟨_, rfl⟩
  obtain ⟨gb, hgb⟩ : ∃ x, x = w3.heap.size := ⟨_, rfl⟩
  rw [← hw4, ← hgb] at l4
  rw [← hw4] at hb4
  rw [← hw4, ← hgb]
  have HL4 := Lib.hid l4
  have HB4 := Lib.hid hb4
  obtain ⟨g0, g1, g2, g3⟩ := four_at l4
  clear hw4 hgb l4 hb3 hb4
  go_wp2_with fail
  ((with_reducible refine (HNW.out _).mono ?_))
  rintro e w5 ⟨rb, pb, gb2, rfl, hr5, hb5⟩
  have HB5 := Lib.hid (bel_trans HB4.out hb5)
  obtain ⟨B, hB⟩ : ∃ B, B = w4.heap.size := ⟨_, rfl⟩
  rw [← hB] at hr5
  have HI5 : Hid (StgI B rb N c N (cntF 0 0) numF (rsNew rb pb gb2 N 20 5 256) w5) := Lib.hid (by rw [← cntF_z]; exact stgI_new hr5 (by rw [hB]; exact hb5.size) N)
  have HWB : Hid (w.heap.size ≤ B) := Lib.hid (by rw [hB]; exact HB4.out.size)
  have hg5 := (hb5.block _ (Array.getElem?_eq_some_iff.1 HL4.out).1).trans HL4.out
  clear g0 g1 g2 g3 hb5 hr5 hB
  obtain ⟨g0, g1, g2, g3⟩ := four_at hg5
  clear hg5
  go_upto_region 7 with fail
  go_quiet (fail)
  have hbq : Below w5.heap.size w5 (w5.drewN nq) := ⟨rfl, rfl, rfl, Nat.le_refl _, fun _ _ => rfl⟩
  have HI := Lib.hid (HI5.out.step hbq)
  have HBI := Lib.hid (bel_trans HB5.out hbq)
  obtain ⟨wq, hwq⟩ : ∃ x, x = w5.drewN nq := ⟨_, rfl⟩
  rw [← hwq] at HI HBI ⊢
  clear hwq hbq g0 g1 g2 g3 u0 nz nz' ua ua' ub ub' p1 p1' p2 p3
  have hA20 : A ≤ 20 := HRB.out.1
  have hZ20 : Z ≤ 20 := HRB.out.2.1
  go_upto_region 9 with fail
  go_loopw [10] (fun iv wr => ∃ (i : Nat) (s' : RS), i ≤ A ∧ iv = .int .i64 (i : Int) ∧ StgI B rb N c N (cntF i 0) numF s' wr ∧ Below w.heap.size w wr) (fun iv _ => (A - intOf iv).toNat)
  case atStart => exact ⟨0, _, Nat.zero_le _, rfl, HI.out, HBI.out⟩
  case round =>
    obtain ⟨i, s', hi, rfl, hI, hbw⟩ := hrel
    have HJ := Lib.hid hI
    have HBW := Lib.hid hbw
    clear hI hbw HI HBI
    by_cases hlt : i < A
    · have t1 : decide (i < A) = true := by simpa using hlt
      have t1' : decide ((i : Int) < (A : Int)) = true := by simpa using hlt
      have HPG := Lib.hid fun x : World => stgPage_any (i) c x (by have := HRB.out; omega) hc
      go_wp2_with fail
      ((with_reducible refine (HPG.out _).mono ?_))
      rintro e w6 ⟨E, rfl, f1, f2, f3, f4, hb6⟩
      have HPU : Hid (Calls Try.prog 42 #[.iface 56 (.pointer (some ⟨rb, 0, none⟩)), .int .i64 0, .int .i64 (i : Int), .agg #[.int .u8 4, .int .u32 (c : Int), .int .u32 0, .int .u16 0, .int .u16 0, .int .u32 ((i : Int)), .int .u32 0, .slice E.a E.n E.c]] w6 fun e w' => e = .returned (.int .i64 0) ∧ (∃ s', StgI B rb N c N (cntF (i + 1) 0) numF s' w') ∧ Below B w6 w') := Lib.hid (by
        have hpu := stgI_put (HJ.out.step hb6) 0 i (i) (by omega) rfl (by rw [HRR.out]; have := HRB.out; omega) rfl (by have := HRB.out; omega) hc (by simp only [cntF]; have := HRB.out; simp; omega) E f1 f2 f3 (fun x hx => HJ.out.ram.fresh (f4 x hx))
        rw [cntF_0] at hpu
        exact hpu)
      have HB6 := Lib.hid (bel_trans HBW.out hb6)
      clear f1 f2 f3 f4 hb6
      go_wp2_with fail
      ((with_reducible refine HPU.out.mono ?_))
      rintro e w7 ⟨rfl, hI7, hb7⟩
      have HI7 := Lib.hid hI7
      have HB7 := Lib.hid (HB6.out.trans (hb7.mono HWB.out))
      clear hI7 hb7
      go_wp2
      go_roundw
      case rel =>
        obtain ⟨s7, h7⟩ := HI7.out
        exact ⟨i + 1, s7, by omega, by go_num, h7, HB7.out⟩
      case measure => simp [intOf]; omega
    · obtain rfl : i = A := by omega
      have t1 : decide (i < i) = false := by simp
      have t1' : decide ((i : Int) < (i : Int)) = false := by simp
      clear hlt hi
      have HI := HJ
      have HBI := HBW
      clear HJ HBW
      obtain ⟨A, hAA⟩ : ∃ A, A = i := ⟨_, rfl⟩
      subst hAA
      go_upto_region 14 with fail
      clear t1 t1'
      go_loopw [11] (fun iv wr => ∃ (i : Nat) (s' : RS), i ≤ Z ∧ iv = .int .i64 (i : Int) ∧ StgI B rb N c N (cntF A i) numF s' wr ∧ Below w.heap.size w wr) (fun iv _ => (Z - intOf iv).toNat)
      case atStart => exact ⟨0, _, Nat.zero_le _, rfl, HI.out, HBI.out⟩
      case round =>
        obtain ⟨i, s', hi, rfl, hI, hbw⟩ := hrel
        have HJ := Lib.hid hI
        have HBW := Lib.hid hbw
        clear hI hbw HI HBI
        by_cases hlt : i < Z
        · have t1 : decide (i < Z) = true := by simpa using hlt
          have t1' : decide ((i : Int) < (Z : Int)) = true := by simpa using hlt
          have HPG := Lib.hid fun x : World => stgPage_any (i + 50) c x (by have := HRB.out; omega) hc
          rw [show ((i + 50 : Nat) : Int) = (i : Int) + 50 by omega] at HPG
          go_wp2_with fail
          ((with_reducible refine (HPG.out _).mono ?_))
          rintro e w6 ⟨E, rfl, f1, f2, f3, f4, hb6⟩
          have HPU : Hid (Calls Try.prog 42 #[.iface 56 (.pointer (some ⟨rb, 0, none⟩)), .int .i64 1, .int .i64 (i : Int), .agg #[.int .u8 4, .int .u32 (c : Int), .int .u32 0, .int .u16 0, .int .u16 0, .int .u32 ((i : Int) + 50), .int .u32 0, .slice E.a E.n E.c]] w6 fun e w' => e = .returned (.int .i64 0) ∧ (∃ s', StgI B rb N c N (cntF A (i + 1)) numF s' w') ∧ Below B w6 w') := Lib.hid (by
            have hpu := stgI_put (HJ.out.step hb6) 1 i (i + 50) (by omega) rfl (by rw [HRR.out]; have := HRB.out; omega) rfl (by have := HRB.out; omega) hc (by simp only [cntF]; have := HRB.out; simp; omega) E f1 f2 f3 (fun x hx => HJ.out.ram.fresh (f4 x hx))
            rw [show ((i + 50 : Nat) : Int) = (i : Int) + 50 by omega] at hpu
            rw [cntF_1] at hpu
            exact hpu)
          have HB6 := Lib.hid (bel_trans HBW.out hb6)
          clear f1 f2 f3 f4 hb6
          go_wp2_with fail
          ((with_reducible refine HPU.out.mono ?_))
          rintro e w7 ⟨rfl, hI7, hb7⟩
          have HI7 := Lib.hid hI7
          have HB7 := Lib.hid (HB6.out.trans (hb7.mono HWB.out))
          clear hI7 hb7
          go_wp2
          go_roundw
          case rel =>
            obtain ⟨s7, h7⟩ := HI7.out
            exact ⟨i + 1, s7, by omega, by go_num, h7, HB7.out⟩
          case measure => simp [intOf]; omega
        · obtain rfl : i = Z := by omega
          have t1 : decide (i < i) = false := by simp
          have t1' : decide ((i : Int) < (i : Int)) = false := by simp
          clear hlt hi
          obtain ⟨Z, hZZ⟩ : ∃ Z, Z = i := ⟨_, rfl⟩
          subst hZZ
          have HAL0 : Hid (∀ x : World, Below wr.heap.size wr x → Calls Try.prog 44 #[.iface 56 (.pointer (some ⟨rb, 0, none⟩)), .int .i64 0] x fun e w' => ∃ sv, e = .returned (.tuple #[sv, .int .i64 0]) ∧ AllPg (fun j => j) c A sv w' ∧ Below x.heap.size x w') := Lib.hid fun x hx =>
            stgI_all (HJ.out.step hx) 0 (by omega) hc (fun m hm => ⟨fun _ => by omega, fun q => HJ.out.gone m q⟩) (by rw [HRR.out]; exact HRB.out.2.2.1) (fun j hj => by have := HRB.out; have h2 : j < A := hj; show j ≤ 1000; omega)
          have HAL1 : Hid (∀ x : World, Below wr.heap.size wr x → Calls Try.prog 44 #[.iface 56 (.pointer (some ⟨rb, 0, none⟩)), .int .i64 1] x fun e w' => ∃ sv, e = .returned (.tuple #[sv, .int .i64 0]) ∧ AllPg (fun j => j + 50) c Z sv w' ∧ Below x.heap.size x w') := Lib.hid fun x hx =>
            stgI_all (HJ.out.step hx) 1 (by omega) hc (fun m hm => ⟨fun _ => by omega, fun q => HJ.out.gone m q⟩) (by rw [HRR.out]; exact HRB.out.2.2.2) (fun j hj => by have := HRB.out; have h2 : j < Z := hj; show j + 50 ≤ 1000; omega)
          go_wp2_with fail
          ((with_reducible refine (HAL0.out _ (Below.refl _ _)).mono ?_))
          rintro e w8 ⟨sv8, rfl, hal8, hb8⟩
          have HAG8 := Lib.hid hal8
          have HB8 := Lib.hid hb8
          clear hal8 hb8
          go_wp2_with fail
          ((with_reducible refine (HAL1.out _ HB8.out).mono ?_))
          rintro e w9 ⟨sv9, rfl, hal9, hb9⟩
          have HAGX := Lib.hid (HAG8.out.step hb9)
          have HB9 := Lib.hid (bel_trans HBW.out (bel_trans HB8.out hb9))
          obtain ⟨la, lc, ELX, rfl, hlx1, hlx2⟩ := HAGX.out
          have LX := Lib.hid (And.intro hlx1 hlx2)
          obtain ⟨ma, mc, ELY, rfl, hly1, hly2⟩ := hal9
          have LY := Lib.hid (And.intro hly1 hly2)
          have k1 : ((A : Int) != (A : Int)) = false := by simp
          have k2 : ((Z : Int) != (Z : Int)) = false := by simp
          have k1' : (A != A) = false := by simp
          have k2' : (Z != Z) = false := by simp
          have BW0 := Below.refl w9.heap.size w9
          clear hlx1 hlx2 hly1 hly2 hb9 HAG8 HAGX HAL0 HAL1
          go_upto_region 23 with fail
          go_loopw [16] (fun iv wr => ∃ i : Nat, i ≤ A ∧ iv = .int .i64 (i : Int) ∧ Below w9.heap.size w9 wr) (fun iv _ => (A - intOf iv).toNat)
          case atStart => exact ⟨0, Nat.zero_le _, rfl, BW0⟩
          case round =>
            obtain ⟨i, hi, rfl, hbw⟩ := hrel
            have HBV := Lib.hid hbw
            clear hbw
            by_cases hlt : i < A
            · have t1 : decide (i < A) = true := by simpa using hlt
              have t1' : decide ((i : Int) < (A : Int)) = true := by simpa using hlt
              obtain ⟨b, off, hla, hcs⟩ := LX.out.1 (by omega)
              have HCS := Lib.hid (hcs i hlt)
              have HPE := Lib.hid (LX.out.2 i hlt)
              subst hla
              have HPG := Lib.hid fun x : World => stgPage_any (i) c x (by have := HRB.out; omega) hc
              have HSM : Hid (∀ (x : World) (G : PS), Below w9.heap.size w9 x → PartOk x G → G.l = pgL (i) c → Calls Try.prog 46 #[.agg #[.int .u8 4, .int .u32 (c : Int), .int .u32 0, .int .u16 0, .int .u16 0, .int .u32 ((i : Int)), .int .u32 0, .slice (ELX i).a (ELX i).n (ELX i).c], .agg #[.int .u8 4, .int .u32 (c : Int), .int .u32 0, .int .u16 0, .int .u16 0, .int .u32 ((i : Int)), .int .u32 0, .slice G.a G.n G.c]] x fun e w' => e = .returned (.bool true) ∧ Below x.heap.size x w') := Lib.hid fun x G hx hG hl => by
                have := samePg_any (i) c (ELX i) G x (HPE.out.1.step hx) hG (HPE.out.2.trans hl.symm)
                exact this
              have HCC : Hid (∀ x : World, Below wr.heap.size wr x → (x.cell? ⟨b, off + i * 8, none⟩ = some (.int .u8 4) ∧ x.cell? ⟨b, off + i * 8 + 1, none⟩ = some (.int .u32 (c : Int)) ∧ x.cell? ⟨b, off + i * 8 + 2, none⟩ = some (.int .u32 0) ∧ x.cell? ⟨b, off + i * 8 + 3, none⟩ = some (.int .u16 0) ∧ x.cell? ⟨b, off + i * 8 + 4, none⟩ = some (.int .u16 0) ∧ x.cell? ⟨b, off + i * 8 + 5, none⟩ = some (.int .u32 ((i : Int))) ∧ x.cell? ⟨b, off + i * 8 + 6, none⟩ = some (.int .u32 0) ∧ x.cell? ⟨b, off + i * 8 + 7, none⟩ = some (.slice (ELX i).a (ELX i).n (ELX i).c))) := Lib.hid fun x hx => by
                obtain ⟨a0, a1, a2, a3, a4, a5, a6, a7⟩ := (HCS.out.step HBV.out).step hx
                exact ⟨a0, a1, a2, a3, a4, a5, a6, a7⟩
              have HB0 : Hid (Below wr.heap.size wr wr.drew) := Lib.hid (Below.refl _ _).drew
              have hS0 := HCC.out wr.drew HB0.out
              have i0 : (0 : Int) ≤ (i : Int) := by omega
              have i1 : (i : Int) < (A : Int) := by omega
              have i2 : IntKind.i64.wrap ((i : Int) + 50) = (i : Int) + 50 := by rw [IntKind.wrap_i64]; omega
              clear hcs
              go_wp2_with fail
              go_region_held3 (fun x => x.cell? ⟨b, off + i * 8, none⟩ = some (.int .u8 4) ∧ x.cell? ⟨b, off + i * 8 + 1, none⟩ = some (.int .u32 (c : Int)) ∧ x.cell? ⟨b, off + i * 8 + 2, none⟩ = some (.int .u32 0) ∧ x.cell? ⟨b, off + i * 8 + 3, none⟩ = some (.int .u16 0) ∧ x.cell? ⟨b, off + i * 8 + 4, none⟩ = some (.int .u16 0) ∧ x.cell? ⟨b, off + i * 8 + 5, none⟩ = some (.int .u32 ((i : Int))) ∧ x.cell? ⟨b, off + i * 8 + 6, none⟩ = some (.int .u32 0) ∧ x.cell? ⟨b, off + i * 8 + 7, none⟩ = some (.slice (ELX i).a (ELX i).n (ELX i).c))
                (first | with_reducible exact hS0 | with_reducible exact hS1 | with_reducible exact hS2 | go_keep)
                (first
                  | (go_simp; go_at_call 43; ((with_reducible refine (HPG.out _).mono ?_)); (intro e wa hr; obtain ⟨G, rfl, g1, g2, g3, g4, hba⟩ := hr; have HBa := Lib.hid (bel_trans HB0.out hba); have HGG := Lib.hid (And.intro g1 g3); have hS1 := HCC.out wa HBa.out; clear g1 g2 g3 g4 hba))
                  | (go_simp; go_at_call 46; ((with_reducible refine (HSM.out _ _ (bel_trans HBV.out HBa.out) HGG.out.2 HGG.out.1).mono ?_)); (intro e wb hr; obtain ⟨rfl, hbb⟩ := hr; have HBb := Lib.hid (bel_trans HBa.out hbb); have hS2 := HCC.out wb HBb.out; clear hbb)))
              all_goals
                clear hS0 hS1 hS2
                go_wp2
                go_roundw
                case rel => exact ⟨i + 1, by omega, by go_num, bel_trans HBV.out HBb.out⟩
                case measure => simp [intOf]; omega
            · obtain rfl : i = A := by omega
              have t1 : decide (i < i) = false := by simp
              have t1' : decide ((i : Int) < (i : Int)) = false := by simp
              clear hlt hi
              have BW0 := HBV.out
              go_upto_region 28 with fail
              go_loopw [17] (fun iv wr => ∃ i : Nat, i ≤ Z ∧ iv = .int .i64 (i : Int) ∧ Below w9.heap.size w9 wr) (fun iv _ => (Z - intOf iv).toNat)
              case atStart => exact ⟨0, Nat.zero_le _, rfl, BW0⟩
              case round =>
                obtain ⟨i, hi, rfl, hbw⟩ := hrel
                have HBV := Lib.hid hbw
                clear hbw
                by_cases hlt : i < Z
                · have t1 : decide (i < Z) = true := by simpa using hlt
                  have t1' : decide ((i : Int) < (Z : Int)) = true := by simpa using hlt
                  obtain ⟨b, off, hla, hcs⟩ := LY.out.1 (by omega)
                  have HCS := Lib.hid (hcs i hlt)
                  have HPE := Lib.hid (LY.out.2 i hlt)
                  subst hla
                  have HPG := Lib.hid fun x : World => stgPage_any (i + 50) c x (by have := HRB.out; omega) hc
                  rw [show ((i + 50 : Nat) : Int) = (i : Int) + 50 by omega] at HPG
                  have HSM : Hid (∀ (x : World) (G : PS), Below w9.heap.size w9 x → PartOk x G → G.l = pgL (i + 50) c → Calls Try.prog 46 #[.agg #[.int .u8 4, .int .u32 (c : Int), .int .u32 0, .int .u16 0, .int .u16 0, .int .u32 ((i : Int) + 50), .int .u32 0, .slice (ELY i).a (ELY i).n (ELY i).c], .agg #[.int .u8 4, .int .u32 (c : Int), .int .u32 0, .int .u16 0, .int .u16 0, .int .u32 ((i : Int) + 50), .int .u32 0, .slice G.a G.n G.c]] x fun e w' => e = .returned (.bool true) ∧ Below x.heap.size x w') := Lib.hid fun x G hx hG hl => by
                    have := samePg_any (i + 50) c (ELY i) G x (HPE.out.1.step hx) hG (HPE.out.2.trans hl.symm)
                    rw [show ((i + 50 : Nat) : Int) = (i : Int) + 50 by omega] at this
                    exact this
                  have HCC : Hid (∀ x : World, Below wr.heap.size wr x → (x.cell? ⟨b, off + i * 8, none⟩ = some (.int .u8 4) ∧ x.cell? ⟨b, off + i * 8 + 1, none⟩ = some (.int .u32 (c : Int)) ∧ x.cell? ⟨b, off + i * 8 + 2, none⟩ = some (.int .u32 0) ∧ x.cell? ⟨b, off + i * 8 + 3, none⟩ = some (.int .u16 0) ∧ x.cell? ⟨b, off + i * 8 + 4, none⟩ = some (.int .u16 0) ∧ x.cell? ⟨b, off + i * 8 + 5, none⟩ = some (.int .u32 ((i : Int) + 50)) ∧ x.cell? ⟨b, off + i * 8 + 6, none⟩ = some (.int .u32 0) ∧ x.cell? ⟨b, off + i * 8 + 7, none⟩ = some (.slice (ELY i).a (ELY i).n (ELY i).c))) := Lib.hid fun x hx => by
                    obtain ⟨a0, a1, a2, a3, a4, a5, a6, a7⟩ := (HCS.out.step HBV.out).step hx
                    rw [show (((pgHdr (i + 50) c).bl : Nat) : Int) = (i : Int) + 50 by show ((i + 50 : Nat) : Int) = _; omega] at a5
                    exact ⟨a0, a1, a2, a3, a4, a5, a6, a7⟩
                  have HB0 : Hid (Below wr.heap.size wr wr.drew) := Lib.hid (Below.refl _ _).drew
                  have hS0 := HCC.out wr.drew HB0.out
                  have i0 : (0 : Int) ≤ (i : Int) := by omega
                  have i1 : (i : Int) < (Z : Int) := by omega
                  have i2 : IntKind.i64.wrap ((i : Int) + 50) = (i : Int) + 50 := by rw [IntKind.wrap_i64]; omega
                  clear hcs
                  go_wp2_with fail
                  go_region_held3 (fun x => x.cell? ⟨b, off + i * 8, none⟩ = some (.int .u8 4) ∧ x.cell? ⟨b, off + i * 8 + 1, none⟩ = some (.int .u32 (c : Int)) ∧ x.cell? ⟨b, off + i * 8 + 2, none⟩ = some (.int .u32 0) ∧ x.cell? ⟨b, off + i * 8 + 3, none⟩ = some (.int .u16 0) ∧ x.cell? ⟨b, off + i * 8 + 4, none⟩ = some (.int .u16 0) ∧ x.cell? ⟨b, off + i * 8 + 5, none⟩ = some (.int .u32 ((i : Int) + 50)) ∧ x.cell? ⟨b, off + i * 8 + 6, none⟩ = some (.int .u32 0) ∧ x.cell? ⟨b, off + i * 8 + 7, none⟩ = some (.slice (ELY i).a (ELY i).n (ELY i).c))
                    (first | with_reducible exact hS0 | with_reducible exact hS1 | with_reducible exact hS2 | go_keep)
                    (first
                      | (go_simp; go_at_call 43; ((with_reducible refine (HPG.out _).mono ?_)); (intro e wa hr; obtain ⟨G, rfl, g1, g2, g3, g4, hba⟩ := hr; have HBa := Lib.hid (bel_trans HB0.out hba); have HGG := Lib.hid (And.intro g1 g3); have hS1 := HCC.out wa HBa.out; clear g1 g2 g3 g4 hba))
                      | (go_simp; go_at_call 46; ((with_reducible refine (HSM.out _ _ (bel_trans HBV.out HBa.out) HGG.out.2 HGG.out.1).mono ?_)); (intro e wb hr; obtain ⟨rfl, hbb⟩ := hr; have HBb := Lib.hid (bel_trans HBa.out hbb); have hS2 := HCC.out wb HBb.out; clear hbb)))
                  all_goals
                    clear hS0 hS1 hS2
                    go_wp2
                    go_roundw
                    case rel => exact ⟨i + 1, by omega, by go_num, bel_trans HBV.out HBb.out⟩
                    case measure => simp [intOf]; omega
                · obtain rfl : i = Z := by omega
                  have t1 : decide (i < i) = false := by simp
                  have t1' : decide ((i : Int) < (i : Int)) = false := by simp
                  clear hlt
                  go_wp2
                  go_ret
                  exact ⟨rfl, bel_trans HB9.out HBV.out⟩
end Go.Proofs.Ytallambldbhibaa
