/- StageSpoilt: the walk. -/
import Derived.Test.YtallambldbhibaaStgSpo
import Derived.Test.YtallambldbhibaaWithN
import Derived.Test.YtallambldbhibaaStageBlocksWalk
namespace Go.Proofs.Ytallambldbhibaa
open Go.RowKit Go.Deep

theorem mod1_eq (n : Nat) (x : Int) (h0 : 1 ≤ n) (h1 : n ≤ 1000) : ∃ i : Nat, i < n ∧ wrap64 ((IntKind.u64.wrap x).tmod (n : Int)) = (i : Int) ∧ IntKind.i64.wrap ((IntKind.u64.wrap x).tmod (n : Int)) = (i : Int) := by
  obtain ⟨k, rfl⟩ : ∃ k, n = k + 1 := ⟨n - 1, by omega⟩
  obtain ⟨i, h2, h3, h4⟩ := modn_eq k x (by omega)
  exact ⟨i, by omega, by rw [show ((k + 1 : Nat) : Int) = (k : Int) + 1 by omega]; exact h3, by rw [show ((k + 1 : Nat) : Int) = (k : Int) + 1 by omega]; exact h4⟩
theorem spoiltHead (R : Nat) (nv av : Int) (h5 : 5 ≤ R) (h20 : R ≤ 20) : ∃ n0 n k : Nat, (1 ≤ n ∧ n ≤ R ∧ k < n) ∧ wrap64 ((IntKind.u64.wrap nv).tmod (R : Int)) = (n0 : Int) ∧ IntKind.i64.wrap ((IntKind.u64.wrap nv).tmod (R : Int)) = (n0 : Int) ∧ wrap64 (1 + (n0 : Int)) = (n : Int) ∧ IntKind.i64.wrap (1 + (n0 : Int)) = (n : Int) ∧ wrap64 ((IntKind.u64.wrap av).tmod (n : Int)) = (k : Int) ∧ IntKind.i64.wrap ((IntKind.u64.wrap av).tmod (n : Int)) = (k : Int) ∧ IntKind.u64.wrap (R : Int) = (R : Int) ∧ IntKind.u64.wrap (n : Int) = (n : Int) ∧ (R : Int) ≠ 0 ∧ ((R : Int) == 0) = false ∧ (n : Int) ≠ 0 ∧ ((n : Int) == 0) = false := by
  obtain ⟨n0, hn0, un, un'⟩ := mod1_eq R nv (by omega) (by omega)
  obtain ⟨k, hk, uk, uk'⟩ := mod1_eq (n0 + 1) av (Nat.le_add_left 1 n0) (Nat.le_trans hn0 (Nat.le_trans h20 (by decide)))
  refine ⟨n0, n0 + 1, k, ⟨Nat.le_add_left 1 n0, hn0, hk⟩, un, un', ?_, ?_, uk, uk', ?_, ?_, ?_, ?_, ?_, ?_⟩
  · clear un un' uk uk'; rw [IntWalk.wrap64_in _ (by omega)]; omega
  · clear un un' uk uk'; rw [IntKind.wrap_i64]; omega
  · clear un un' uk uk'; rw [IntKind.wrap_u64]; omega
  · clear un un' uk uk'; rw [IntKind.wrap_u64]; omega
  · clear un un' uk uk'; omega
  · clear un un' uk uk'; simp; omega
  · clear un un' uk uk'; omega
  · clear un un' uk uk'; simp; omega
set_option maxRecDepth 100000 in
set_option maxHeartbeats 2000000 in
theorem stageSpoilt_big (ch nv av : Int) (bo : Bool) (pa : Option Addr) (m pc : Nat) (w : World) (hm : 200 < m) (_hmx : m ≤ maxLen) :
    Calls Try.prog 9 #[.agg #[.int .i64 ch, .int .i64 nv, .int .i64 av, .bool bo, .slice pa m pc]] w fun e w' => e = .returned (.bool true) ∧ Below w.heap.size w w' := by
  have HTW := Lib.hid twice_any
  have t1 : decide ((200 : Int) < (m : Int)) = true := by simp; omega
  have t2 : decide (200 < m) = true := by simpa using hm
  unfold maxLen at _hmx
  go_enter Try.func9, Try.ntmps9
  go_upto_region 1 with fail
  have l0 := heap_alloc_new w (.cells #[.int .i64 ch, .int .i64 nv, .int .i64 av, .bool bo, .slice pa m pc] 103)
  have hb0 := bel_alloc (Below.refl _ w) (.cells #[.int .i64 ch, .int .i64 nv, .int .i64 av, .bool bo, .slice pa m pc] 103)
  obtain ⟨w0, hw0⟩ : ∃ x, x = w.alloc (.cells #[.int .i64 ch, .int .i64 nv, .int .i64 av, .bool bo, .slice pa m pc] 103) := ⟨_, rfl⟩
  obtain ⟨cb, hcb⟩ : ∃ x, x = w.heap.size := ⟨_, rfl⟩
  rw [← hw0, ← hcb] at l0
  rw [← hw0] at hb0
  rw [← hw0, ← hcb]
  have hc5 : ∀ W : World, W.heap[cb]? = some (.cells #[.int .i64 ch, .int .i64 nv, .int .i64 av, .bool bo, .slice pa m pc] 103 (0, 0)) → W.cell? ⟨cb, 0, none⟩ = some (.int .i64 ch) ∧ W.cell? ⟨cb, 1, none⟩ = some (.int .i64 nv) ∧ W.cell? ⟨cb, 2, none⟩ = some (.int .i64 av) ∧ W.cell? ⟨cb, 3, none⟩ = some (.bool bo) ∧ W.cell? ⟨cb, 4, none⟩ = some (.slice pa m pc) := fun W h => by simp [World.cell?, h]
  obtain ⟨c0, c1, c2, c3, c4⟩ := hc5 _ l0
  have HB0 := Lib.hid hb0
  clear hw0 hcb hb0 l0 hc5
  go_quiet (fail)
  have HB1 := Lib.hid (bel_trans HB0.out (show Below w0.heap.size w0 (w0.drewN nq) from ⟨rfl, rfl, rfl, Nat.le_refl _, fun _ _ => rfl⟩))
  obtain ⟨w1, hw1⟩ : ∃ x, x = w0.drewN nq := ⟨_, rfl⟩
  rw [← hw1] at HB1 ⊢
  clear hw1 c0 c1 c2 c3 c4
  go_wp2_with fail
  ((with_reducible refine (HTW.out _).mono ?_))
  rintro e w2 ⟨rfl, hb2⟩
  have HB2 := Lib.hid (bel_trans HB1.out hb2)
  clear hb2
  go_wp2_with fail
  ((with_reducible refine (HTW.out _).mono ?_))
  rintro e w3 ⟨rfl, hb3⟩
  have HB3 := Lib.hid (bel_trans HB2.out hb3)
  clear hb3
  go_wp2
  go_ret
  exact ⟨rfl, HB3.out⟩
theorem far7 {W : World} {b k o : Nat} {v u0 u1 u2 u3 u4 u5 u6 : Value} (h : W.cell? ⟨k, o, none⟩ = some v) (hne : k ≠ b) : (((((((W.setCell ⟨b, 0, none⟩ u0).setCell ⟨b, 1, none⟩ u1).setCell ⟨b, 2, none⟩ u2).setCell ⟨b, 3, none⟩ u3).setCell ⟨b, 4, none⟩ u4).setCell ⟨b, 5, none⟩ u5).setCell ⟨b, 6, none⟩ u6).cell? ⟨k, o, none⟩ = some v := by
  refine (World.cell?_of_block (w := W) (a := ⟨k, o, none⟩) ?_).trans h
  repeat rw [heap_setCell_other _ _ k _ hne]
theorem bel_seven {w w1 : World} (hb : Below w.heap.size w w1) (b : Nat) (h : w.heap.size ≤ b) (v0 v1 v2 v3 v4 v5 v6 : Value) :
    Below w.heap.size w (((((((w1.setCell ⟨b, 0, none⟩ v0).setCell ⟨b, 1, none⟩ v1).setCell ⟨b, 2, none⟩ v2).setCell ⟨b, 3, none⟩ v3).setCell ⟨b, 4, none⟩ v4).setCell ⟨b, 5, none⟩ v5).setCell ⟨b, 6, none⟩ v6) :=
  ((((((hb.setCell (p := ⟨b, 0, none⟩) h _).setCell (p := ⟨b, 1, none⟩) h _).setCell (p := ⟨b, 2, none⟩) h _).setCell (p := ⟨b, 3, none⟩) h _).setCell (p := ⟨b, 4, none⟩) h _).setCell (p := ⟨b, 5, none⟩) h _).setCell (p := ⟨b, 6, none⟩) h _
theorem pgB_len (k c : Nat) : (pgB k c).length = 320 := by
  unfold pgB
  rw [List.length_append, pgL_len, sealB_len]
set_option maxRecDepth 100000 in
set_option maxHeartbeats 4000000 in
theorem stageSpoilt_both (ch nv av : Int) (pa : Option Addr) (m pc : Nat) (p : List Nat) (w : World) (hm : m ≤ 200) (hp : Row w pa m p) (hpn : pa = none → pc = 0) :
    Calls Try.prog 9 #[.agg #[.int .i64 ch, .int .i64 nv, .int .i64 av, .bool true, .slice pa m pc]] w fun e w' => e = .returned (.bool true) ∧ Below w.heap.size w w' := by
  have HSH := Lib.hid fun x : World => stgShapeL_any ch x
  have HTW := Lib.hid twice_any
  obtain ⟨N, P, R, hN, hP, hR, hN3, hN8, hP1, hP4, hRoom, p1, p1', p2, p3, hgood⟩ := stgHead ch
  rw [← hN] at HSH
  have HNW := Lib.hid fun x : World => ramNew_any N 20 5 256 x hgood
  rw [show ((20 : Nat) : Int) = 20 from rfl, show ((5 : Nat) : Int) = 5 from rfl, show ((256 : Nat) : Int) = 256 from rfl] at HNW
  have hR5 : 5 ≤ R := by omega
  have hR20 : R ≤ 20 := by omega
  obtain ⟨n0, n, k, hnum, HW⟩ := spoiltHead R nv av hR5 hR20
  have HWW := Lib.hid HW
  clear HW
  have hbm : decide ((200 : Int) < (m : Int)) = false := by simp; omega
  have hbm' : decide (200 < m) = false := by simp; omega
  have HRB : Hid (n ≤ 20 ∧ n ≤ R ∧ 1 ≤ n ∧ 0 ≤ 0) := Lib.hid ⟨Nat.le_trans hnum.2.1 hR20, hnum.2.1, hnum.1, Nat.le_refl _⟩
  have HRR := Lib.hid hRoom
  have HKN : Hid (k < n ∧ k < roomN N 5) := Lib.hid ⟨hnum.2.2, by rw [hRoom]; exact Nat.lt_of_lt_of_le hnum.2.2 hnum.2.1⟩
  have HSPT := Lib.hid fun x : World => spot_ok N 20 5 256 k x hgood HKN.out.2
  rw [show ((20 : Nat) : Int) = 20 from rfl, show ((5 : Nat) : Int) = 5 from rfl, show ((256 : Nat) : Int) = 256 from rfl] at HSPT
  obtain ⟨hs1, hs2⟩ := spot_in hgood HKN.out.2
  obtain ⟨fi, hfi⟩ : ∃ f, f = firN N k := ⟨_, rfl⟩
  obtain ⟨ro, hro⟩ : ∃ r, r = rowN N k := ⟨_, rfl⟩
  rw [← hfi, ← hro] at HSPT
  have HFI := Lib.hid (And.intro hfi hro)
  have HFB : Hid (fi ≤ 16 ∧ ro ≤ 5) := Lib.hid ⟨by omega, by omega⟩
  have HMM := Lib.hid hm
  have HPP := Lib.hid (And.intro hp hpn)
  clear hN hP hR hN3 hN8 hP1 hP4 hRoom hgood hnum hs1 hs2 hfi hro hp hpn hR5 hR20
  obtain ⟨un, un', wn, wn', uk, uk', u0, u1, nz, nz', nw, nw'⟩ := HWW.out
  clear HWW
  go_enter Try.func9, Try.ntmps9
  go_upto_region 1 with fail
  have l0 := heap_alloc_new w (.cells #[.int .i64 ch, .int .i64 nv, .int .i64 av, .bool true, .slice pa m pc] 103)
  have hb0 := bel_alloc (Below.refl _ w) (.cells #[.int .i64 ch, .int .i64 nv, .int .i64 av, .bool true, .slice pa m pc] 103)
  obtain ⟨w0, hw0⟩ : ∃ x, x = w.alloc (.cells #[.int .i64 ch, .int .i64 nv, .int .i64 av, .bool true, .slice pa m pc] 103) := ⟨_, rfl⟩
  obtain ⟨cb, hcb⟩ : ∃ x, x = w.heap.size := ⟨_, rfl⟩
  rw [← hw0, ← hcb] at l0
  rw [← hw0] at hb0
  rw [← hw0, ← hcb]
  have hc5 : ∀ W : World, W.heap[cb]? = some (.cells #[.int .i64 ch, .int .i64 nv, .int .i64 av, .bool true, .slice pa m pc] 103 (0, 0)) → W.cell? ⟨cb, 0, none⟩ = some (.int .i64 ch) ∧ W.cell? ⟨cb, 1, none⟩ = some (.int .i64 nv) ∧ W.cell? ⟨cb, 2, none⟩ = some (.int .i64 av) ∧ W.cell? ⟨cb, 3, none⟩ = some (.bool true) ∧ W.cell? ⟨cb, 4, none⟩ = some (.slice pa m pc) := fun W h => by simp [World.cell?, h]
  obtain ⟨c0, c1, c2, c3, c4⟩ := hc5 _ l0
  have HB0 := Lib.hid hb0
  clear hw0 hcb hb0 l0 hc5
  go_quiet (fail)
  have HB1 := Lib.hid (bel_trans HB0.out (show Below w0.heap.size w0 (w0.drewN nq) from ⟨rfl, rfl, rfl, Nat.le_refl _, fun _ _ => rfl⟩))
  obtain ⟨w1, hw1⟩ : ∃ x, x = w0.drewN nq := ⟨_, rfl⟩
  rw [← hw1] at HB1 ⊢
  clear hw1 c0 c1 c2 c3 c4
  go_wp2_with fail
  ((with_reducible refine (HTW.out _).mono ?_))
  rintro e w2 ⟨rfl, hb2⟩
  have HB2 := Lib.hid (bel_trans HB1.out hb2)
  clear hb2
  go_wp2_with fail
  ((with_reducible refine (HSH.out _).mono ?_))
  rintro e w3 ⟨rfl, hb3⟩
  have l4 := heap_alloc_new w3 (.cells #[.int .i64 (N : Int), .int .i64 20, .int .i64 5, .int .i64 256] 54)
  have hb4 := bel_trans HB2.out (bel_trans hb3 (bel_alloc (Below.refl _ w3) (.cells #[.int .i64 (N : Int), .int .i64 20, .int .i64 5, .int .i64 256] 54)))
  go_upto_region 5 with fail
  obtain ⟨w4, hw4⟩ : ∃ x, x = w3.alloc (.cells #[.int .i64 (N : Int), .int .i64 20, .int .i64 5, .int .i64 256] 54) := ⟨_, rfl⟩
  obtain ⟨gb, hgb⟩ : ∃ x, x = w3.heap.size := ⟨_, rfl⟩
  rw [← hw4, ← hgb] at l4
  rw [← hw4] at hb4
  rw [← hw4, ← hgb]
  have HL4 := Lib.hid l4
  have HB4 := Lib.hid hb4
  obtain ⟨g0, g1, g2, g3⟩ := four_at l4
  clear hw4 hgb l4 hb3 hb4
  go_wp2_with fail
  ((with_reducible refine (HNW.out _).mono ?_))
  rintro e w5 ⟨rb, pb, gb2, rfl, hr5, hb5⟩
  have HB5 := Lib.hid (bel_trans HB4.out hb5)
  obtain ⟨B, hB⟩ : ∃ B, B = w4.heap.size := ⟨_, rfl⟩
  rw [← hB] at hr5
  have HI : Hid (StgI B rb N 9 N (cntF 0 0) numF (rsNew rb pb gb2 N 20 5 256) w5) := Lib.hid (by rw [← cntF_z]; exact stgI_new hr5 (by rw [hB]; exact hb5.size) N)
  have HWB : Hid (w.heap.size ≤ B) := Lib.hid (by rw [hB]; exact HB4.out.size)
  have HGB : Hid (gb < B ∧ w5.heap[gb]? = some (.cells #[.int .i64 (N : Int), .int .i64 20, .int .i64 5, .int .i64 256] 54 (0, 0))) := Lib.hid ⟨by rw [hB]; exact (Array.getElem?_eq_some_iff.1 HL4.out).1, (hb5.block _ (Array.getElem?_eq_some_iff.1 HL4.out).1).trans HL4.out⟩
  have HBWX : Hid (∀ x : World, Below B w5 x → Below w.heap.size w x) := Lib.hid fun x hx => HB5.out.trans (hx.mono HWB.out)
  have HBI : Hid (Below B w5 w5) := Lib.hid (Below.refl _ _)
  clear g0 g1 g2 g3 hb5 hr5 hB HL4
  obtain ⟨g0, g1, g2, g3⟩ := four_at HGB.out.2
  go_wp2_with fail
  clear g0 g1 g2 g3 u0 u1 nz nz' nw nw' un un' uk uk' wn wn' p1 p1' p2 p3 hbm hbm'
  have hn20 : n ≤ 20 := HRB.out.1
  have hwb0 : Hid (B ≤ B) := Lib.hid (Nat.le_refl _)
  go_loopw [11] (fun iv wr => ∃ (i : Nat) (s' : RS), i ≤ n ∧ iv = .int .i64 (i : Int) ∧ StgI B rb N 9 N (cntF i 0) numF s' wr ∧ Below B w5 wr) (fun iv _ => (n - intOf iv).toNat)
  case atStart => exact ⟨0, _, Nat.zero_le _, rfl, HI.out, HBI.out⟩
  case round =>
    obtain ⟨i, s', hi, rfl, hI, hbw⟩ := hrel
    have HJ := Lib.hid hI
    have HBW := Lib.hid hbw
    clear hI hbw HI HBI
    by_cases hlt : i < n
    · have t1 : decide (i < n) = true := by simpa using hlt
      have t1' : decide ((i : Int) < (n : Int)) = true := by simpa using hlt
      have HPG := Lib.hid fun x : World => stgPage_any i 9 x (by have := HRB.out; omega) (by omega)
      rw [show ((9 : Nat) : Int) = 9 from rfl] at HPG
      go_wp2_with fail
      ((with_reducible refine (HPG.out _).mono ?_))
      rintro e w6 ⟨E, rfl, f1, f2, f3, f4, hb6⟩
      have HPU : Hid (Calls Try.prog 42 #[.iface 56 (.pointer (some ⟨rb, 0, none⟩)), .int .i64 0, .int .i64 (i : Int), .agg #[.int .u8 4, .int .u32 9, .int .u32 0, .int .u16 0, .int .u16 0, .int .u32 ((i : Int)), .int .u32 0, .slice E.a E.n E.c]] w6 fun e w' => e = .returned (.int .i64 0) ∧ (∃ s', StgI B rb N 9 N (cntF (i + 1) 0) numF s' w') ∧ Below B w6 w') := Lib.hid (by
        have hpu := stgI_put (HJ.out.step hb6) 0 i (i) (by omega) rfl (by rw [HRR.out]; have := HRB.out; omega) rfl (by have := HRB.out; omega) (by omega) (by simp only [cntF]; have := HRB.out; simp; omega) E f1 f2 f3 (fun x hx => HJ.out.ram.fresh (f4 x hx))
        rw [cntF_0, show ((9 : Nat) : Int) = 9 from rfl] at hpu
        exact hpu)
      have HB6 : Hid (Below B w5 w6) := Lib.hid (HBW.out.trans (hb6.mono HJ.out.lo))
      clear f1 f2 f3 f4 hb6
      go_wp2_with fail
      ((with_reducible refine HPU.out.mono ?_))
      rintro e w7 ⟨rfl, hI7, hb7⟩
      have HI7 := Lib.hid hI7
      have HB7 := Lib.hid (HB6.out.trans hb7)
      clear hI7 hb7
      go_wp2
      go_roundw
      case rel =>
        obtain ⟨s7, h7⟩ := HI7.out
        exact ⟨i + 1, s7, by omega, by go_num, h7, HB7.out⟩
      case measure => simp [intOf]; omega
    · obtain rfl : i = n := by omega
      have t1 : decide (i < i) = false := by simp
      have t1' : decide ((i : Int) < (i : Int)) = false := by simp
      clear hlt hi
      obtain ⟨n, hnn⟩ : ∃ n, n = i := ⟨_, rfl⟩
      subst hnn
      have HSP := Lib.hid (spI_of (n := n) (k := k) HJ.out (by simp [cntF]) (fun j => by simp [numF]))
      obtain ⟨g0, g1, g2, g3⟩ := four_at ((HBW.out.block gb HGB.out.1).trans HGB.out.2)
      go_wp2_with fail
      ((with_reducible refine (HSPT.out _).mono ?_))
      rintro e w9 ⟨rfl, hb9⟩
      have HS9 := Lib.hid (HSP.out.step hb9)
      have HB9 : Hid (Below B w5 w9) := Lib.hid (HBW.out.trans (hb9.mono HJ.out.lo))
      clear hb9 g0 g1 g2 g3 t1 t1'
      go_upto_region 17 with fail
      go_loopw [15] (fun iv wr => ∃ (i : Nat) (s' : RS), i ≤ 2 ∧ iv = .int .i64 (i : Int) ∧ SpI B rb N n k i s' wr ∧ Below B w5 wr) (fun iv _ => (2 - intOf iv).toNat)
      case atStart => exact ⟨0, _, Nat.zero_le _, rfl, HS9.out, HB9.out⟩
      case round =>
        obtain ⟨i, s', hi, rfl, hI, hbw⟩ := hrel
        clear HJ HBW HSP HS9 HB9
        have HJ0 := Lib.hid hI
        have HBW := Lib.hid hbw
        clear hI hbw
        by_cases hlt : i < 2
        · have t1 : decide (i < 2) = true := by simpa using hlt
          have t1' : decide ((i : Int) < 2) = true := by simp; omega
          have HJ : Hid (SpI B rb N n k i s' wr) := HJ0
          clear HJ0
          obtain ⟨b0, hb0⟩ : ∃ b, b = ((i : Int) == 0) := ⟨_, rfl⟩
          have t2 : ((i : Int) == 0) = b0 := hb0.symm
          clear hb0
          cases b0 with
          | true =>
            have hkf := HJ.out.f k i HKN.out.2 (by omega)
            obtain ⟨q0, hq0, hq0l⟩ := hkf.1 HKN.out.1 (.inr (Nat.le_refl _))
            rw [← HFI.out.1, ← HFI.out.2] at hq0
            have hok3 : ok3 (fi + i, 4, ro) := ⟨by have := HFB.out; show fi + i ≤ 100000; omega, by show 4 ≤ 100000; omega, by have := HFB.out; show ro ≤ 100000; omega⟩
            obtain ⟨hqp, hqn, _, _⟩ := HJ.out.ram.parts _ _ hok3 hq0
            rw [HJ.out.at_.2.2.2.2.1] at hqn
            obtain ⟨qa, qn, qc, ql⟩ := q0
            simp only at hq0l hqn hqp
            subst hqn
            subst hq0l
            obtain ⟨qb, qo, hqa, _⟩ := hqp.1.2.2 (by show 0 < 320; omega)
            simp only at hqa
            subst hqa
            have HQP := Lib.hid hqp
            have HHH : Hid (∀ x : World, Below wr.heap.size wr x → SpI B rb N n k i s' x) := Lib.hid fun x hx => HJ.out.step hx
            have HLK : Hid (∀ x : World, Below wr.heap.size wr x → (Instr.lookup 63 (.map (some s'.pb)) (.agg #[.int .i64 ((fi : Int) + (i : Int)), .int .i64 4, .int .i64 (ro : Int)]) false).run Try.prog x = .ok (.slice (some ⟨qb, qo, none⟩) 320 qc) x) := Lib.hid fun x hx => by
              have h1 := (HJ.out.ram.step hx).pages
              have h2 := h1.lookup keyF3 Try.underlying63 (zeroB x) (x := (fi + i, 4, ro)) hok3
              have h3 : (s'.pageV (fi + i, 4, ro)).getD (.slice none 0 0) = .slice (some ⟨qb, qo, none⟩) 320 qc := by
                unfold RS.pageV
                rw [hq0]
                rfl
              rw [h3] at h2
              rw [show kv3 (fi + i, 4, ro) = .agg #[.int .i64 ((fi : Int) + (i : Int)), .int .i64 4, .int .i64 (ro : Int)] by unfold kv3; simp] at h2
              exact h2
            have HOK3 := Lib.hid hok3
            clear hkf hq0 hok3 hqp
            have hfi8 : fi ≤ 16 := HFB.out.1
            go_upto_region 21 with fail
            have l6 := heap_alloc_new wr (.cells #[.int .i64 ((fi : Int) + (i : Int)), .int .i64 4, .int .i64 (ro : Int)] 70)
            have hb6 := bel_alloc (Below.refl _ wr) (.cells #[.int .i64 ((fi : Int) + (i : Int)), .int .i64 4, .int .i64 (ro : Int)] 70)
            obtain ⟨wk, hwk⟩ : ∃ x, x = wr.alloc (.cells #[.int .i64 ((fi : Int) + (i : Int)), .int .i64 4, .int .i64 (ro : Int)] 70) := ⟨_, rfl⟩
            obtain ⟨kb, hkb⟩ : ∃ x, x = wr.heap.size := ⟨_, rfl⟩
            rw [← hwk, ← hkb] at l6
            rw [← hwk] at hb6
            rw [← hwk, ← hkb]
            have HBK := Lib.hid hb6
            have HSS : Hid (∀ x : World, Below wk.heap.size wk x → (x.cell? ⟨rb, 4, none⟩ = some (.map (some s'.pb)) ∧ x.cell? ⟨kb, 0, none⟩ = some (.int .i64 ((fi : Int) + (i : Int))) ∧ x.cell? ⟨kb, 1, none⟩ = some (.int .i64 4) ∧ x.cell? ⟨kb, 2, none⟩ = some (.int .i64 (ro : Int)))) := Lib.hid fun x hx => by
              obtain ⟨a0, a1, a2⟩ := three_at ((hx.block _ (Array.getElem?_eq_some_iff.1 l6).1).trans l6)
              have h4 := (HHH.out x (bel_trans HBK.out hx)).ram.c.2.2.2.2.1
              rw [HJ.out.at_.1] at h4
              exact ⟨h4, a0, a1, a2⟩
            have HKB : Hid (wr.heap.size ≤ kb ∧ kb < wk.heap.size) := Lib.hid ⟨by omega, (Array.getElem?_eq_some_iff.1 l6).1⟩
            have HWI := Lib.hid fun (x : World) (hx : Below wk.heap.size wk x) => withN_any qb qo 320 qc (pgB k 9) 3 pa m pc p x ((HQP.out.step (bel_trans HBK.out hx)).1) HQP.out.2.1 (by have := HQP.out.2.2.1; unfold maxLen at this; exact this) (by have := HMM.out; omega) (by omega) (row_keep HPP.out.1 (HBWX.out x (HBW.out.trans ((bel_trans HBK.out hx).mono HJ.out.lo))) (Nat.le_refl _)) HPP.out.2
            rw [show ((3 : Nat) : Int) = 3 from rfl] at HWI
            obtain ⟨xl, hxl⟩ : ∃ xl, xl = (pgB k 9).take 3 ++ p ++ (pgB k 9).drop (3 + m) := ⟨_, rfl⟩
            rw [← hxl] at HWI
            have HXL : Hid (xl.length = 320) := Lib.hid (by
              rw [hxl, List.length_append, List.length_append, List.length_take, List.length_drop, pgB_len, HPP.out.1.1]
              have := HMM.out
              omega)
            have HB0 : Hid (Below wk.heap.size wk wk.drew) := Lib.hid (Below.refl _ _).drew
            have hS0 := HSS.out wk.drew HB0.out
            have hK0 := HLK.out wk.drew (bel_trans HBK.out HB0.out)
            clear l6 hb6 hwk hkb hxl
            go_wp2_with fail
            go_region_held3 (fun x => x.cell? ⟨rb, 4, none⟩ = some (.map (some s'.pb)) ∧ x.cell? ⟨kb, 0, none⟩ = some (.int .i64 ((fi : Int) + (i : Int))) ∧ x.cell? ⟨kb, 1, none⟩ = some (.int .i64 4) ∧ x.cell? ⟨kb, 2, none⟩ = some (.int .i64 (ro : Int)) ∧ (Instr.lookup 63 (.map (some s'.pb)) (.agg #[.int .i64 ((fi : Int) + (i : Int)), .int .i64 4, .int .i64 (ro : Int)]) false).run Try.prog x = .ok (.slice (some ⟨qb, qo, none⟩) 320 qc) x)
              (first | with_reducible exact ⟨hS0.1, hS0.2.1, hS0.2.2.1, hS0.2.2.2, hK0⟩ | with_reducible exact ⟨hS1.1, hS1.2.1, hS1.2.2.1, hS1.2.2.2, hK1⟩ | go_keep)
              ((go_simp; go_at_call 20; ((with_reducible refine (HWI.out _ HB0.out).mono ?_)); (intro e w8 hr; obtain ⟨X, rfl, hXl, hXn, hXk, hb8, hXf⟩ := part_ret' hr; have HB8 := Lib.hid (bel_trans HB0.out hb8); have HX := Lib.hid (And.intro hXl (And.intro hXn (And.intro hXk (far_mono HB0.out.size hXf)))); have hS1 := HSS.out w8 HB8.out; have hK1 := HLK.out w8 (bel_trans HBK.out HB8.out); clear hr hXl hXn hXk hb8 hXf)))
            all_goals
              clear hS0 hS1 hK0 hK1
              obtain ⟨xa, xn, xc, xll⟩ := X
              have hxx : xll = xl ∧ xn = 320 := ⟨HX.out.1, by have := HX.out.2.1; rw [HXL.out] at this; exact this⟩
              obtain ⟨rfl, rfl⟩ := hxx
              obtain ⟨xb, xo, hxa, _⟩ := HX.out.2.2.1.1.2.2 (by show 0 < 320; omega)
              simp only at hxa
              subst hxa
              dsimp only
              have HXP := Lib.hid HX.out.2.2
              have hx1 : 320 ≤ xc := HXP.out.1.2.1
              have hx2 : ¬ xc = 256 := by omega
              have hx3 : xc ≤ 9223372036854775807 := by have := HXP.out.1.2.2.1; unfold maxLen at this; omega
              have hx4 : (256 : Int) ≤ (xc : Int) := by omega
              obtain ⟨H, hH⟩ : ∃ H, H = openH (xll.take 256) (xll.drop 256) := ⟨_, rfl⟩
              obtain ⟨bb, hbb⟩ : ∃ b, b = decide (OpenOk (xll.take 256) (xll.drop 256)) := ⟨_, rfl⟩
              have HOP : Hid (∀ x : World, Below w8.heap.size w8 x → Calls Try.prog 47 #[.slice (some ⟨xb, xo, none⟩) 256 xc, .slice (some ⟨xb, xo + 256, none⟩) 64 (xc - 256)] x fun e w' => e = .returned (.tuple #[.agg #[.int .u8 (H.ki : Int), .int .u32 (H.ep : Int), .int .u32 (H.ba : Int), .int .u16 (H.ix : Int), .int .u16 (H.ct : Int), .int .u32 (H.bl : Int), .int .u32 (H.mo : Int)], .bool bb]) ∧ Below x.heap.size x w') := Lib.hid fun x hx => by
                have hrow : Row x (some ⟨xb, xo, none⟩) 320 xll := row_keep HXP.out.1.1 hx (Nat.le_refl _)
                have hD : PartOk x ⟨some ⟨xb, xo, none⟩, 256, xc, xll.take 256⟩ := ⟨row_front hrow 256 (by omega), by show 256 ≤ xc; omega, HXP.out.1.2.2.1, fun h => by cases h⟩
                have hO : PartOk x ⟨some ⟨xb, xo + 256, none⟩, 64, xc - 256, xll.drop 256⟩ := ⟨row_suffix hrow 256 (by omega), by show 64 ≤ xc - 256; omega, Nat.le_trans (Nat.sub_le _ _) HXP.out.1.2.2.1, fun h => by cases h⟩
                obtain ⟨H2, b2, e1, e2, h⟩ := open_parts x _ _ hD hO (by show 256 ≤ 1000; omega)
                rw [hH, hbb, ← e1, ← e2]
                exact h
              have HHB := Lib.hid (And.intro hH hbb)
              clear hH hbb
              have HC0 : Hid (Below w8.heap.size w8 w8.drew) := Lib.hid (Below.refl _ _).drew
              have hS0 := (HSS.out w8.drew (bel_trans HB8.out HC0.out)).1
              have HNE : Hid (rb ≠ w8.heap.size) := Lib.hid (by
                have h1 := HJ.out.ram.rlt
                rw [HJ.out.at_.1] at h1
                have h2 := HBK.out.size
                have h3 := HB8.out.size
                omega)
              go_upto_region 22 with fail
              go_region_held3 (fun x => x.cell? ⟨rb, 4, none⟩ = some (.map (some s'.pb)))
                (first | with_reducible exact hS0 | with_reducible exact hS1 | with_reducible exact far7 hS1 HNE.out | with_reducible exact (HSS.out _ (bel_trans HB8.out ((bel_alloc (Below.refl _ w8) _).drew))).1 | with_reducible exact (HSS.out _ (bel_trans HB8.out (bel_alloc HC9.out _))).1 | go_keep)
                (first
                  | (go_simp; go_at_call 47; ((with_reducible refine (HOP.out _ HC0.out).mono ?_)); (intro e w9 hr; obtain ⟨rfl, hb9⟩ := hr; have HC9 := Lib.hid (bel_trans HC0.out hb9); have hS1 := (HSS.out w9 (bel_trans HB8.out HC9.out)).1; clear hb9))
                  | (go_simp; go_at_call 47; ((with_reducible refine (HOP.out _ ((bel_alloc (Below.refl _ w8) _).drew)).mono ?_)); (intro e w9 hr; obtain ⟨rfl, hb9⟩ := hr; have HC9 := Lib.hid (bel_trans ((bel_alloc (Below.refl _ w8) (.cells #[.int .u8 0, .int .u32 0, .int .u32 0, .int .u16 0, .int .u16 0, .int .u32 0, .int .u32 0] 27)).drew) hb9); have HXA := Lib.hid ((hb9.block w8.heap.size (by simp)).trans (heap_alloc_new w8 (.cells #[.int .u8 0, .int .u32 0, .int .u32 0, .int .u16 0, .int .u16 0, .int .u32 0, .int .u32 0] 27))); obtain ⟨x0, x1, x2, x3, x4, x5, x6⟩ := seven_at HXA.out; have xf := free_at HXA.out; have hS1 := (HSS.out w9 (bel_trans HB8.out HC9.out)).1; clear hb9)))
              all_goals
                first
                  | (have HZ : Hid (Below w8.heap.size w8 (w9.alloc (.cells #[.int .u8 (H.ki : Int), .int .u32 (H.ep : Int), .int .u32 (H.ba : Int), .int .u16 (H.ix : Int), .int .u16 (H.ct : Int), .int .u32 (H.bl : Int), .int .u32 (H.mo : Int)] 27))) := Lib.hid (bel_alloc HC9.out _)
                     obtain ⟨wz, hwz⟩ : ∃ x, x = w9.alloc (.cells #[.int .u8 (H.ki : Int), .int .u32 (H.ep : Int), .int .u32 (H.ba : Int), .int .u16 (H.ix : Int), .int .u16 (H.ct : Int), .int .u32 (H.bl : Int), .int .u32 (H.mo : Int)] 27) := ⟨_, rfl⟩
                     rw [← hwz] at HZ ⊢
                     clear hwz)
                  | (have HZ : Hid (Below w8.heap.size w8 (((((((w9.setCell ⟨w8.heap.size, 0, none⟩ (.int .u8 (H.ki : Int))).setCell ⟨w8.heap.size, 1, none⟩ (.int .u32 (H.ep : Int))).setCell ⟨w8.heap.size, 2, none⟩ (.int .u32 (H.ba : Int))).setCell ⟨w8.heap.size, 3, none⟩ (.int .u16 (H.ix : Int))).setCell ⟨w8.heap.size, 4, none⟩ (.int .u16 (H.ct : Int))).setCell ⟨w8.heap.size, 5, none⟩ (.int .u32 (H.bl : Int))).setCell ⟨w8.heap.size, 6, none⟩ (.int .u32 (H.mo : Int)))) := Lib.hid (bel_seven HC9.out w8.heap.size (Nat.le_refl _) _ _ _ _ _ _ _)
                     clear x0 x1 x2 x3 x4 x5 x6 xf
                     obtain ⟨wz, hwz⟩ : ∃ x, x = (((((((w9.setCell ⟨w8.heap.size, 0, none⟩ (.int .u8 (H.ki : Int))).setCell ⟨w8.heap.size, 1, none⟩ (.int .u32 (H.ep : Int))).setCell ⟨w8.heap.size, 2, none⟩ (.int .u32 (H.ba : Int))).setCell ⟨w8.heap.size, 3, none⟩ (.int .u16 (H.ix : Int))).setCell ⟨w8.heap.size, 4, none⟩ (.int .u16 (H.ct : Int))).setCell ⟨w8.heap.size, 5, none⟩ (.int .u32 (H.bl : Int))).setCell ⟨w8.heap.size, 6, none⟩ (.int .u32 (H.mo : Int))) := ⟨_, rfl⟩
                     rw [← hwz] at HZ ⊢
                     clear hwz)
                have HZW : Hid (Below wr.heap.size wr wz) := Lib.hid (bel_trans HBK.out (bel_trans HB8.out HZ.out))
                clear hS0 hS1
                cases bb with
                | true =>
                  go_wp2
                  go_ret
                  exact ⟨rfl, HBWX.out _ (HBW.out.trans (HZW.out.mono HJ.out.lo))⟩
                | false =>
                  have hbad : ¬ OpenOk (xll.take 256) (xll.drop 256) := by
                    have h1 := HHB.out.2
                    simpa using h1.symm
                  have HJy := Lib.hid (SpI.step (SpI.step HJ.out HZW.out) (Below.refl _ wz).drew)
                  have hup0 := HJy.out.ram.pages.update keyF3 Try.underlying63 (x := (fi + i, 4, ro)) HOK3.out (.slice (some ⟨xb, xo, none⟩) 320 xc)
                  rw [show kv3 (fi + i, 4, ro) = .agg #[.int .i64 ((fi : Int) + (i : Int)), .int .i64 4, .int .i64 (ro : Int)] by unfold kv3; simp] at hup0
                  obtain ⟨w10, hup, hm10, hgr10, hsz10⟩ := hup0
                  have hpO : PartOk wz.drew ⟨some ⟨xb, xo, none⟩, 320, xc, xll⟩ := HXP.out.1.step (bel_trans HZ.out (Below.refl _ wz).drew)
                  have hff : wr.heap.size ≤ xb := Nat.le_trans HBK.out.size (HXP.out.2 _ rfl)
                  have hsp := spI_put HJy.out HKN.out.1 HKN.out.2 (by omega) w10 ⟨some ⟨xb, xo, none⟩, 320, xc, xll⟩ (by rw [← HFI.out.1, ← HFI.out.2]; exact hm10) hgr10 hsz10.symm hpO rfl (fun x hx => by cases hx; exact Nat.le_trans HJ.out.lo hff) (fun x hx => by cases hx; exact HJ.out.ram.fresh hff) hbad
                  rw [← HFI.out.1, ← HFI.out.2] at hsp
                  have hbw := hsp.2.below HJy.out.ram HJy.out.lo
                  have HB10 : Hid (Below B w5 w10) := Lib.hid ((HBW.out.trans (HZW.out.mono HJ.out.lo)).trans ((Below.refl B wz).drew.trans hbw))
                  have HI10 : Hid (∃ s7, SpI B rb N n k (i + 1) s7 w10) := Lib.hid ⟨_, hsp.1⟩
                  have hS0 := HSS.out wz.drew (bel_trans HB8.out (bel_trans HZ.out (Below.refl _ wz).drew))
                  have hpk : some kb ≠ some s'.pb := fun q => by
                    have h1 := HJ.out.ram.pages.lt
                    have h2 := HKB.out.1
                    rw [Option.some.inj q] at h2
                    omega
                  have hkz : wz.drew.heap[kb]? = w10.heap[kb]? := (hgr10.block kb (Nat.lt_of_lt_of_le HKB.out.2 (Nat.le_trans HB8.out.size (Nat.le_trans HZ.out.size (Below.refl wz.heap.size wz).drew.size))) (fun e => hpk e)).symm
                  have hS1 : w10.cell? ⟨rb, 4, none⟩ = some (.map (some s'.pb)) ∧ w10.cell? ⟨kb, 0, none⟩ = some (.int .i64 ((fi : Int) + (i : Int))) ∧ w10.cell? ⟨kb, 1, none⟩ = some (.int .i64 4) ∧ w10.cell? ⟨kb, 2, none⟩ = some (.int .i64 (ro : Int)) := by
                    refine ⟨?_, (World.cell?_of_block (w := wz.drew) (a := ⟨kb, 0, none⟩) hkz.symm).trans hS0.2.1, (World.cell?_of_block (w := wz.drew) (a := ⟨kb, 1, none⟩) hkz.symm).trans hS0.2.2.1, (World.cell?_of_block (w := wz.drew) (a := ⟨kb, 2, none⟩) hkz.symm).trans hS0.2.2.2⟩
                    have h4 := hsp.1.ram.c.2.2.2.2.1
                    have h5 := hsp.1.at_.1
                    rw [h5] at h4
                    exact h4
                  clear hm10 hgr10 hsz10 hpO hff hsp hbw hpk hkz hbad
                  go_upto_region 25 with fail
                  go_region_held3 (fun x => x.cell? ⟨rb, 4, none⟩ = some (.map (some s'.pb)) ∧ x.cell? ⟨kb, 0, none⟩ = some (.int .i64 ((fi : Int) + (i : Int))) ∧ x.cell? ⟨kb, 1, none⟩ = some (.int .i64 4) ∧ x.cell? ⟨kb, 2, none⟩ = some (.int .i64 (ro : Int)))
                    (first | with_reducible exact ⟨hS0.1, hS0.2.1, hS0.2.2.1, hS0.2.2.2⟩ | with_reducible exact ⟨hS1.1, hS1.2.1, hS1.2.2.1, hS1.2.2.2⟩ | go_keep) (fail)
                  all_goals
                    clear hS0 hS1
                    go_wp2
                    go_roundw
                    case rel =>
                      obtain ⟨s7, h7⟩ := HI10.out
                      exact ⟨i + 1, s7, Nat.succ_le_of_lt hlt, by go_num, h7, HB10.out⟩
                    case measure => simp [intOf]; omega
          | false =>
            have hkf := HJ.out.f k i HKN.out.2 (by omega)
            obtain ⟨q0, hq0, hq0l⟩ := hkf.1 HKN.out.1 (.inr (Nat.le_refl _))
            rw [← HFI.out.1, ← HFI.out.2] at hq0
            have hok3 : ok3 (fi + i, 4, ro) := ⟨by have := HFB.out; show fi + i ≤ 100000; omega, by show 4 ≤ 100000; omega, by have := HFB.out; show ro ≤ 100000; omega⟩
            obtain ⟨hqp, hqn, _, _⟩ := HJ.out.ram.parts _ _ hok3 hq0
            rw [HJ.out.at_.2.2.2.2.1] at hqn
            obtain ⟨qa, qn, qc, ql⟩ := q0
            simp only at hq0l hqn hqp
            subst hqn
            subst hq0l
            obtain ⟨qb, qo, hqa, _⟩ := hqp.1.2.2 (by show 0 < 320; omega)
            simp only at hqa
            subst hqa
            have HQP := Lib.hid hqp
            have HHH : Hid (∀ x : World, Below wr.heap.size wr x → SpI B rb N n k i s' x) := Lib.hid fun x hx => HJ.out.step hx
            have HLK : Hid (∀ x : World, Below wr.heap.size wr x → (Instr.lookup 63 (.map (some s'.pb)) (.agg #[.int .i64 ((fi : Int) + (i : Int)), .int .i64 4, .int .i64 (ro : Int)]) false).run Try.prog x = .ok (.slice (some ⟨qb, qo, none⟩) 320 qc) x) := Lib.hid fun x hx => by
              have h1 := (HJ.out.ram.step hx).pages
              have h2 := h1.lookup keyF3 Try.underlying63 (zeroB x) (x := (fi + i, 4, ro)) hok3
              have h3 : (s'.pageV (fi + i, 4, ro)).getD (.slice none 0 0) = .slice (some ⟨qb, qo, none⟩) 320 qc := by
                unfold RS.pageV
                rw [hq0]
                rfl
              rw [h3] at h2
              rw [show kv3 (fi + i, 4, ro) = .agg #[.int .i64 ((fi : Int) + (i : Int)), .int .i64 4, .int .i64 (ro : Int)] by unfold kv3; simp] at h2
              exact h2
            have HOK3 := Lib.hid hok3
            clear hkf hq0 hok3 hqp
            have hfi8 : fi ≤ 16 := HFB.out.1
            go_upto_region 21 with fail
            have l6 := heap_alloc_new wr (.cells #[.int .i64 ((fi : Int) + (i : Int)), .int .i64 4, .int .i64 (ro : Int)] 70)
            have hb6 := bel_alloc (Below.refl _ wr) (.cells #[.int .i64 ((fi : Int) + (i : Int)), .int .i64 4, .int .i64 (ro : Int)] 70)
            obtain ⟨wk, hwk⟩ : ∃ x, x = wr.alloc (.cells #[.int .i64 ((fi : Int) + (i : Int)), .int .i64 4, .int .i64 (ro : Int)] 70) := ⟨_, rfl⟩
            obtain ⟨kb, hkb⟩ : ∃ x, x = wr.heap.size := ⟨_, rfl⟩
            rw [← hwk, ← hkb] at l6
            rw [← hwk] at hb6
            rw [← hwk, ← hkb]
            have HBK := Lib.hid hb6
            have HSS : Hid (∀ x : World, Below wk.heap.size wk x → (x.cell? ⟨rb, 4, none⟩ = some (.map (some s'.pb)) ∧ x.cell? ⟨kb, 0, none⟩ = some (.int .i64 ((fi : Int) + (i : Int))) ∧ x.cell? ⟨kb, 1, none⟩ = some (.int .i64 4) ∧ x.cell? ⟨kb, 2, none⟩ = some (.int .i64 (ro : Int)))) := Lib.hid fun x hx => by
              obtain ⟨a0, a1, a2⟩ := three_at ((hx.block _ (Array.getElem?_eq_some_iff.1 l6).1).trans l6)
              have h4 := (HHH.out x (bel_trans HBK.out hx)).ram.c.2.2.2.2.1
              rw [HJ.out.at_.1] at h4
              exact ⟨h4, a0, a1, a2⟩
            have HKB : Hid (wr.heap.size ≤ kb ∧ kb < wk.heap.size) := Lib.hid ⟨by omega, (Array.getElem?_eq_some_iff.1 l6).1⟩
            have HWI := Lib.hid fun (x : World) (hx : Below wk.heap.size wk x) => withN_any qb qo 320 qc (pgB k 9) 3 pa m pc p x ((HQP.out.step (bel_trans HBK.out hx)).1) HQP.out.2.1 (by have := HQP.out.2.2.1; unfold maxLen at this; exact this) (by have := HMM.out; omega) (by omega) (row_keep HPP.out.1 (HBWX.out x (HBW.out.trans ((bel_trans HBK.out hx).mono HJ.out.lo))) (Nat.le_refl _)) HPP.out.2
            rw [show ((3 : Nat) : Int) = 3 from rfl] at HWI
            obtain ⟨xl, hxl⟩ : ∃ xl, xl = (pgB k 9).take 3 ++ p ++ (pgB k 9).drop (3 + m) := ⟨_, rfl⟩
            rw [← hxl] at HWI
            have HXL : Hid (xl.length = 320) := Lib.hid (by
              rw [hxl, List.length_append, List.length_append, List.length_take, List.length_drop, pgB_len, HPP.out.1.1]
              have := HMM.out
              omega)
            have HB0 : Hid (Below wk.heap.size wk wk.drew) := Lib.hid (Below.refl _ _).drew
            have hS0 := HSS.out wk.drew HB0.out
            have hK0 := HLK.out wk.drew (bel_trans HBK.out HB0.out)
            clear l6 hb6 hwk hkb hxl
            go_wp2_with fail
            go_region_held3 (fun x => x.cell? ⟨rb, 4, none⟩ = some (.map (some s'.pb)) ∧ x.cell? ⟨kb, 0, none⟩ = some (.int .i64 ((fi : Int) + (i : Int))) ∧ x.cell? ⟨kb, 1, none⟩ = some (.int .i64 4) ∧ x.cell? ⟨kb, 2, none⟩ = some (.int .i64 (ro : Int)) ∧ (Instr.lookup 63 (.map (some s'.pb)) (.agg #[.int .i64 ((fi : Int) + (i : Int)), .int .i64 4, .int .i64 (ro : Int)]) false).run Try.prog x = .ok (.slice (some ⟨qb, qo, none⟩) 320 qc) x)
              (first | with_reducible exact ⟨hS0.1, hS0.2.1, hS0.2.2.1, hS0.2.2.2, hK0⟩ | with_reducible exact ⟨hS1.1, hS1.2.1, hS1.2.2.1, hS1.2.2.2, hK1⟩ | go_keep)
              ((go_simp; go_at_call 20; ((with_reducible refine (HWI.out _ HB0.out).mono ?_)); (intro e w8 hr; obtain ⟨X, rfl, hXl, hXn, hXk, hb8, hXf⟩ := part_ret' hr; have HB8 := Lib.hid (bel_trans HB0.out hb8); have HX := Lib.hid (And.intro hXl (And.intro hXn (And.intro hXk (far_mono HB0.out.size hXf)))); have hS1 := HSS.out w8 HB8.out; have hK1 := HLK.out w8 (bel_trans HBK.out HB8.out); clear hr hXl hXn hXk hb8 hXf)))
            all_goals
              clear hS0 hS1 hK0 hK1
              obtain ⟨xa, xn, xc, xll⟩ := X
              have hxx : xll = xl ∧ xn = 320 := ⟨HX.out.1, by have := HX.out.2.1; rw [HXL.out] at this; exact this⟩
              obtain ⟨rfl, rfl⟩ := hxx
              obtain ⟨xb, xo, hxa, _⟩ := HX.out.2.2.1.1.2.2 (by show 0 < 320; omega)
              simp only at hxa
              subst hxa
              dsimp only
              have HXP := Lib.hid HX.out.2.2
              have hx1 : 320 ≤ xc := HXP.out.1.2.1
              have hx2 : ¬ xc = 256 := by omega
              have hx3 : xc ≤ 9223372036854775807 := by have := HXP.out.1.2.2.1; unfold maxLen at this; omega
              have hx4 : (256 : Int) ≤ (xc : Int) := by omega
              obtain ⟨H, hH⟩ : ∃ H, H = openH (xll.take 256) (xll.drop 256) := ⟨_, rfl⟩
              obtain ⟨bb, hbb⟩ : ∃ b, b = decide (OpenOk (xll.take 256) (xll.drop 256)) := ⟨_, rfl⟩
              have HOP : Hid (∀ x : World, Below w8.heap.size w8 x → Calls Try.prog 47 #[.slice (some ⟨xb, xo, none⟩) 256 xc, .slice (some ⟨xb, xo + 256, none⟩) 64 (xc - 256)] x fun e w' => e = .returned (.tuple #[.agg #[.int .u8 (H.ki : Int), .int .u32 (H.ep : Int), .int .u32 (H.ba : Int), .int .u16 (H.ix : Int), .int .u16 (H.ct : Int), .int .u32 (H.bl : Int), .int .u32 (H.mo : Int)], .bool bb]) ∧ Below x.heap.size x w') := Lib.hid fun x hx => by
                have hrow : Row x (some ⟨xb, xo, none⟩) 320 xll := row_keep HXP.out.1.1 hx (Nat.le_refl _)
                have hD : PartOk x ⟨some ⟨xb, xo, none⟩, 256, xc, xll.take 256⟩ := ⟨row_front hrow 256 (by omega), by show 256 ≤ xc; omega, HXP.out.1.2.2.1, fun h => by cases h⟩
                have hO : PartOk x ⟨some ⟨xb, xo + 256, none⟩, 64, xc - 256, xll.drop 256⟩ := ⟨row_suffix hrow 256 (by omega), by show 64 ≤ xc - 256; omega, Nat.le_trans (Nat.sub_le _ _) HXP.out.1.2.2.1, fun h => by cases h⟩
                obtain ⟨H2, b2, e1, e2, h⟩ := open_parts x _ _ hD hO (by show 256 ≤ 1000; omega)
                rw [hH, hbb, ← e1, ← e2]
                exact h
              have HHB := Lib.hid (And.intro hH hbb)
              clear hH hbb
              have HC0 : Hid (Below w8.heap.size w8 w8.drew) := Lib.hid (Below.refl _ _).drew
              have hS0 := (HSS.out w8.drew (bel_trans HB8.out HC0.out)).1
              have HNE : Hid (rb ≠ w8.heap.size) := Lib.hid (by
                have h1 := HJ.out.ram.rlt
                rw [HJ.out.at_.1] at h1
                have h2 := HBK.out.size
                have h3 := HB8.out.size
                omega)
              go_upto_region 22 with fail
              go_region_held3 (fun x => x.cell? ⟨rb, 4, none⟩ = some (.map (some s'.pb)))
                (first | with_reducible exact hS0 | with_reducible exact hS1 | with_reducible exact far7 hS1 HNE.out | with_reducible exact (HSS.out _ (bel_trans HB8.out ((bel_alloc (Below.refl _ w8) _).drew))).1 | with_reducible exact (HSS.out _ (bel_trans HB8.out (bel_alloc HC9.out _))).1 | go_keep)
                (first
                  | (go_simp; go_at_call 47; ((with_reducible refine (HOP.out _ HC0.out).mono ?_)); (intro e w9 hr; obtain ⟨rfl, hb9⟩ := hr; have HC9 := Lib.hid (bel_trans HC0.out hb9); have hS1 := (HSS.out w9 (bel_trans HB8.out HC9.out)).1; clear hb9))
                  | (go_simp; go_at_call 47; ((with_reducible refine (HOP.out _ ((bel_alloc (Below.refl _ w8) _).drew)).mono ?_)); (intro e w9 hr; obtain ⟨rfl, hb9⟩ := hr; have HC9 := Lib.hid (bel_trans ((bel_alloc (Below.refl _ w8) (.cells #[.int .u8 0, .int .u32 0, .int .u32 0, .int .u16 0, .int .u16 0, .int .u32 0, .int .u32 0] 27)).drew) hb9); have HXA := Lib.hid ((hb9.block w8.heap.size (by simp)).trans (heap_alloc_new w8 (.cells #[.int .u8 0, .int .u32 0, .int .u32 0, .int .u16 0, .int .u16 0, .int .u32 0, .int .u32 0] 27))); obtain ⟨x0, x1, x2, x3, x4, x5, x6⟩ := seven_at HXA.out; have xf := free_at HXA.out; have hS1 := (HSS.out w9 (bel_trans HB8.out HC9.out)).1; clear hb9)))
              all_goals
                first
                  | (have HZ : Hid (Below w8.heap.size w8 (w9.alloc (.cells #[.int .u8 (H.ki : Int), .int .u32 (H.ep : Int), .int .u32 (H.ba : Int), .int .u16 (H.ix : Int), .int .u16 (H.ct : Int), .int .u32 (H.bl : Int), .int .u32 (H.mo : Int)] 27))) := Lib.hid (bel_alloc HC9.out _)
                     obtain ⟨wz, hwz⟩ : ∃ x, x = w9.alloc (.cells #[.int .u8 (H.ki : Int), .int .u32 (H.ep : Int), .int .u32 (H.ba : Int), .int .u16 (H.ix : Int), .int .u16 (H.ct : Int), .int .u32 (H.bl : Int), .int .u32 (H.mo : Int)] 27) := ⟨_, rfl⟩
                     rw [← hwz] at HZ ⊢
                     clear hwz)
                  | (have HZ : Hid (Below w8.heap.size w8 (((((((w9.setCell ⟨w8.heap.size, 0, none⟩ (.int .u8 (H.ki : Int))).setCell ⟨w8.heap.size, 1, none⟩ (.int .u32 (H.ep : Int))).setCell ⟨w8.heap.size, 2, none⟩ (.int .u32 (H.ba : Int))).setCell ⟨w8.heap.size, 3, none⟩ (.int .u16 (H.ix : Int))).setCell ⟨w8.heap.size, 4, none⟩ (.int .u16 (H.ct : Int))).setCell ⟨w8.heap.size, 5, none⟩ (.int .u32 (H.bl : Int))).setCell ⟨w8.heap.size, 6, none⟩ (.int .u32 (H.mo : Int)))) := Lib.hid (bel_seven HC9.out w8.heap.size (Nat.le_refl _) _ _ _ _ _ _ _)
                     clear x0 x1 x2 x3 x4 x5 x6 xf
                     obtain ⟨wz, hwz⟩ : ∃ x, x = (((((((w9.setCell ⟨w8.heap.size, 0, none⟩ (.int .u8 (H.ki : Int))).setCell ⟨w8.heap.size, 1, none⟩ (.int .u32 (H.ep : Int))).setCell ⟨w8.heap.size, 2, none⟩ (.int .u32 (H.ba : Int))).setCell ⟨w8.heap.size, 3, none⟩ (.int .u16 (H.ix : Int))).setCell ⟨w8.heap.size, 4, none⟩ (.int .u16 (H.ct : Int))).setCell ⟨w8.heap.size, 5, none⟩ (.int .u32 (H.bl : Int))).setCell ⟨w8.heap.size, 6, none⟩ (.int .u32 (H.mo : Int))) := ⟨_, rfl⟩
                     rw [← hwz] at HZ ⊢
                     clear hwz)
                have HZW : Hid (Below wr.heap.size wr wz) := Lib.hid (bel_trans HBK.out (bel_trans HB8.out HZ.out))
                clear hS0 hS1
                cases bb with
                | true =>
                  go_wp2
                  go_ret
                  exact ⟨rfl, HBWX.out _ (HBW.out.trans (HZW.out.mono HJ.out.lo))⟩
                | false =>
                  have hbad : ¬ OpenOk (xll.take 256) (xll.drop 256) := by
                    have h1 := HHB.out.2
                    simpa using h1.symm
                  have HJy := Lib.hid (SpI.step (SpI.step HJ.out HZW.out) (Below.refl _ wz).drew)
                  have hup0 := HJy.out.ram.pages.update keyF3 Try.underlying63 (x := (fi + i, 4, ro)) HOK3.out (.slice (some ⟨xb, xo, none⟩) 320 xc)
                  rw [show kv3 (fi + i, 4, ro) = .agg #[.int .i64 ((fi : Int) + (i : Int)), .int .i64 4, .int .i64 (ro : Int)] by unfold kv3; simp] at hup0
                  obtain ⟨w10, hup, hm10, hgr10, hsz10⟩ := hup0
                  have hpO : PartOk wz.drew ⟨some ⟨xb, xo, none⟩, 320, xc, xll⟩ := HXP.out.1.step (bel_trans HZ.out (Below.refl _ wz).drew)
                  have hff : wr.heap.size ≤ xb := Nat.le_trans HBK.out.size (HXP.out.2 _ rfl)
                  have hsp := spI_put HJy.out HKN.out.1 HKN.out.2 (by omega) w10 ⟨some ⟨xb, xo, none⟩, 320, xc, xll⟩ (by rw [← HFI.out.1, ← HFI.out.2]; exact hm10) hgr10 hsz10.symm hpO rfl (fun x hx => by cases hx; exact Nat.le_trans HJ.out.lo hff) (fun x hx => by cases hx; exact HJ.out.ram.fresh hff) hbad
                  rw [← HFI.out.1, ← HFI.out.2] at hsp
                  have hbw := hsp.2.below HJy.out.ram HJy.out.lo
                  have HB10 : Hid (Below B w5 w10) := Lib.hid ((HBW.out.trans (HZW.out.mono HJ.out.lo)).trans ((Below.refl B wz).drew.trans hbw))
                  have HI10 : Hid (∃ s7, SpI B rb N n k (i + 1) s7 w10) := Lib.hid ⟨_, hsp.1⟩
                  have hS0 := HSS.out wz.drew (bel_trans HB8.out (bel_trans HZ.out (Below.refl _ wz).drew))
                  have hpk : some kb ≠ some s'.pb := fun q => by
                    have h1 := HJ.out.ram.pages.lt
                    have h2 := HKB.out.1
                    rw [Option.some.inj q] at h2
                    omega
                  have hkz : wz.drew.heap[kb]? = w10.heap[kb]? := (hgr10.block kb (Nat.lt_of_lt_of_le HKB.out.2 (Nat.le_trans HB8.out.size (Nat.le_trans HZ.out.size (Below.refl wz.heap.size wz).drew.size))) (fun e => hpk e)).symm
                  have hS1 : w10.cell? ⟨rb, 4, none⟩ = some (.map (some s'.pb)) ∧ w10.cell? ⟨kb, 0, none⟩ = some (.int .i64 ((fi : Int) + (i : Int))) ∧ w10.cell? ⟨kb, 1, none⟩ = some (.int .i64 4) ∧ w10.cell? ⟨kb, 2, none⟩ = some (.int .i64 (ro : Int)) := by
                    refine ⟨?_, (World.cell?_of_block (w := wz.drew) (a := ⟨kb, 0, none⟩) hkz.symm).trans hS0.2.1, (World.cell?_of_block (w := wz.drew) (a := ⟨kb, 1, none⟩) hkz.symm).trans hS0.2.2.1, (World.cell?_of_block (w := wz.drew) (a := ⟨kb, 2, none⟩) hkz.symm).trans hS0.2.2.2⟩
                    have h4 := hsp.1.ram.c.2.2.2.2.1
                    have h5 := hsp.1.at_.1
                    rw [h5] at h4
                    exact h4
                  clear hm10 hgr10 hsz10 hpO hff hsp hbw hpk hkz hbad
                  go_upto_region 25 with fail
                  go_region_held3 (fun x => x.cell? ⟨rb, 4, none⟩ = some (.map (some s'.pb)) ∧ x.cell? ⟨kb, 0, none⟩ = some (.int .i64 ((fi : Int) + (i : Int))) ∧ x.cell? ⟨kb, 1, none⟩ = some (.int .i64 4) ∧ x.cell? ⟨kb, 2, none⟩ = some (.int .i64 (ro : Int)))
                    (first | with_reducible exact ⟨hS0.1, hS0.2.1, hS0.2.2.1, hS0.2.2.2⟩ | with_reducible exact ⟨hS1.1, hS1.2.1, hS1.2.2.1, hS1.2.2.2⟩ | go_keep) (fail)
                  all_goals
                    clear hS0 hS1
                    go_wp2
                    go_roundw
                    case rel =>
                      obtain ⟨s7, h7⟩ := HI10.out
                      exact ⟨i + 1, s7, Nat.succ_le_of_lt hlt, by go_num, h7, HB10.out⟩
                    case measure => simp [intOf]; omega
        · obtain rfl : i = 2 := by omega
          have t1 : decide (2 < 2) = false := by decide
          have t1' : decide (((2 : Nat) : Int) < 2) = false := by decide
          clear hlt hi
          have HAL := Lib.hid (spI_all HJ0.out (Nat.le_refl _) (by have := HRB.out; omega) (by rw [HRR.out]; have := HRB.out; omega) HKN.out.1 k (by rfl))
          go_wp2_with fail
          ((with_reducible refine HAL.out.mono ?_))
          rintro e w6 ⟨sv, rfl, ⟨sa, scap, EL, rfl, _, _⟩, hb6⟩
          have HJ6 := Lib.hid (HJ0.out.step hb6)
          have HB6 : Hid (Below B w5 w6) := Lib.hid (HBW.out.trans (hb6.mono HJ0.out.lo))
          have hget := stgGet_ok HJ6.out.ram 0 k (by omega) (by rw [HJ6.out.at_.2.1, HJ6.out.at_.2.2.2.1]; exact HKN.out.2) (by rw [HJ6.out.at_.2.2.2.2.1]; omega) none (by rw [spI_get HJ6.out (Nat.le_refl _) (by have := HRB.out; omega) k HKN.out.2, if_pos HKN.out.1, if_pos ⟨rfl, rfl⟩])
          rw [HJ6.out.at_.1] at hget
          have HGT : Hid (Calls Try.prog 45 #[.iface 56 (.pointer (some ⟨rb, 0, none⟩)), .int .i64 0, .int .i64 (k : Int)] w6 fun e w' => e = .returned (.tuple #[.agg #[.int .u8 0, .int .u32 0, .int .u32 0, .int .u16 0, .int .u16 0, .int .u32 0, .int .u32 0, .slice none 0 0], .int .i64 5]) ∧ Below w6.heap.size w6 w') := Lib.hid hget
          clear hget hb6 t1 t1' HJ0 HBW
          go_wp2_with fail
          ((with_reducible refine HGT.out.mono ?_))
          rintro e w7 ⟨rfl, hb7⟩
          have HB7 : Hid (Below B w5 w7) := Lib.hid (HB6.out.trans (hb7.mono HJ6.out.lo))
          have HW67 := Lib.hid hb7
          clear hb7
          go_upto_region 29 with fail
          have l8 := heap_alloc_new w7 (.cells #[.int .u8 0, .int .u32 0, .int .u32 0, .int .u16 0, .int .u16 0, .int .u32 0, .int .u32 0, .slice none 0 0] 77)
          have hb8 := bel_alloc (Below.refl _ w7) (.cells #[.int .u8 0, .int .u32 0, .int .u32 0, .int .u16 0, .int .u16 0, .int .u32 0, .int .u32 0, .slice none 0 0] 77)
          have HB8 : Hid (Below B w5 (w7.alloc (.cells #[.int .u8 0, .int .u32 0, .int .u32 0, .int .u16 0, .int .u16 0, .int .u32 0, .int .u32 0, .slice none 0 0] 77))) := Lib.hid (HB7.out.trans (hb8.mono (Nat.le_trans hwb0.out (Nat.le_trans HJ6.out.lo (by have := HW67.out.size; omega)))))
          obtain ⟨w8, hw8⟩ : ∃ x, x = w7.alloc (.cells #[.int .u8 0, .int .u32 0, .int .u32 0, .int .u16 0, .int .u16 0, .int .u32 0, .int .u32 0, .slice none 0 0] 77) := ⟨_, rfl⟩
          obtain ⟨eb, heb⟩ : ∃ x, x = w7.heap.size := ⟨_, rfl⟩
          rw [← hw8, ← heb] at l8
          rw [← hw8] at HB8
          rw [← hw8, ← heb]
          obtain ⟨-, -, -, -, -, -, -, e7⟩ := eight_at l8
          clear hw8 heb l8 hb8
          have t3 : ((k : Int) == (k : Int)) = true := by simp
          go_wp2_with fail
          go_ret
          exact ⟨rfl, HBWX.out _ HB8.out⟩
set_option maxRecDepth 100000 in
set_option maxHeartbeats 4000000 in
theorem stageSpoilt_one (ch nv av : Int) (pa : Option Addr) (m pc : Nat) (p : List Nat) (w : World) (hm : m ≤ 200) (hp : Row w pa m p) (hpn : pa = none → pc = 0) :
    Calls Try.prog 9 #[.agg #[.int .i64 ch, .int .i64 nv, .int .i64 av, .bool false, .slice pa m pc]] w fun e w' => e = .returned (.bool true) ∧ Below w.heap.size w w' := by
  have HSH := Lib.hid fun x : World => stgShapeL_any ch x
  have HTW := Lib.hid twice_any
  obtain ⟨N, P, R, hN, hP, hR, hN3, hN8, hP1, hP4, hRoom, p1, p1', p2, p3, hgood⟩ := stgHead ch
  rw [← hN] at HSH
  have HNW := Lib.hid fun x : World => ramNew_any N 20 5 256 x hgood
  rw [show ((20 : Nat) : Int) = 20 from rfl, show ((5 : Nat) : Int) = 5 from rfl, show ((256 : Nat) : Int) = 256 from rfl] at HNW
  have hR5 : 5 ≤ R := by omega
  have hR20 : R ≤ 20 := by omega
  obtain ⟨n0, n, k, hnum, HW⟩ := spoiltHead R nv av hR5 hR20
  have HWW := Lib.hid HW
  clear HW
  have hbm : decide ((200 : Int) < (m : Int)) = false := by simp; omega
  have hbm' : decide (200 < m) = false := by simp; omega
  have HRB : Hid (n ≤ 20 ∧ n ≤ R ∧ 1 ≤ n ∧ 0 ≤ 0) := Lib.hid ⟨Nat.le_trans hnum.2.1 hR20, hnum.2.1, hnum.1, Nat.le_refl _⟩
  have HRR := Lib.hid hRoom
  have HKN : Hid (k < n ∧ k < roomN N 5) := Lib.hid ⟨hnum.2.2, by rw [hRoom]; exact Nat.lt_of_lt_of_le hnum.2.2 hnum.2.1⟩
  have HSPT := Lib.hid fun x : World => spot_ok N 20 5 256 k x hgood HKN.out.2
  rw [show ((20 : Nat) : Int) = 20 from rfl, show ((5 : Nat) : Int) = 5 from rfl, show ((256 : Nat) : Int) = 256 from rfl] at HSPT
  obtain ⟨hs1, hs2⟩ := spot_in hgood HKN.out.2
  obtain ⟨fi, hfi⟩ : ∃ f, f = firN N k := ⟨_, rfl⟩
  obtain ⟨ro, hro⟩ : ∃ r, r = rowN N k := ⟨_, rfl⟩
  rw [← hfi, ← hro] at HSPT
  have HFI := Lib.hid (And.intro hfi hro)
  have HFB : Hid (fi ≤ 16 ∧ ro ≤ 5) := Lib.hid ⟨by omega, by omega⟩
  have HMM := Lib.hid hm
  have HPP := Lib.hid (And.intro hp hpn)
  clear hN hP hR hN3 hN8 hP1 hP4 hRoom hgood hnum hs1 hs2 hfi hro hp hpn hR5 hR20
  obtain ⟨un, un', wn, wn', uk, uk', u0, u1, nz, nz', nw, nw'⟩ := HWW.out
  clear HWW
  go_enter Try.func9, Try.ntmps9
  go_upto_region 1 with fail
  have l0 := heap_alloc_new w (.cells #[.int .i64 ch, .int .i64 nv, .int .i64 av, .bool false, .slice pa m pc] 103)
  have hb0 := bel_alloc (Below.refl _ w) (.cells #[.int .i64 ch, .int .i64 nv, .int .i64 av, .bool false, .slice pa m pc] 103)
  obtain ⟨w0, hw0⟩ : ∃ x, x = w.alloc (.cells #[.int .i64 ch, .int .i64 nv, .int .i64 av, .bool false, .slice pa m pc] 103) := ⟨_, rfl⟩
  obtain ⟨cb, hcb⟩ : ∃ x, x = w.heap.size := ⟨_, rfl⟩
  rw [← hw0, ← hcb] at l0
  rw [← hw0] at hb0
  rw [← hw0, ← hcb]
  have hc5 : ∀ W : World, W.heap[cb]? = some (.cells #[.int .i64 ch, .int .i64 nv, .int .i64 av, .bool false, .slice pa m pc] 103 (0, 0)) → W.cell? ⟨cb, 0, none⟩ = some (.int .i64 ch) ∧ W.cell? ⟨cb, 1, none⟩ = some (.int .i64 nv) ∧ W.cell? ⟨cb, 2, none⟩ = some (.int .i64 av) ∧ W.cell? ⟨cb, 3, none⟩ = some (.bool false) ∧ W.cell? ⟨cb, 4, none⟩ = some (.slice pa m pc) := fun W h => by simp [World.cell?, h]
  obtain ⟨c0, c1, c2, c3, c4⟩ := hc5 _ l0
  have HB0 := Lib.hid hb0
  clear hw0 hcb hb0 l0 hc5
  go_quiet (fail)
  have HB1 := Lib.hid (bel_trans HB0.out (show Below w0.heap.size w0 (w0.drewN nq) from ⟨rfl, rfl, rfl, Nat.le_refl _, fun _ _ => rfl⟩))
  obtain ⟨w1, hw1⟩ : ∃ x, x = w0.drewN nq := ⟨_, rfl⟩
  rw [← hw1] at HB1 ⊢
  clear hw1 c0 c1 c2 c3 c4
  go_wp2_with fail
  ((with_reducible refine (HTW.out _).mono ?_))
  rintro e w2 ⟨rfl, hb2⟩
  have HB2 := Lib.hid (bel_trans HB1.out hb2)
  clear hb2
  go_wp2_with fail
  ((with_reducible refine (HSH.out _).mono ?_))
  rintro e w3 ⟨rfl, hb3⟩
  have l4 := heap_alloc_new w3 (.cells #[.int .i64 (N : Int), .int .i64 20, .int .i64 5, .int .i64 256] 54)
  have hb4 := bel_trans HB2.out (bel_trans hb3 (bel_alloc (Below.refl _ w3) (.cells #[.int .i64 (N : Int), .int .i64 20, .int .i64 5, .int .i64 256] 54)))
  go_upto_region 5 with fail
  obtain ⟨w4, hw4⟩ : ∃ x, x = w3.alloc (.cells #[.int .i64 (N : Int), .int .i64 20, .int .i64 5, .int .i64 256] 54) := ⟨_, rfl⟩
  obtain ⟨gb, hgb⟩ : ∃ x, x = w3.heap.size := ⟨_, rfl⟩
  rw [← hw4, ← hgb] at l4
  rw [← hw4] at hb4
  rw [← hw4, ← hgb]
  have HL4 := Lib.hid l4
  have HB4 := Lib.hid hb4
  obtain ⟨g0, g1, g2, g3⟩ := four_at l4
  clear hw4 hgb l4 hb3 hb4
  go_wp2_with fail
  ((with_reducible refine (HNW.out _).mono ?_))
  rintro e w5 ⟨rb, pb, gb2, rfl, hr5, hb5⟩
  have HB5 := Lib.hid (bel_trans HB4.out hb5)
  obtain ⟨B, hB⟩ : ∃ B, B = w4.heap.size := ⟨_, rfl⟩
  rw [← hB] at hr5
  have HI : Hid (StgI B rb N 9 N (cntF 0 0) numF (rsNew rb pb gb2 N 20 5 256) w5) := Lib.hid (by rw [← cntF_z]; exact stgI_new hr5 (by rw [hB]; exact hb5.size) N)
  have HWB : Hid (w.heap.size ≤ B) := Lib.hid (by rw [hB]; exact HB4.out.size)
  have HGB : Hid (gb < B ∧ w5.heap[gb]? = some (.cells #[.int .i64 (N : Int), .int .i64 20, .int .i64 5, .int .i64 256] 54 (0, 0))) := Lib.hid ⟨by rw [hB]; exact (Array.getElem?_eq_some_iff.1 HL4.out).1, (hb5.block _ (Array.getElem?_eq_some_iff.1 HL4.out).1).trans HL4.out⟩
  have HBWX : Hid (∀ x : World, Below B w5 x → Below w.heap.size w x) := Lib.hid fun x hx => HB5.out.trans (hx.mono HWB.out)
  have HBI : Hid (Below B w5 w5) := Lib.hid (Below.refl _ _)
  clear g0 g1 g2 g3 hb5 hr5 hB HL4
  obtain ⟨g0, g1, g2, g3⟩ := four_at HGB.out.2
  go_wp2_with fail
  clear g0 g1 g2 g3 u0 u1 nz nz' nw nw' un un' uk uk' wn wn' p1 p1' p2 p3 hbm hbm'
  have hn20 : n ≤ 20 := HRB.out.1
  have hwb0 : Hid (B ≤ B) := Lib.hid (Nat.le_refl _)
  go_loopw [11] (fun iv wr => ∃ (i : Nat) (s' : RS), i ≤ n ∧ iv = .int .i64 (i : Int) ∧ StgI B rb N 9 N (cntF i 0) numF s' wr ∧ Below B w5 wr) (fun iv _ => (n - intOf iv).toNat)
  case atStart => exact ⟨0, _, Nat.zero_le _, rfl, HI.out, HBI.out⟩
  case round =>
    obtain ⟨i, s', hi, rfl, hI, hbw⟩ := hrel
    have HJ := Lib.hid hI
    have HBW := Lib.hid hbw
    clear hI hbw HI HBI
    by_cases hlt : i < n
    · have t1 : decide (i < n) = true := by simpa using hlt
      have t1' : decide ((i : Int) < (n : Int)) = true := by simpa using hlt
      have HPG := Lib.hid fun x : World => stgPage_any i 9 x (by have := HRB.out; omega) (by omega)
      rw [show ((9 : Nat) : Int) = 9 from rfl] at HPG
      go_wp2_with fail
      ((with_reducible refine (HPG.out _).mono ?_))
      rintro e w6 ⟨E, rfl, f1, f2, f3, f4, hb6⟩
      have HPU : Hid (Calls Try.prog 42 #[.iface 56 (.pointer (some ⟨rb, 0, none⟩)), .int .i64 0, .int .i64 (i : Int), .agg #[.int .u8 4, .int .u32 9, .int .u32 0, .int .u16 0, .int .u16 0, .int .u32 ((i : Int)), .int .u32 0, .slice E.a E.n E.c]] w6 fun e w' => e = .returned (.int .i64 0) ∧ (∃ s', StgI B rb N 9 N (cntF (i + 1) 0) numF s' w') ∧ Below B w6 w') := Lib.hid (by
        have hpu := stgI_put (HJ.out.step hb6) 0 i (i) (by omega) rfl (by rw [HRR.out]; have := HRB.out; omega) rfl (by have := HRB.out; omega) (by omega) (by simp only [cntF]; have := HRB.out; simp; omega) E f1 f2 f3 (fun x hx => HJ.out.ram.fresh (f4 x hx))
        rw [cntF_0, show ((9 : Nat) : Int) = 9 from rfl] at hpu
        exact hpu)
      have HB6 : Hid (Below B w5 w6) := Lib.hid (HBW.out.trans (hb6.mono HJ.out.lo))
      clear f1 f2 f3 f4 hb6
      go_wp2_with fail
      ((with_reducible refine HPU.out.mono ?_))
      rintro e w7 ⟨rfl, hI7, hb7⟩
      have HI7 := Lib.hid hI7
      have HB7 := Lib.hid (HB6.out.trans hb7)
      clear hI7 hb7
      go_wp2
      go_roundw
      case rel =>
        obtain ⟨s7, h7⟩ := HI7.out
        exact ⟨i + 1, s7, by omega, by go_num, h7, HB7.out⟩
      case measure => simp [intOf]; omega
    · obtain rfl : i = n := by omega
      have t1 : decide (i < i) = false := by simp
      have t1' : decide ((i : Int) < (i : Int)) = false := by simp
      clear hlt hi
      obtain ⟨n, hnn⟩ : ∃ n, n = i := ⟨_, rfl⟩
      subst hnn
      have HSP := Lib.hid (spI_of (n := n) (k := k) HJ.out (by simp [cntF]) (fun j => by simp [numF]))
      obtain ⟨g0, g1, g2, g3⟩ := four_at ((HBW.out.block gb HGB.out.1).trans HGB.out.2)
      go_wp2_with fail
      ((with_reducible refine (HSPT.out _).mono ?_))
      rintro e w9 ⟨rfl, hb9⟩
      have HS9 := Lib.hid (HSP.out.step hb9)
      have HB9 : Hid (Below B w5 w9) := Lib.hid (HBW.out.trans (hb9.mono HJ.out.lo))
      clear hb9 g0 g1 g2 g3 t1 t1'
      go_upto_region 17 with fail
      go_loopw [15] (fun iv wr => ∃ (i : Nat) (s' : RS), i ≤ 2 ∧ iv = .int .i64 (i : Int) ∧ SpI B rb N n k (min i 1) s' wr ∧ Below B w5 wr) (fun iv _ => (2 - intOf iv).toNat)
      case atStart => exact ⟨0, _, Nat.zero_le _, rfl, HS9.out, HB9.out⟩
      case round =>
        obtain ⟨i, s', hi, rfl, hI, hbw⟩ := hrel
        clear HJ HBW HSP HS9 HB9
        have HJ0 := Lib.hid hI
        have HBW := Lib.hid hbw
        clear hI hbw
        by_cases hlt : i < 2
        · have t1 : decide (i < 2) = true := by simpa using hlt
          have t1' : decide ((i : Int) < 2) = true := by simp; omega
          by_cases hi0 : i = 0
          · have HJ : Hid (SpI B rb N n k i s' wr) := Lib.hid (by have h := HJ0.out; rw [show min i 1 = i by omega] at h; exact h)
            have HI0 := Lib.hid hi0
            have t2 : ((i : Int) == 0) = true := by simp; omega
            clear HJ0 hi0
            have hkf := HJ.out.f k i HKN.out.2 (by omega)
            obtain ⟨q0, hq0, hq0l⟩ := hkf.1 HKN.out.1 (.inr (Nat.le_refl _))
            rw [← HFI.out.1, ← HFI.out.2] at hq0
            have hok3 : ok3 (fi + i, 4, ro) := ⟨by have := HFB.out; show fi + i ≤ 100000; omega, by show 4 ≤ 100000; omega, by have := HFB.out; show ro ≤ 100000; omega⟩
            obtain ⟨hqp, hqn, _, _⟩ := HJ.out.ram.parts _ _ hok3 hq0
            rw [HJ.out.at_.2.2.2.2.1] at hqn
            obtain ⟨qa, qn, qc, ql⟩ := q0
            simp only at hq0l hqn hqp
            subst hqn
            subst hq0l
            obtain ⟨qb, qo, hqa, _⟩ := hqp.1.2.2 (by show 0 < 320; omega)
            simp only at hqa
            subst hqa
            have HQP := Lib.hid hqp
            have HHH : Hid (∀ x : World, Below wr.heap.size wr x → SpI B rb N n k i s' x) := Lib.hid fun x hx => HJ.out.step hx
            have HLK : Hid (∀ x : World, Below wr.heap.size wr x → (Instr.lookup 63 (.map (some s'.pb)) (.agg #[.int .i64 ((fi : Int) + (i : Int)), .int .i64 4, .int .i64 (ro : Int)]) false).run Try.prog x = .ok (.slice (some ⟨qb, qo, none⟩) 320 qc) x) := Lib.hid fun x hx => by
              have h1 := (HJ.out.ram.step hx).pages
              have h2 := h1.lookup keyF3 Try.underlying63 (zeroB x) (x := (fi + i, 4, ro)) hok3
              have h3 : (s'.pageV (fi + i, 4, ro)).getD (.slice none 0 0) = .slice (some ⟨qb, qo, none⟩) 320 qc := by
                unfold RS.pageV
                rw [hq0]
                rfl
              rw [h3] at h2
              rw [show kv3 (fi + i, 4, ro) = .agg #[.int .i64 ((fi : Int) + (i : Int)), .int .i64 4, .int .i64 (ro : Int)] by unfold kv3; simp] at h2
              exact h2
            have HOK3 := Lib.hid hok3
            clear hkf hq0 hok3 hqp
            have hfi8 : fi ≤ 16 := HFB.out.1
            go_upto_region 21 with fail
            have l6 := heap_alloc_new wr (.cells #[.int .i64 ((fi : Int) + (i : Int)), .int .i64 4, .int .i64 (ro : Int)] 70)
            have hb6 := bel_alloc (Below.refl _ wr) (.cells #[.int .i64 ((fi : Int) + (i : Int)), .int .i64 4, .int .i64 (ro : Int)] 70)
            obtain ⟨wk, hwk⟩ : ∃ x, x = wr.alloc (.cells #[.int .i64 ((fi : Int) + (i : Int)), .int .i64 4, .int .i64 (ro : Int)] 70) := ⟨_, rfl⟩
            obtain ⟨kb, hkb⟩ : ∃ x, x = wr.heap.size := ⟨_, rfl⟩
            rw [← hwk, ← hkb] at l6
            rw [← hwk] at hb6
            rw [← hwk, ← hkb]
            have HBK := Lib.hid hb6
            have HSS : Hid (∀ x : World, Below wk.heap.size wk x → (x.cell? ⟨rb, 4, none⟩ = some (.map (some s'.pb)) ∧ x.cell? ⟨kb, 0, none⟩ = some (.int .i64 ((fi : Int) + (i : Int))) ∧ x.cell? ⟨kb, 1, none⟩ = some (.int .i64 4) ∧ x.cell? ⟨kb, 2, none⟩ = some (.int .i64 (ro : Int)))) := Lib.hid fun x hx => by
              obtain ⟨a0, a1, a2⟩ := three_at ((hx.block _ (Array.getElem?_eq_some_iff.1 l6).1).trans l6)
              have h4 := (HHH.out x (bel_trans HBK.out hx)).ram.c.2.2.2.2.1
              rw [HJ.out.at_.1] at h4
              exact ⟨h4, a0, a1, a2⟩
            have HKB : Hid (wr.heap.size ≤ kb ∧ kb < wk.heap.size) := Lib.hid ⟨by omega, (Array.getElem?_eq_some_iff.1 l6).1⟩
            have HWI := Lib.hid fun (x : World) (hx : Below wk.heap.size wk x) => withN_any qb qo 320 qc (pgB k 9) 3 pa m pc p x ((HQP.out.step (bel_trans HBK.out hx)).1) HQP.out.2.1 (by have := HQP.out.2.2.1; unfold maxLen at this; exact this) (by have := HMM.out; omega) (by omega) (row_keep HPP.out.1 (HBWX.out x (HBW.out.trans ((bel_trans HBK.out hx).mono HJ.out.lo))) (Nat.le_refl _)) HPP.out.2
            rw [show ((3 : Nat) : Int) = 3 from rfl] at HWI
            obtain ⟨xl, hxl⟩ : ∃ xl, xl = (pgB k 9).take 3 ++ p ++ (pgB k 9).drop (3 + m) := ⟨_, rfl⟩
            rw [← hxl] at HWI
            have HXL : Hid (xl.length = 320) := Lib.hid (by
              rw [hxl, List.length_append, List.length_append, List.length_take, List.length_drop, pgB_len, HPP.out.1.1]
              have := HMM.out
              omega)
            have HB0 : Hid (Below wk.heap.size wk wk.drew) := Lib.hid (Below.refl _ _).drew
            have hS0 := HSS.out wk.drew HB0.out
            have hK0 := HLK.out wk.drew (bel_trans HBK.out HB0.out)
            clear l6 hb6 hwk hkb hxl
            go_wp2_with fail
            go_region_held3 (fun x => x.cell? ⟨rb, 4, none⟩ = some (.map (some s'.pb)) ∧ x.cell? ⟨kb, 0, none⟩ = some (.int .i64 ((fi : Int) + (i : Int))) ∧ x.cell? ⟨kb, 1, none⟩ = some (.int .i64 4) ∧ x.cell? ⟨kb, 2, none⟩ = some (.int .i64 (ro : Int)) ∧ (Instr.lookup 63 (.map (some s'.pb)) (.agg #[.int .i64 ((fi : Int) + (i : Int)), .int .i64 4, .int .i64 (ro : Int)]) false).run Try.prog x = .ok (.slice (some ⟨qb, qo, none⟩) 320 qc) x)
              (first | with_reducible exact ⟨hS0.1, hS0.2.1, hS0.2.2.1, hS0.2.2.2, hK0⟩ | with_reducible exact ⟨hS1.1, hS1.2.1, hS1.2.2.1, hS1.2.2.2, hK1⟩ | go_keep)
              ((go_simp; go_at_call 20; ((with_reducible refine (HWI.out _ HB0.out).mono ?_)); (intro e w8 hr; obtain ⟨X, rfl, hXl, hXn, hXk, hb8, hXf⟩ := part_ret' hr; have HB8 := Lib.hid (bel_trans HB0.out hb8); have HX := Lib.hid (And.intro hXl (And.intro hXn (And.intro hXk (far_mono HB0.out.size hXf)))); have hS1 := HSS.out w8 HB8.out; have hK1 := HLK.out w8 (bel_trans HBK.out HB8.out); clear hr hXl hXn hXk hb8 hXf)))
            all_goals
              clear hS0 hS1 hK0 hK1
              obtain ⟨xa, xn, xc, xll⟩ := X
              have hxx : xll = xl ∧ xn = 320 := ⟨HX.out.1, by have := HX.out.2.1; rw [HXL.out] at this; exact this⟩
              obtain ⟨rfl, rfl⟩ := hxx
              obtain ⟨xb, xo, hxa, _⟩ := HX.out.2.2.1.1.2.2 (by show 0 < 320; omega)
              simp only at hxa
              subst hxa
              dsimp only
              have HXP := Lib.hid HX.out.2.2
              have hx1 : 320 ≤ xc := HXP.out.1.2.1
              have hx2 : ¬ xc = 256 := by omega
              have hx3 : xc ≤ 9223372036854775807 := by have := HXP.out.1.2.2.1; unfold maxLen at this; omega
              have hx4 : (256 : Int) ≤ (xc : Int) := by omega
              obtain ⟨H, hH⟩ : ∃ H, H = openH (xll.take 256) (xll.drop 256) := ⟨_, rfl⟩
              obtain ⟨bb, hbb⟩ : ∃ b, b = decide (OpenOk (xll.take 256) (xll.drop 256)) := ⟨_, rfl⟩
              have HOP : Hid (∀ x : World, Below w8.heap.size w8 x → Calls Try.prog 47 #[.slice (some ⟨xb, xo, none⟩) 256 xc, .slice (some ⟨xb, xo + 256, none⟩) 64 (xc - 256)] x fun e w' => e = .returned (.tuple #[.agg #[.int .u8 (H.ki : Int), .int .u32 (H.ep : Int), .int .u32 (H.ba : Int), .int .u16 (H.ix : Int), .int .u16 (H.ct : Int), .int .u32 (H.bl : Int), .int .u32 (H.mo : Int)], .bool bb]) ∧ Below x.heap.size x w') := Lib.hid fun x hx => by
                have hrow : Row x (some ⟨xb, xo, none⟩) 320 xll := row_keep HXP.out.1.1 hx (Nat.le_refl _)
                have hD : PartOk x ⟨some ⟨xb, xo, none⟩, 256, xc, xll.take 256⟩ := ⟨row_front hrow 256 (by omega), by show 256 ≤ xc; omega, HXP.out.1.2.2.1, fun h => by cases h⟩
                have hO : PartOk x ⟨some ⟨xb, xo + 256, none⟩, 64, xc - 256, xll.drop 256⟩ := ⟨row_suffix hrow 256 (by omega), by show 64 ≤ xc - 256; omega, Nat.le_trans (Nat.sub_le _ _) HXP.out.1.2.2.1, fun h => by cases h⟩
                obtain ⟨H2, b2, e1, e2, h⟩ := open_parts x _ _ hD hO (by show 256 ≤ 1000; omega)
                rw [hH, hbb, ← e1, ← e2]
                exact h
              have HHB := Lib.hid (And.intro hH hbb)
              clear hH hbb
              have HC0 : Hid (Below w8.heap.size w8 w8.drew) := Lib.hid (Below.refl _ _).drew
              have hS0 := (HSS.out w8.drew (bel_trans HB8.out HC0.out)).1
              have HNE : Hid (rb ≠ w8.heap.size) := Lib.hid (by
                have h1 := HJ.out.ram.rlt
                rw [HJ.out.at_.1] at h1
                have h2 := HBK.out.size
                have h3 := HB8.out.size
                omega)
              go_upto_region 22 with fail
              go_region_held3 (fun x => x.cell? ⟨rb, 4, none⟩ = some (.map (some s'.pb)))
                (first | with_reducible exact hS0 | with_reducible exact hS1 | with_reducible exact far7 hS1 HNE.out | with_reducible exact (HSS.out _ (bel_trans HB8.out ((bel_alloc (Below.refl _ w8) _).drew))).1 | with_reducible exact (HSS.out _ (bel_trans HB8.out (bel_alloc HC9.out _))).1 | go_keep)
                (first
                  | (go_simp; go_at_call 47; ((with_reducible refine (HOP.out _ HC0.out).mono ?_)); (intro e w9 hr; obtain ⟨rfl, hb9⟩ := hr; have HC9 := Lib.hid (bel_trans HC0.out hb9); have hS1 := (HSS.out w9 (bel_trans HB8.out HC9.out)).1; clear hb9))
                  | (go_simp; go_at_call 47; ((with_reducible refine (HOP.out _ ((bel_alloc (Below.refl _ w8) _).drew)).mono ?_)); (intro e w9 hr; obtain ⟨rfl, hb9⟩ := hr; have HC9 := Lib.hid (bel_trans ((bel_alloc (Below.refl _ w8) (.cells #[.int .u8 0, .int .u32 0, .int .u32 0, .int .u16 0, .int .u16 0, .int .u32 0, .int .u32 0] 27)).drew) hb9); have HXA := Lib.hid ((hb9.block w8.heap.size (by simp)).trans (heap_alloc_new w8 (.cells #[.int .u8 0, .int .u32 0, .int .u32 0, .int .u16 0, .int .u16 0, .int .u32 0, .int .u32 0] 27))); obtain ⟨x0, x1, x2, x3, x4, x5, x6⟩ := seven_at HXA.out; have xf := free_at HXA.out; have hS1 := (HSS.out w9 (bel_trans HB8.out HC9.out)).1; clear hb9)))
              all_goals
                first
                  | (have HZ : Hid (Below w8.heap.size w8 (w9.alloc (.cells #[.int .u8 (H.ki : Int), .int .u32 (H.ep : Int), .int .u32 (H.ba : Int), .int .u16 (H.ix : Int), .int .u16 (H.ct : Int), .int .u32 (H.bl : Int), .int .u32 (H.mo : Int)] 27))) := Lib.hid (bel_alloc HC9.out _)
                     obtain ⟨wz, hwz⟩ : ∃ x, x = w9.alloc (.cells #[.int .u8 (H.ki : Int), .int .u32 (H.ep : Int), .int .u32 (H.ba : Int), .int .u16 (H.ix : Int), .int .u16 (H.ct : Int), .int .u32 (H.bl : Int), .int .u32 (H.mo : Int)] 27) := ⟨_, rfl⟩
                     rw [← hwz] at HZ ⊢
                     clear hwz)
                  | (have HZ : Hid (Below w8.heap.size w8 (((((((w9.setCell ⟨w8.heap.size, 0, none⟩ (.int .u8 (H.ki : Int))).setCell ⟨w8.heap.size, 1, none⟩ (.int .u32 (H.ep : Int))).setCell ⟨w8.heap.size, 2, none⟩ (.int .u32 (H.ba : Int))).setCell ⟨w8.heap.size, 3, none⟩ (.int .u16 (H.ix : Int))).setCell ⟨w8.heap.size, 4, none⟩ (.int .u16 (H.ct : Int))).setCell ⟨w8.heap.size, 5, none⟩ (.int .u32 (H.bl : Int))).setCell ⟨w8.heap.size, 6, none⟩ (.int .u32 (H.mo : Int)))) := Lib.hid (bel_seven HC9.out w8.heap.size (Nat.le_refl _) _ _ _ _ _ _ _)
                     clear x0 x1 x2 x3 x4 x5 x6 xf
                     obtain ⟨wz, hwz⟩ : ∃ x, x = (((((((w9.setCell ⟨w8.heap.size, 0, none⟩ (.int .u8 (H.ki : Int))).setCell ⟨w8.heap.size, 1, none⟩ (.int .u32 (H.ep : Int))).setCell ⟨w8.heap.size, 2, none⟩ (.int .u32 (H.ba : Int))).setCell ⟨w8.heap.size, 3, none⟩ (.int .u16 (H.ix : Int))).setCell ⟨w8.heap.size, 4, none⟩ (.int .u16 (H.ct : Int))).setCell ⟨w8.heap.size, 5, none⟩ (.int .u32 (H.bl : Int))).setCell ⟨w8.heap.size, 6, none⟩ (.int .u32 (H.mo : Int))) := ⟨_, rfl⟩
                     rw [← hwz] at HZ ⊢
                     clear hwz)
                have HZW : Hid (Below wr.heap.size wr wz) := Lib.hid (bel_trans HBK.out (bel_trans HB8.out HZ.out))
                clear hS0 hS1
                cases bb with
                | true =>
                  go_wp2
                  go_ret
                  exact ⟨rfl, HBWX.out _ (HBW.out.trans (HZW.out.mono HJ.out.lo))⟩
                | false =>
                  have hbad : ¬ OpenOk (xll.take 256) (xll.drop 256) := by
                    have h1 := HHB.out.2
                    simpa using h1.symm
                  have HJy := Lib.hid (SpI.step (SpI.step HJ.out HZW.out) (Below.refl _ wz).drew)
                  have hup0 := HJy.out.ram.pages.update keyF3 Try.underlying63 (x := (fi + i, 4, ro)) HOK3.out (.slice (some ⟨xb, xo, none⟩) 320 xc)
                  rw [show kv3 (fi + i, 4, ro) = .agg #[.int .i64 ((fi : Int) + (i : Int)), .int .i64 4, .int .i64 (ro : Int)] by unfold kv3; simp] at hup0
                  obtain ⟨w10, hup, hm10, hgr10, hsz10⟩ := hup0
                  have hpO : PartOk wz.drew ⟨some ⟨xb, xo, none⟩, 320, xc, xll⟩ := HXP.out.1.step (bel_trans HZ.out (Below.refl _ wz).drew)
                  have hff : wr.heap.size ≤ xb := Nat.le_trans HBK.out.size (HXP.out.2 _ rfl)
                  have hsp := spI_put HJy.out HKN.out.1 HKN.out.2 (by omega) w10 ⟨some ⟨xb, xo, none⟩, 320, xc, xll⟩ (by rw [← HFI.out.1, ← HFI.out.2]; exact hm10) hgr10 hsz10.symm hpO rfl (fun x hx => by cases hx; exact Nat.le_trans HJ.out.lo hff) (fun x hx => by cases hx; exact HJ.out.ram.fresh hff) hbad
                  rw [← HFI.out.1, ← HFI.out.2] at hsp
                  have hbw := hsp.2.below HJy.out.ram HJy.out.lo
                  have HB10 : Hid (Below B w5 w10) := Lib.hid ((HBW.out.trans (HZW.out.mono HJ.out.lo)).trans ((Below.refl B wz).drew.trans hbw))
                  have HI10 : Hid (∃ s7, SpI B rb N n k (min (i + 1) 1) s7 w10) := Lib.hid ⟨_, by rw [show min (i + 1) 1 = i + 1 by have := HI0.out; omega]; exact hsp.1⟩
                  have hS0 := HSS.out wz.drew (bel_trans HB8.out (bel_trans HZ.out (Below.refl _ wz).drew))
                  have hpk : some kb ≠ some s'.pb := fun q => by
                    have h1 := HJ.out.ram.pages.lt
                    have h2 := HKB.out.1
                    rw [Option.some.inj q] at h2
                    omega
                  have hkz : wz.drew.heap[kb]? = w10.heap[kb]? := (hgr10.block kb (Nat.lt_of_lt_of_le HKB.out.2 (Nat.le_trans HB8.out.size (Nat.le_trans HZ.out.size (Below.refl wz.heap.size wz).drew.size))) (fun e => hpk e)).symm
                  have hS1 : w10.cell? ⟨rb, 4, none⟩ = some (.map (some s'.pb)) ∧ w10.cell? ⟨kb, 0, none⟩ = some (.int .i64 ((fi : Int) + (i : Int))) ∧ w10.cell? ⟨kb, 1, none⟩ = some (.int .i64 4) ∧ w10.cell? ⟨kb, 2, none⟩ = some (.int .i64 (ro : Int)) := by
                    refine ⟨?_, (World.cell?_of_block (w := wz.drew) (a := ⟨kb, 0, none⟩) hkz.symm).trans hS0.2.1, (World.cell?_of_block (w := wz.drew) (a := ⟨kb, 1, none⟩) hkz.symm).trans hS0.2.2.1, (World.cell?_of_block (w := wz.drew) (a := ⟨kb, 2, none⟩) hkz.symm).trans hS0.2.2.2⟩
                    have h4 := hsp.1.ram.c.2.2.2.2.1
                    have h5 := hsp.1.at_.1
                    rw [h5] at h4
                    exact h4
                  clear hm10 hgr10 hsz10 hpO hff hsp hbw hpk hkz hbad
                  go_upto_region 25 with fail
                  go_region_held3 (fun x => x.cell? ⟨rb, 4, none⟩ = some (.map (some s'.pb)) ∧ x.cell? ⟨kb, 0, none⟩ = some (.int .i64 ((fi : Int) + (i : Int))) ∧ x.cell? ⟨kb, 1, none⟩ = some (.int .i64 4) ∧ x.cell? ⟨kb, 2, none⟩ = some (.int .i64 (ro : Int)))
                    (first | with_reducible exact ⟨hS0.1, hS0.2.1, hS0.2.2.1, hS0.2.2.2⟩ | with_reducible exact ⟨hS1.1, hS1.2.1, hS1.2.2.1, hS1.2.2.2⟩ | go_keep) (fail)
                  all_goals
                    clear hS0 hS1
                    go_wp2
                    go_roundw
                    case rel =>
                      obtain ⟨s7, h7⟩ := HI10.out
                      exact ⟨i + 1, s7, Nat.succ_le_of_lt hlt, by go_num, h7, HB10.out⟩
                    case measure => simp [intOf]; omega
          · have t2 : ((i : Int) == 0) = false := by simp; omega
            have HR1 : Hid (∃ s7, SpI B rb N n k (min (i + 1) 1) s7 wr) := Lib.hid ⟨s', by have h := HJ0.out; rw [show min i 1 = min (i + 1) 1 by omega] at h; exact h⟩
            go_wp2
            go_roundw
            case rel =>
              obtain ⟨s7, h7⟩ := HR1.out
              exact ⟨i + 1, s7, Nat.succ_le_of_lt hlt, by go_num, h7, HBW.out⟩
            case measure => simp [intOf]; omega
        · obtain rfl : i = 2 := by omega
          have t1 : decide (2 < 2) = false := by decide
          have t1' : decide (((2 : Nat) : Int) < 2) = false := by decide
          clear hlt hi
          have HJ1 : Hid (SpI B rb N n k 1 s' wr) := HJ0
          clear HJ0
          have HAL := Lib.hid (spI_all HJ1.out (by omega) (by have := HRB.out; omega) (by rw [HRR.out]; have := HRB.out; omega) HKN.out.1 n (by simp))
          go_wp2_with fail
          ((with_reducible refine HAL.out.mono ?_))
          rintro e w6 ⟨sv, rfl, ⟨sa, scap, EL, rfl, _, _⟩, hb6⟩
          have HJ6 := Lib.hid (HJ1.out.step hb6)
          have HB6 : Hid (Below B w5 w6) := Lib.hid (HBW.out.trans (hb6.mono HJ1.out.lo))
          have hget := getPg_any HJ6.out.ram 0 k k 9 (by omega) (by rw [HJ6.out.at_.2.1, HJ6.out.at_.2.2.2.1]; exact HKN.out.2) HJ6.out.at_.2.2.2.2.1 (by rw [spI_get HJ6.out (by omega) (by have := HRB.out; omega) k HKN.out.2, if_pos HKN.out.1, if_neg (by omega)])
          rw [HJ6.out.at_.1] at hget
          have HGT : Hid (Calls Try.prog 45 #[.iface 56 (.pointer (some ⟨rb, 0, none⟩)), .int .i64 0, .int .i64 (k : Int)] w6 fun e w' => ∃ E : PS, e = .returned (.tuple #[.agg #[.int .u8 4, .int .u32 9, .int .u32 0, .int .u16 0, .int .u16 0, .int .u32 (k : Int), .int .u32 0, .slice E.a E.n E.c], .int .i64 0]) ∧ E.l = pgL k 9 ∧ PartOk w' E ∧ Far w6.heap.size E ∧ Below w6.heap.size w6 w') := Lib.hid hget
          clear hget hb6 t1 t1' HJ1 HBW
          go_wp2_with fail
          ((with_reducible refine HGT.out.mono ?_))
          rintro e w7 ⟨E, rfl, f1, f2, f3, hb7⟩
          have HB7 : Hid (Below B w5 w7) := Lib.hid (HB6.out.trans (hb7.mono HJ6.out.lo))
          have HBS : Hid (B ≤ w7.heap.size) := Lib.hid (Nat.le_trans HJ6.out.lo hb7.size)
          have HE7 := Lib.hid (And.intro f1 f2)
          clear hb7 f1 f2 f3
          go_upto_region 30 with fail
          have l8 := heap_alloc_new w7 (.cells #[.int .u8 4, .int .u32 9, .int .u32 0, .int .u16 0, .int .u16 0, .int .u32 (k : Int), .int .u32 0, .slice E.a E.n E.c] 77)
          have hb8 := bel_alloc (Below.refl _ w7) (.cells #[.int .u8 4, .int .u32 9, .int .u32 0, .int .u16 0, .int .u16 0, .int .u32 (k : Int), .int .u32 0, .slice E.a E.n E.c] 77)
          have HE8 := Lib.hid (And.intro HE7.out.1 (HE7.out.2.step hb8))
          have HB8 : Hid (Below B w5 (w7.alloc (.cells #[.int .u8 4, .int .u32 9, .int .u32 0, .int .u16 0, .int .u16 0, .int .u32 (k : Int), .int .u32 0, .slice E.a E.n E.c] 77))) := Lib.hid (HB7.out.trans (hb8.mono HBS.out))
          obtain ⟨w8, hw8⟩ : ∃ x, x = w7.alloc (.cells #[.int .u8 4, .int .u32 9, .int .u32 0, .int .u16 0, .int .u16 0, .int .u32 (k : Int), .int .u32 0, .slice E.a E.n E.c] 77) := ⟨_, rfl⟩
          obtain ⟨eb, heb⟩ : ∃ x, x = w7.heap.size := ⟨_, rfl⟩
          rw [← hw8, ← heb] at l8
          rw [← hw8] at HB8 HE8
          rw [← hw8, ← heb]
          have HBS8 : Hid (B ≤ w8.heap.size) := Lib.hid (by have := hb8.size; rw [← hw8] at this; have := HBS.out; omega)
          have HCC : Hid (∀ x : World, Below w8.heap.size w8 x → (x.cell? ⟨eb, 0, none⟩ = some (.int .u8 4) ∧ x.cell? ⟨eb, 1, none⟩ = some (.int .u32 9) ∧ x.cell? ⟨eb, 2, none⟩ = some (.int .u32 0) ∧ x.cell? ⟨eb, 3, none⟩ = some (.int .u16 0) ∧ x.cell? ⟨eb, 4, none⟩ = some (.int .u16 0) ∧ x.cell? ⟨eb, 5, none⟩ = some (.int .u32 (k : Int)) ∧ x.cell? ⟨eb, 6, none⟩ = some (.int .u32 0) ∧ x.cell? ⟨eb, 7, none⟩ = some (.slice E.a E.n E.c))) := Lib.hid fun x hx => by
            obtain ⟨a0, a1, a2, a3, a4, a5, a6, a7⟩ := eight_at ((hx.block _ (Array.getElem?_eq_some_iff.1 l8).1).trans l8)
            exact ⟨a0, a1, a2, a3, a4, a5, a6, a7⟩
          have HPG := Lib.hid fun x : World => stgPage_any k 9 x (by have := HRB.out; have := HKN.out; omega) (by omega)
          rw [show ((9 : Nat) : Int) = 9 from rfl] at HPG
          have HSM : Hid (∀ (x : World) (G : PS), Below w8.heap.size w8 x → PartOk x G → G.l = pgL k 9 → Calls Try.prog 46 #[.agg #[.int .u8 4, .int .u32 9, .int .u32 0, .int .u16 0, .int .u16 0, .int .u32 (k : Int), .int .u32 0, .slice E.a E.n E.c], .agg #[.int .u8 4, .int .u32 9, .int .u32 0, .int .u16 0, .int .u16 0, .int .u32 (k : Int), .int .u32 0, .slice G.a G.n G.c]] x fun e w' => e = .returned (.bool true) ∧ Below x.heap.size x w') := Lib.hid fun x G hx hG hl => samePg_any k 9 E G x (HE8.out.2.step hx) hG (HE8.out.1.trans hl.symm)
          have HB0 : Hid (Below w8.heap.size w8 w8.drew) := Lib.hid (Below.refl _ _).drew
          have hS0 := HCC.out w8.drew HB0.out
          clear l8 hb8 hw8 heb
          have t3 : ((n : Int) == (n : Int)) = true := by simp
          go_region_held3 (fun x => x.cell? ⟨eb, 0, none⟩ = some (.int .u8 4) ∧ x.cell? ⟨eb, 1, none⟩ = some (.int .u32 9) ∧ x.cell? ⟨eb, 2, none⟩ = some (.int .u32 0) ∧ x.cell? ⟨eb, 3, none⟩ = some (.int .u16 0) ∧ x.cell? ⟨eb, 4, none⟩ = some (.int .u16 0) ∧ x.cell? ⟨eb, 5, none⟩ = some (.int .u32 (k : Int)) ∧ x.cell? ⟨eb, 6, none⟩ = some (.int .u32 0) ∧ x.cell? ⟨eb, 7, none⟩ = some (.slice E.a E.n E.c))
            (first | with_reducible exact hS0 | with_reducible exact hS1 | with_reducible exact hS2 | go_keep)
            (first
              | (go_simp; go_at_call 43; ((with_reducible refine (HPG.out w8.drew).mono ?_)); (intro e wa hr; obtain ⟨G, rfl, g1, g2, g3, g4, hba⟩ := hr; have HBa := Lib.hid (bel_trans HB0.out hba); have HGG := Lib.hid (And.intro g1 g3); have hS1 := HCC.out wa HBa.out; clear g1 g2 g3 g4 hba))
              | (go_simp; go_at_call 46; ((with_reducible refine (HSM.out wa G HBa.out HGG.out.2 HGG.out.1).mono ?_)); (intro e wb hr; obtain ⟨rfl, hbb⟩ := hr; have HBb := Lib.hid (bel_trans HBa.out hbb); have hS2 := HCC.out wb HBb.out; clear hbb)))
          all_goals
            clear hS0 hS1 hS2
            go_wp2
            go_ret
            exact ⟨rfl, HBWX.out _ (HB8.out.trans (HBb.out.mono HBS8.out))⟩
end Go.Proofs.Ytallambldbhibaa
