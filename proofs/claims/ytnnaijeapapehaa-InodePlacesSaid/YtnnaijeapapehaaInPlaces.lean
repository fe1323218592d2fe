/- InodePlaces: the walk. -/
import Derived.Test.YtnnaijeapapehaaInPlN
namespace Go.Proofs.Ytnnaijeapapehaa
open Go.RowKit

set_option maxRecDepth 100000 in
set_option maxHeartbeats 4000000 in
theorem places_full (xb xs a c : Int) (w : World) (v y s v2 y2 b : Int) (hv : IntKind.u64.wrap xs = v) (hy : v % 13 = y) (hs : 256 + 64 * y = s) (hv2 : IntKind.u64.wrap xb = v2) (hy2 : v2 % 5000 = y2) (hb : 40 + y2 = b) (hf : ¬ firstI b s + 8 ≤ b) :
    Calls Try.prog 6 #[.agg #[.int .i64 xb, .int .i64 xs, .int .u32 a, .int .u32 c]] w fun e w' => e = .returned (.bool true) ∧ Below w.heap.size w w' := by
  obtain ⟨y0, y1, hv0, hv1, c1⟩ := sizeI_of xs v y hv hy
  obtain ⟨y3, y4, hv3, hv4, c2⟩ := blocksI_of xb v2 y2 hv2 hy2
  have hl : LayIn b s := by unfold LayIn; omega
  have h1 := fun w => lay_any b s w hl
  rw [if_neg hf] at h1
  unfold layV at h1
  have H1 := Lib.hid h1
  have HL := Lib.hid laidI_any
  clear h1 hf hl
  go_enter Try.func6, Try.ntmps6
  go_wp2_with fail
  obtain ⟨X0, hX0⟩ : ∃ x, x = w.alloc (.cells #[.int .i64 xb, .int .i64 xs, .int .u32 a, .int .u32 c] 57) := ⟨_, rfl⟩
  obtain ⟨p0, hp0⟩ : ∃ x, x = w.heap.size := ⟨_, rfl⟩
  have hh0 : X0.heap[p0]? = some (.cells #[.int .i64 xb, .int .i64 xs, .int .u32 a, .int .u32 c] 57 (0, 0)) := by rw [hX0, hp0]; exact heap_alloc_new _ _
  have HBX0 : Hid (Below w.heap.size w X0) := Lib.hid (by rw [hX0]; exact bel_alloc (Below.refl _ _) _)
  obtain ⟨y0, y1, y2, y3⟩ := caseP_box hh0
  rw [← hX0, ← hp0]
  clear hX0 hp0 hh0
  go_quiet (fail)
  obtain ⟨Y0, hY0⟩ : ∃ x, x = X0.drewN nq := ⟨_, rfl⟩
  have HBY0 : Hid (Below w.heap.size w Y0) := Lib.hid (by rw [hY0]; exact HBX0.out.trans ⟨rfl, rfl, rfl, Nat.le_refl _, fun _ _ => rfl⟩)
  rw [← hY0]
  clear hY0 y0 y1 y2 y3
  go_wp2_with fail
  ((with_reducible refine (H1.out _).mono ?_))
  rintro e w1 ⟨rfl, hb1⟩
  have HB1 := Lib.hid (bel_trans HBY0.out hb1)
  clear hb1
  obtain ⟨X1, hX1⟩ : ∃ x, x = w1.alloc (.cells #[.int .i64 0, .int .i64 0, .int .i64 0, .int .i64 0, .int .i64 0] 49) := ⟨_, rfl⟩
  obtain ⟨p1, hp1⟩ : ∃ x, x = w1.heap.size := ⟨_, rfl⟩
  have HH1 : Hid (X1.heap[p1]? = some (.cells #[.int .i64 0, .int .i64 0, .int .i64 0, .int .i64 0, .int .i64 0] 49 (0, 0))) := Lib.hid (by rw [hX1, hp1]; exact heap_alloc_new _ _)
  have HBX1 : Hid (Below w.heap.size w X1) := Lib.hid (by rw [hX1]; exact bel_alloc HB1.out _)
  go_wp2_with fail
  rw [← hX1, ← hp1]
  clear hX1 hp1
  ((with_reducible refine (HL.out _).mono ?_))
  rintro e w2 ⟨rfl, hb2⟩
  have HH2 := Lib.hid ((hb2.block p1 (Array.getElem?_eq_some_iff.1 HH1.out).1).trans HH1.out)
  have HB2 := Lib.hid (bel_trans HBX1.out hb2)
  clear hb2
  obtain ⟨z0, z1, z2, z3, z4⟩ := layV_box HH2.out
  go_wp2_with fail
  ((with_reducible refine (HL.out _).mono ?_))
  rintro e w3 ⟨rfl, hb3⟩
  have HB3 := Lib.hid (bel_trans HB2.out hb3)
  clear hb3
  go_wp2_with fail
  go_ret
  exact ⟨rfl, HB3.out⟩
set_option maxRecDepth 100000 in
set_option maxHeartbeats 4000000 in
theorem places_0 (xb xs a c : Int) (w : World) (v y s v2 y2 b : Int) (hv : IntKind.u64.wrap xs = v) (hy : v % 13 = y) (hs : 256 + 64 * y = s) (hv2 : IntKind.u64.wrap xb = v2) (hy2 : v2 % 5000 = y2) (hb : 40 + y2 = b) (hf : firstI b s + 8 ≤ b) (ha0 : 0 ≤ a) (ha1 : a ≤ 4294967295) (hc0 : 0 ≤ c) (hc1 : c ≤ 4294967295) (hA : 1 ≤ a ∧ a ≤ bitsI b s * (s / 64)) (hC : 1 ≤ c ∧ c ≤ bitsI b s * (s / 64)) (hne : a = c) :
    Calls Try.prog 6 #[.agg #[.int .i64 xb, .int .i64 xs, .int .u32 a, .int .u32 c]] w fun e w' => e = .returned (.bool true) ∧ Below w.heap.size w w' := by
  obtain ⟨y0, y1, hv0, hv1, c1⟩ := sizeI_of xs v y hv hy
  obtain ⟨y3, y4, hv3, hv4, c2⟩ := blocksI_of xb v2 y2 hv2 hy2
  have hl : LayIn b s := by unfold LayIn; omega
  have h1 := fun w => lay_any b s w hl
  rw [if_pos hf] at h1
  obtain ⟨k0, k1, -, -, e0, e1, e2, e3⟩ := lay_nums b s hl
  obtain ⟨b0, hb0⟩ : ∃ b0, bitsI b s = b0 := ⟨_, rfl⟩
  obtain ⟨m, hm⟩ : ∃ m, s / 64 = m := ⟨_, rfl⟩
  obtain ⟨b1, hb1⟩ : ∃ b1, b0 * m = b1 := ⟨_, rfl⟩
  obtain ⟨b2, hb2⟩ : ∃ b2, firstI b s = b2 := ⟨_, rfl⟩
  have hfi : b2 = b0 + ceilI b (8 * s) := by rw [← hb2, ← hb0]; rfl
  rw [hb0, hm, hb1, hb2] at h1
  rw [hb0, hm, hb1] at hA hC
  rw [hb0] at e0 e1
  rw [hm] at k0 k1
  unfold layV at h1
  have H1 := Lib.hid h1
  have HL := Lib.hid laidI_any
  have hsm : s = 64 * m := by omega
  have s0 : 256 ≤ s := by omega
  have s1 : s ≤ 1024 := by omega
  have us := tquo s 64 m (by omega) (by omega) (by omega) hm
  have b3 : 40 ≤ b := by omega
  have b4 : b ≤ 5039 := by omega
  have HM := Lib.hid (And.intro hm (And.intro hb1 hfi))
  clear h1 hb0 hb2 hl hf hm hfi
  obtain ⟨i1, hi1⟩ : ∃ i, a - 1 = i := ⟨_, rfl⟩
  obtain ⟨q1, hq1⟩ : ∃ q, i1 / m = q := ⟨_, rfl⟩
  obtain ⟨r1, hr1⟩ : ∃ r, i1 % m = r := ⟨_, rfl⟩
  have HA := Lib.hid fun w => at_yes b1 b0 b2 b s m a i1 q1 r1 w (by omega) (by omega) HM.out.1 (by omega) (by omega) (by omega) hi1 hq1 hr1
  have HN1 := Lib.hid (at_nums i1 m q1 r1 (by omega) (by omega) (by omega) (by omega) hq1 hr1)
  have g1 : decide (1 ≤ a) = true := by simp; omega
  have g2 : decide (a ≤ b1) = true := by simp; omega
  have ua : IntKind.i64.wrap a = a := wi64_id _ (by omega) (by omega)
  have ui : IntKind.i64.wrap i1 = i1 := wi64_id _ (by omega) (by omega)
  have uw : IntKind.u32.wrap i1 = i1 := by rw [IntKind.wrap_u32]; omega
  have g3 : decide (b0 ≤ q1) = false := by
    have := q_lt i1 m b0 b1 q1 HM.out.2.1 hq1 (by omega) (by omega)
    simp
    omega
  obtain ⟨i2, hi2⟩ : ∃ i, c - 1 = i := ⟨_, rfl⟩
  obtain ⟨q2, hq2⟩ : ∃ q, i2 / m = q := ⟨_, rfl⟩
  obtain ⟨r2, hr2⟩ : ∃ r, i2 % m = r := ⟨_, rfl⟩
  have HC := Lib.hid fun w => at_yes b1 b0 b2 b s m c i2 q2 r2 w (by omega) (by omega) HM.out.1 (by omega) (by omega) (by omega) hi2 hq2 hr2
  have g4 : (a != c) = false := by simp; omega
  clear hq1 hr1 hi2 hq2 hr2 k0 k1 e2 e3 hsm hb1 hne hA hC
  go_enter Try.func6, Try.ntmps6
  go_wp2_with fail
  obtain ⟨X0, hX0⟩ : ∃ x, x = w.alloc (.cells #[.int .i64 xb, .int .i64 xs, .int .u32 a, .int .u32 c] 57) := ⟨_, rfl⟩
  obtain ⟨p0, hp0⟩ : ∃ x, x = w.heap.size := ⟨_, rfl⟩
  have hh0 : X0.heap[p0]? = some (.cells #[.int .i64 xb, .int .i64 xs, .int .u32 a, .int .u32 c] 57 (0, 0)) := by rw [hX0, hp0]; exact heap_alloc_new _ _
  have HBX0 : Hid (Below w.heap.size w X0) := Lib.hid (by rw [hX0]; exact bel_alloc (Below.refl _ _) _)
  obtain ⟨y0, y1, y2, y3⟩ := caseP_box hh0
  rw [← hX0, ← hp0]
  clear hX0 hp0 hh0
  go_quiet (fail)
  obtain ⟨Y0, hY0⟩ : ∃ x, x = X0.drewN nq := ⟨_, rfl⟩
  have HBY0 : Hid (Below w.heap.size w Y0) := Lib.hid (by rw [hY0]; exact HBX0.out.trans ⟨rfl, rfl, rfl, Nat.le_refl _, fun _ _ => rfl⟩)
  rw [← hY0]
  clear hY0 y0 y1 y2 y3
  go_wp2_with fail
  ((with_reducible refine (H1.out _).mono ?_))
  rintro e w1 ⟨rfl, hb1⟩
  have HB1 := Lib.hid (bel_trans HBY0.out hb1)
  clear hb1
  obtain ⟨X1, hX1⟩ : ∃ x, x = w1.alloc (.cells #[.int .i64 b1, .int .i64 b0, .int .i64 b2, .int .i64 b, .int .i64 s] 49) := ⟨_, rfl⟩
  obtain ⟨p1, hp1⟩ : ∃ x, x = w1.heap.size := ⟨_, rfl⟩
  have HH1 : Hid (X1.heap[p1]? = some (.cells #[.int .i64 b1, .int .i64 b0, .int .i64 b2, .int .i64 b, .int .i64 s] 49 (0, 0))) := Lib.hid (by rw [hX1, hp1]; exact heap_alloc_new _ _)
  have HBX1 : Hid (Below w.heap.size w X1) := Lib.hid (by rw [hX1]; exact bel_alloc HB1.out _)
  go_wp2_with fail
  rw [← hX1, ← hp1]
  clear hX1 hp1
  ((with_reducible refine (HL.out _).mono ?_))
  rintro e w2 ⟨rfl, hb2⟩
  have HH2 := Lib.hid ((hb2.block p1 (Array.getElem?_eq_some_iff.1 HH1.out).1).trans HH1.out)
  have HB2 := Lib.hid (bel_trans HBX1.out hb2)
  clear hb2
  obtain ⟨z0, z1, z2, z3, z4⟩ := layV_box HH2.out
  go_wp2_with fail
  ((with_reducible refine (HA.out _).mono ?_))
  rintro e w3 ⟨rfl, hb3⟩
  have HH3 := Lib.hid ((hb3.block p1 (Array.getElem?_eq_some_iff.1 HH2.out).1).trans HH2.out)
  have HB3 := Lib.hid (bel_trans HB2.out hb3)
  obtain ⟨y0, y1, y2, y3, y4⟩ := layV_box HH3.out
  clear hb3 z0 z1 z2 z3 z4
  go_wp2_with fail
  ((with_reducible refine (HC.out _).mono ?_))
  rintro e w4 ⟨rfl, hb4⟩
  have HH4 := Lib.hid ((hb4.block p1 (Array.getElem?_eq_some_iff.1 HH3.out).1).trans HH3.out)
  have HB4 := Lib.hid (bel_trans HB3.out hb4)
  obtain ⟨z0, z1, z2, z3, z4⟩ := layV_box HH4.out
  clear hb4 y0 y1 y2 y3 y4
  obtain ⟨a1, a2, -, a4, a5, a6, a7, a8, a9, a10, a11⟩ := HN1.out
  go_upto_region 14 with fail
  clear a1 a2 a4 a5 a6 a7 a8 a9 a10 a11 g1 g2 g3 ua ui uw hi1
  obtain ⟨x, hx⟩ : ∃ x, a % b = x := ⟨_, rfl⟩
  obtain ⟨z, hz⟩ : ∃ z, c % b = z := ⟨_, rfl⟩
  have x0 := rem_bd a b x (by omega) hx
  have z0' := rem_bd c b z (by omega) hz
  have v1 := trem a b x ha0 hx
  have v2' := trem c b z hc0 hz
  have ub : IntKind.u32.wrap b = b := by rw [IntKind.wrap_u32]; omega
  have ux : IntKind.u32.wrap x = x := by rw [IntKind.wrap_u32]; omega
  have uz : IntKind.u32.wrap z = z := by rw [IntKind.wrap_u32]; omega
  have nb : b ≠ 0 := by omega
  have x1 : 0 ≤ x := x0.1
  have x2 : x ≤ 5039 := by omega
  have x3 : 0 ≤ z := z0'.1
  have x4 : z ≤ 5039 := by omega
  obtain ⟨i5, hbi5⟩ : ∃ i, x / 8 = i := ⟨_, rfl⟩
  obtain ⟨q5, hbq5⟩ : ∃ q, i5 / s = q := ⟨_, rfl⟩
  obtain ⟨r5, hbr5⟩ : ∃ r, i5 % s = r := ⟨_, rfl⟩
  obtain ⟨d5, hbd5⟩ : ∃ d, x % 8 = d := ⟨_, rfl⟩
  have HBC5 := Lib.hid fun w => bit_any b1 b0 b2 b s x i5 q5 r5 d5 w (by omega) (by omega) (by omega) (by omega) (by omega) (by omega) hbi5 hbq5 hbr5 hbd5
  have HBF5 := Lib.hid (bit_forms x b s i5 q5 r5 d5 b2 b0 (by omega) (by omega) (by omega) (by omega) (by omega) hbi5 hbq5 hbr5 hbd5 (by omega) (by omega) HM.out.2.2)
  obtain ⟨i6, hbi6⟩ : ∃ i, z / 8 = i := ⟨_, rfl⟩
  obtain ⟨q6, hbq6⟩ : ∃ q, i6 / s = q := ⟨_, rfl⟩
  obtain ⟨r6, hbr6⟩ : ∃ r, i6 % s = r := ⟨_, rfl⟩
  obtain ⟨d6, hbd6⟩ : ∃ d, z % 8 = d := ⟨_, rfl⟩
  have HBC6 := Lib.hid fun w => bit_any b1 b0 b2 b s z i6 q6 r6 d6 w (by omega) (by omega) (by omega) (by omega) (by omega) (by omega) hbi6 hbq6 hbr6 hbd6
  have HBF6 := Lib.hid (bit_forms z b s i6 q6 r6 d6 b2 b0 (by omega) (by omega) (by omega) (by omega) (by omega) hbi6 hbq6 hbr6 hbd6 (by omega) (by omega) HM.out.2.2)
  have HINJ : Hid (x = z ∨ (x ≠ z ∧ q5 ≠ q6) ∨ (x ≠ z ∧ q5 = q6 ∧ r5 ≠ r6) ∨ (x ≠ z ∧ q5 = q6 ∧ r5 = r6 ∧ d5 ≠ d6)) := Lib.hid (by
    by_cases cx : x = z
    · exact .inl cx
    by_cases cq : q5 = q6
    · by_cases cr : r5 = r6
      · refine .inr (.inr (.inr ⟨cx, cq, cr, fun cd => cx (bit_inj x z s ?_ ?_ ?_)⟩))
        · rw [hbi5, hbi6, hbq5, hbq6, cq]
        · rw [hbi5, hbi6, hbr5, hbr6, cr]
        · rw [hbd5, hbd6, cd]
      · exact .inr (.inr (.inl ⟨cx, cq, cr⟩))
    · exact .inr (.inl ⟨cx, cq⟩))
  have HD := Lib.hid (And.intro hbi5 hbd5)
  clear hbi5 hbq5 hbr5 hbd5 hbi6 hbq6 hbr6 hbd6 x0 z0'
  go_quiet (fail)
  obtain ⟨Y4, hY4⟩ : ∃ x, x = w4.drewN nq := ⟨_, rfl⟩
  have hq4 : Below w4.heap.size w4 Y4 := by rw [hY4]; exact ⟨rfl, rfl, rfl, Nat.le_refl _, fun _ _ => rfl⟩
  have HH5 := Lib.hid ((hq4.block p1 (Array.getElem?_eq_some_iff.1 HH4.out).1).trans HH4.out)
  have HB5 := Lib.hid (bel_trans HB4.out hq4)
  rw [← hY4]
  clear hY4 hq4 z0 z1 z2 z3 z4 hx hz v1 v2' ub ux uz nb
  obtain ⟨z0, z1, z2, z3, z4⟩ := layV_box HH5.out
  go_wp2_with fail
  ((with_reducible refine (HBC5.out _).mono ?_))
  rintro e w6 ⟨rfl, hb6⟩
  have HH6 := Lib.hid ((hb6.block p1 (Array.getElem?_eq_some_iff.1 HH5.out).1).trans HH5.out)
  have HB6 := Lib.hid (bel_trans HB5.out hb6)
  obtain ⟨y0, y1, y2, y3, y4⟩ := layV_box HH6.out
  clear hb6 z0 z1 z2 z3 z4
  go_wp2_with fail
  ((with_reducible refine (HBC6.out _).mono ?_))
  rintro e w7 ⟨rfl, hb7⟩
  have HH7 := Lib.hid ((hb7.block p1 (Array.getElem?_eq_some_iff.1 HH6.out).1).trans HH6.out)
  have HB7 := Lib.hid (bel_trans HB6.out hb7)
  obtain ⟨z0, z1, z2, z3, z4⟩ := layV_box HH7.out
  clear hb7 y0 y1 y2 y3 y4
  obtain ⟨hi5, hd5⟩ := HD.out
  obtain ⟨f1, f2, f3, f4, f5, f6, f7, f8, f9, f10, f11, f12, f13, f14, f15, f16, f17, f18⟩ := HBF5.out
  rcases HINJ.out with e | ⟨e, eq⟩ | ⟨e, eq, er⟩ | ⟨e, eq, er, ed⟩
  · have j1 : (x == z) = true := by simpa using e
    clear e
    go_upto_region 17 with fail
    go_quiet (fail)
    all_goals
      go_wp2_with fail
      go_ret
      exact ⟨rfl, HB7.out.trans ⟨rfl, rfl, rfl, Nat.le_refl _, fun _ _ => rfl⟩⟩
  · have j1 : (x == z) = false := by simpa using e
    have j2 : (b0 + q5 != b0 + q6) = true := by simp; omega
    clear e eq
    go_upto_region 17 with fail
    go_quiet (fail)
    all_goals
      go_wp2_with fail
      go_ret
      exact ⟨rfl, HB7.out.trans ⟨rfl, rfl, rfl, Nat.le_refl _, fun _ _ => rfl⟩⟩
  · have j1 : (x == z) = false := by simpa using e
    have j2 : (b0 + q5 != b0 + q6) = false := by simp; omega
    have j3 : (r5 != r6) = true := by simpa using er
    clear e eq er
    go_upto_region 17 with fail
    go_quiet (fail)
    all_goals
      go_wp2_with fail
      go_ret
      exact ⟨rfl, HB7.out.trans ⟨rfl, rfl, rfl, Nat.le_refl _, fun _ _ => rfl⟩⟩
  · have j1 : (x == z) = false := by simpa using e
    have j2 : (b0 + q5 != b0 + q6) = false := by simp; omega
    have j3 : (r5 != r6) = false := by simpa using er
    have j4 : (d5 != d6) = true := by simpa using ed
    clear e eq er ed
    go_upto_region 17 with fail
    go_quiet (fail)
    all_goals
      go_wp2_with fail
      go_ret
      exact ⟨rfl, HB7.out.trans ⟨rfl, rfl, rfl, Nat.le_refl _, fun _ _ => rfl⟩⟩
set_option maxRecDepth 100000 in
set_option maxHeartbeats 4000000 in
theorem places_1 (xb xs a c : Int) (w : World) (v y s v2 y2 b : Int) (hv : IntKind.u64.wrap xs = v) (hy : v % 13 = y) (hs : 256 + 64 * y = s) (hv2 : IntKind.u64.wrap xb = v2) (hy2 : v2 % 5000 = y2) (hb : 40 + y2 = b) (hf : firstI b s + 8 ≤ b) (ha0 : 0 ≤ a) (ha1 : a ≤ 4294967295) (hc0 : 0 ≤ c) (hc1 : c ≤ 4294967295) (hA : 1 ≤ a ∧ a ≤ bitsI b s * (s / 64)) (hC : 1 ≤ c ∧ c ≤ bitsI b s * (s / 64)) (hne : a ≠ c) (hrel : (a - 1) / (s / 64) ≠ (c - 1) / (s / 64)) :
    Calls Try.prog 6 #[.agg #[.int .i64 xb, .int .i64 xs, .int .u32 a, .int .u32 c]] w fun e w' => e = .returned (.bool true) ∧ Below w.heap.size w w' := by
  obtain ⟨y0, y1, hv0, hv1, c1⟩ := sizeI_of xs v y hv hy
  obtain ⟨y3, y4, hv3, hv4, c2⟩ := blocksI_of xb v2 y2 hv2 hy2
  have hl : LayIn b s := by unfold LayIn; omega
  have h1 := fun w => lay_any b s w hl
  rw [if_pos hf] at h1
  obtain ⟨k0, k1, -, -, e0, e1, e2, e3⟩ := lay_nums b s hl
  obtain ⟨b0, hb0⟩ : ∃ b0, bitsI b s = b0 := ⟨_, rfl⟩
  obtain ⟨m, hm⟩ : ∃ m, s / 64 = m := ⟨_, rfl⟩
  obtain ⟨b1, hb1⟩ : ∃ b1, b0 * m = b1 := ⟨_, rfl⟩
  obtain ⟨b2, hb2⟩ : ∃ b2, firstI b s = b2 := ⟨_, rfl⟩
  have hfi : b2 = b0 + ceilI b (8 * s) := by rw [← hb2, ← hb0]; rfl
  rw [hb0, hm, hb1, hb2] at h1
  rw [hb0, hm, hb1] at hA hC
  rw [hm] at hrel
  rw [hb0] at e0 e1
  rw [hm] at k0 k1
  unfold layV at h1
  have H1 := Lib.hid h1
  have HL := Lib.hid laidI_any
  have hsm : s = 64 * m := by omega
  have s0 : 256 ≤ s := by omega
  have s1 : s ≤ 1024 := by omega
  have us := tquo s 64 m (by omega) (by omega) (by omega) hm
  have b3 : 40 ≤ b := by omega
  have b4 : b ≤ 5039 := by omega
  have HM := Lib.hid (And.intro hm (And.intro hb1 hfi))
  clear h1 hb0 hb2 hl hf hm hfi
  obtain ⟨i1, hi1⟩ : ∃ i, a - 1 = i := ⟨_, rfl⟩
  obtain ⟨q1, hq1⟩ : ∃ q, i1 / m = q := ⟨_, rfl⟩
  obtain ⟨r1, hr1⟩ : ∃ r, i1 % m = r := ⟨_, rfl⟩
  have HA := Lib.hid fun w => at_yes b1 b0 b2 b s m a i1 q1 r1 w (by omega) (by omega) HM.out.1 (by omega) (by omega) (by omega) hi1 hq1 hr1
  have HN1 := Lib.hid (at_nums i1 m q1 r1 (by omega) (by omega) (by omega) (by omega) hq1 hr1)
  have g1 : decide (1 ≤ a) = true := by simp; omega
  have g2 : decide (a ≤ b1) = true := by simp; omega
  have ua : IntKind.i64.wrap a = a := wi64_id _ (by omega) (by omega)
  have ui : IntKind.i64.wrap i1 = i1 := wi64_id _ (by omega) (by omega)
  have uw : IntKind.u32.wrap i1 = i1 := by rw [IntKind.wrap_u32]; omega
  have g3 : decide (b0 ≤ q1) = false := by
    have := q_lt i1 m b0 b1 q1 HM.out.2.1 hq1 (by omega) (by omega)
    simp
    omega
  obtain ⟨i2, hi2⟩ : ∃ i, c - 1 = i := ⟨_, rfl⟩
  obtain ⟨q2, hq2⟩ : ∃ q, i2 / m = q := ⟨_, rfl⟩
  obtain ⟨r2, hr2⟩ : ∃ r, i2 % m = r := ⟨_, rfl⟩
  have HC := Lib.hid fun w => at_yes b1 b0 b2 b s m c i2 q2 r2 w (by omega) (by omega) HM.out.1 (by omega) (by omega) (by omega) hi2 hq2 hr2
  have g4 : (a != c) = true := by simp; omega
  have g5 : (q1 == q2) = false := by simp; intro e; exact hrel (by rw [hi1, hi2, hq1, hq2, e])
  clear hq1 hr1 hi2 hq2 hr2 k0 k1 e2 e3 hsm hb1 hne hrel hA hC
  go_enter Try.func6, Try.ntmps6
  go_wp2_with fail
  obtain ⟨X0, hX0⟩ : ∃ x, x = w.alloc (.cells #[.int .i64 xb, .int .i64 xs, .int .u32 a, .int .u32 c] 57) := ⟨_, rfl⟩
  obtain ⟨p0, hp0⟩ : ∃ x, x = w.heap.size := ⟨_, rfl⟩
  have hh0 : X0.heap[p0]? = some (.cells #[.int .i64 xb, .int .i64 xs, .int .u32 a, .int .u32 c] 57 (0, 0)) := by rw [hX0, hp0]; exact heap_alloc_new _ _
  have HBX0 : Hid (Below w.heap.size w X0) := Lib.hid (by rw [hX0]; exact bel_alloc (Below.refl _ _) _)
  obtain ⟨y0, y1, y2, y3⟩ := caseP_box hh0
  rw [← hX0, ← hp0]
  clear hX0 hp0 hh0
  go_quiet (fail)
  obtain ⟨Y0, hY0⟩ : ∃ x, x = X0.drewN nq := ⟨_, rfl⟩
  have HBY0 : Hid (Below w.heap.size w Y0) := Lib.hid (by rw [hY0]; exact HBX0.out.trans ⟨rfl, rfl, rfl, Nat.le_refl _, fun _ _ => rfl⟩)
  rw [← hY0]
  clear hY0 y0 y1 y2 y3
  go_wp2_with fail
  ((with_reducible refine (H1.out _).mono ?_))
  rintro e w1 ⟨rfl, hb1⟩
  have HB1 := Lib.hid (bel_trans HBY0.out hb1)
  clear hb1
  obtain ⟨X1, hX1⟩ : ∃ x, x = w1.alloc (.cells #[.int .i64 b1, .int .i64 b0, .int .i64 b2, .int .i64 b, .int .i64 s] 49) := ⟨_, rfl⟩
  obtain ⟨p1, hp1⟩ : ∃ x, x = w1.heap.size := ⟨_, rfl⟩
  have HH1 : Hid (X1.heap[p1]? = some (.cells #[.int .i64 b1, .int .i64 b0, .int .i64 b2, .int .i64 b, .int .i64 s] 49 (0, 0))) := Lib.hid (by rw [hX1, hp1]; exact heap_alloc_new _ _)
  have HBX1 : Hid (Below w.heap.size w X1) := Lib.hid (by rw [hX1]; exact bel_alloc HB1.out _)
  go_wp2_with fail
  rw [← hX1, ← hp1]
  clear hX1 hp1
  ((with_reducible refine (HL.out _).mono ?_))
  rintro e w2 ⟨rfl, hb2⟩
  have HH2 := Lib.hid ((hb2.block p1 (Array.getElem?_eq_some_iff.1 HH1.out).1).trans HH1.out)
  have HB2 := Lib.hid (bel_trans HBX1.out hb2)
  clear hb2
  obtain ⟨z0, z1, z2, z3, z4⟩ := layV_box HH2.out
  go_wp2_with fail
  ((with_reducible refine (HA.out _).mono ?_))
  rintro e w3 ⟨rfl, hb3⟩
  have HH3 := Lib.hid ((hb3.block p1 (Array.getElem?_eq_some_iff.1 HH2.out).1).trans HH2.out)
  have HB3 := Lib.hid (bel_trans HB2.out hb3)
  obtain ⟨y0, y1, y2, y3, y4⟩ := layV_box HH3.out
  clear hb3 z0 z1 z2 z3 z4
  go_wp2_with fail
  ((with_reducible refine (HC.out _).mono ?_))
  rintro e w4 ⟨rfl, hb4⟩
  have HH4 := Lib.hid ((hb4.block p1 (Array.getElem?_eq_some_iff.1 HH3.out).1).trans HH3.out)
  have HB4 := Lib.hid (bel_trans HB3.out hb4)
  obtain ⟨z0, z1, z2, z3, z4⟩ := layV_box HH4.out
  clear hb4 y0 y1 y2 y3 y4
  obtain ⟨a1, a2, -, a4, a5, a6, a7, a8, a9, a10, a11⟩ := HN1.out
  go_upto_region 14 with fail
  clear a1 a2 a4 a5 a6 a7 a8 a9 a10 a11 g1 g2 g3 ua ui uw hi1
  obtain ⟨x, hx⟩ : ∃ x, a % b = x := ⟨_, rfl⟩
  obtain ⟨z, hz⟩ : ∃ z, c % b = z := ⟨_, rfl⟩
  have x0 := rem_bd a b x (by omega) hx
  have z0' := rem_bd c b z (by omega) hz
  have v1 := trem a b x ha0 hx
  have v2' := trem c b z hc0 hz
  have ub : IntKind.u32.wrap b = b := by rw [IntKind.wrap_u32]; omega
  have ux : IntKind.u32.wrap x = x := by rw [IntKind.wrap_u32]; omega
  have uz : IntKind.u32.wrap z = z := by rw [IntKind.wrap_u32]; omega
  have nb : b ≠ 0 := by omega
  have x1 : 0 ≤ x := x0.1
  have x2 : x ≤ 5039 := by omega
  have x3 : 0 ≤ z := z0'.1
  have x4 : z ≤ 5039 := by omega
  obtain ⟨i5, hbi5⟩ : ∃ i, x / 8 = i := ⟨_, rfl⟩
  obtain ⟨q5, hbq5⟩ : ∃ q, i5 / s = q := ⟨_, rfl⟩
  obtain ⟨r5, hbr5⟩ : ∃ r, i5 % s = r := ⟨_, rfl⟩
  obtain ⟨d5, hbd5⟩ : ∃ d, x % 8 = d := ⟨_, rfl⟩
  have HBC5 := Lib.hid fun w => bit_any b1 b0 b2 b s x i5 q5 r5 d5 w (by omega) (by omega) (by omega) (by omega) (by omega) (by omega) hbi5 hbq5 hbr5 hbd5
  have HBF5 := Lib.hid (bit_forms x b s i5 q5 r5 d5 b2 b0 (by omega) (by omega) (by omega) (by omega) (by omega) hbi5 hbq5 hbr5 hbd5 (by omega) (by omega) HM.out.2.2)
  obtain ⟨i6, hbi6⟩ : ∃ i, z / 8 = i := ⟨_, rfl⟩
  obtain ⟨q6, hbq6⟩ : ∃ q, i6 / s = q := ⟨_, rfl⟩
  obtain ⟨r6, hbr6⟩ : ∃ r, i6 % s = r := ⟨_, rfl⟩
  obtain ⟨d6, hbd6⟩ : ∃ d, z % 8 = d := ⟨_, rfl⟩
  have HBC6 := Lib.hid fun w => bit_any b1 b0 b2 b s z i6 q6 r6 d6 w (by omega) (by omega) (by omega) (by omega) (by omega) (by omega) hbi6 hbq6 hbr6 hbd6
  have HBF6 := Lib.hid (bit_forms z b s i6 q6 r6 d6 b2 b0 (by omega) (by omega) (by omega) (by omega) (by omega) hbi6 hbq6 hbr6 hbd6 (by omega) (by omega) HM.out.2.2)
  have HINJ : Hid (x = z ∨ (x ≠ z ∧ q5 ≠ q6) ∨ (x ≠ z ∧ q5 = q6 ∧ r5 ≠ r6) ∨ (x ≠ z ∧ q5 = q6 ∧ r5 = r6 ∧ d5 ≠ d6)) := Lib.hid (by
    by_cases cx : x = z
    · exact .inl cx
    by_cases cq : q5 = q6
    · by_cases cr : r5 = r6
      · refine .inr (.inr (.inr ⟨cx, cq, cr, fun cd => cx (bit_inj x z s ?_ ?_ ?_)⟩))
        · rw [hbi5, hbi6, hbq5, hbq6, cq]
        · rw [hbi5, hbi6, hbr5, hbr6, cr]
        · rw [hbd5, hbd6, cd]
      · exact .inr (.inr (.inl ⟨cx, cq, cr⟩))
    · exact .inr (.inl ⟨cx, cq⟩))
  have HD := Lib.hid (And.intro hbi5 hbd5)
  clear hbi5 hbq5 hbr5 hbd5 hbi6 hbq6 hbr6 hbd6 x0 z0'
  go_quiet (fail)
  obtain ⟨Y4, hY4⟩ : ∃ x, x = w4.drewN nq := ⟨_, rfl⟩
  have hq4 : Below w4.heap.size w4 Y4 := by rw [hY4]; exact ⟨rfl, rfl, rfl, Nat.le_refl _, fun _ _ => rfl⟩
  have HH5 := Lib.hid ((hq4.block p1 (Array.getElem?_eq_some_iff.1 HH4.out).1).trans HH4.out)
  have HB5 := Lib.hid (bel_trans HB4.out hq4)
  rw [← hY4]
  clear hY4 hq4 z0 z1 z2 z3 z4 hx hz v1 v2' ub ux uz nb
  obtain ⟨z0, z1, z2, z3, z4⟩ := layV_box HH5.out
  go_wp2_with fail
  ((with_reducible refine (HBC5.out _).mono ?_))
  rintro e w6 ⟨rfl, hb6⟩
  have HH6 := Lib.hid ((hb6.block p1 (Array.getElem?_eq_some_iff.1 HH5.out).1).trans HH5.out)
  have HB6 := Lib.hid (bel_trans HB5.out hb6)
  obtain ⟨y0, y1, y2, y3, y4⟩ := layV_box HH6.out
  clear hb6 z0 z1 z2 z3 z4
  go_wp2_with fail
  ((with_reducible refine (HBC6.out _).mono ?_))
  rintro e w7 ⟨rfl, hb7⟩
  have HH7 := Lib.hid ((hb7.block p1 (Array.getElem?_eq_some_iff.1 HH6.out).1).trans HH6.out)
  have HB7 := Lib.hid (bel_trans HB6.out hb7)
  obtain ⟨z0, z1, z2, z3, z4⟩ := layV_box HH7.out
  clear hb7 y0 y1 y2 y3 y4
  obtain ⟨hi5, hd5⟩ := HD.out
  obtain ⟨f1, f2, f3, f4, f5, f6, f7, f8, f9, f10, f11, f12, f13, f14, f15, f16, f17, f18⟩ := HBF5.out
  rcases HINJ.out with e | ⟨e, eq⟩ | ⟨e, eq, er⟩ | ⟨e, eq, er, ed⟩
  · have j1 : (x == z) = true := by simpa using e
    clear e
    go_upto_region 17 with fail
    go_quiet (fail)
    all_goals
      go_wp2_with fail
      go_ret
      exact ⟨rfl, HB7.out.trans ⟨rfl, rfl, rfl, Nat.le_refl _, fun _ _ => rfl⟩⟩
  · have j1 : (x == z) = false := by simpa using e
    have j2 : (b0 + q5 != b0 + q6) = true := by simp; omega
    clear e eq
    go_upto_region 17 with fail
    go_quiet (fail)
    all_goals
      go_wp2_with fail
      go_ret
      exact ⟨rfl, HB7.out.trans ⟨rfl, rfl, rfl, Nat.le_refl _, fun _ _ => rfl⟩⟩
  · have j1 : (x == z) = false := by simpa using e
    have j2 : (b0 + q5 != b0 + q6) = false := by simp; omega
    have j3 : (r5 != r6) = true := by simpa using er
    clear e eq er
    go_upto_region 17 with fail
    go_quiet (fail)
    all_goals
      go_wp2_with fail
      go_ret
      exact ⟨rfl, HB7.out.trans ⟨rfl, rfl, rfl, Nat.le_refl _, fun _ _ => rfl⟩⟩
  · have j1 : (x == z) = false := by simpa using e
    have j2 : (b0 + q5 != b0 + q6) = false := by simp; omega
    have j3 : (r5 != r6) = false := by simpa using er
    have j4 : (d5 != d6) = true := by simpa using ed
    clear e eq er ed
    go_upto_region 17 with fail
    go_quiet (fail)
    all_goals
      go_wp2_with fail
      go_ret
      exact ⟨rfl, HB7.out.trans ⟨rfl, rfl, rfl, Nat.le_refl _, fun _ _ => rfl⟩⟩
set_option maxRecDepth 100000 in
set_option maxHeartbeats 4000000 in
theorem places_2 (xb xs a c : Int) (w : World) (v y s v2 y2 b : Int) (hv : IntKind.u64.wrap xs = v) (hy : v % 13 = y) (hs : 256 + 64 * y = s) (hv2 : IntKind.u64.wrap xb = v2) (hy2 : v2 % 5000 = y2) (hb : 40 + y2 = b) (hf : firstI b s + 8 ≤ b) (ha0 : 0 ≤ a) (ha1 : a ≤ 4294967295) (hc0 : 0 ≤ c) (hc1 : c ≤ 4294967295) (hA : 1 ≤ a ∧ a ≤ bitsI b s * (s / 64)) (hC : 1 ≤ c ∧ c ≤ bitsI b s * (s / 64)) (hne : a ≠ c) (hrel : (a - 1) / (s / 64) = (c - 1) / (s / 64)) :
    Calls Try.prog 6 #[.agg #[.int .i64 xb, .int .i64 xs, .int .u32 a, .int .u32 c]] w fun e w' => e = .returned (.bool true) ∧ Below w.heap.size w w' := by
  obtain ⟨y0, y1, hv0, hv1, c1⟩ := sizeI_of xs v y hv hy
  obtain ⟨y3, y4, hv3, hv4, c2⟩ := blocksI_of xb v2 y2 hv2 hy2
  have hl : LayIn b s := by unfold LayIn; omega
  have h1 := fun w => lay_any b s w hl
  rw [if_pos hf] at h1
  obtain ⟨k0, k1, -, -, e0, e1, e2, e3⟩ := lay_nums b s hl
  obtain ⟨b0, hb0⟩ : ∃ b0, bitsI b s = b0 := ⟨_, rfl⟩
  obtain ⟨m, hm⟩ : ∃ m, s / 64 = m := ⟨_, rfl⟩
  obtain ⟨b1, hb1⟩ : ∃ b1, b0 * m = b1 := ⟨_, rfl⟩
  obtain ⟨b2, hb2⟩ : ∃ b2, firstI b s = b2 := ⟨_, rfl⟩
  have hfi : b2 = b0 + ceilI b (8 * s) := by rw [← hb2, ← hb0]; rfl
  rw [hb0, hm, hb1, hb2] at h1
  rw [hb0, hm, hb1] at hA hC
  rw [hm] at hrel
  rw [hb0] at e0 e1
  rw [hm] at k0 k1
  unfold layV at h1
  have H1 := Lib.hid h1
  have HL := Lib.hid laidI_any
  have hsm : s = 64 * m := by omega
  have s0 : 256 ≤ s := by omega
  have s1 : s ≤ 1024 := by omega
  have us := tquo s 64 m (by omega) (by omega) (by omega) hm
  have b3 : 40 ≤ b := by omega
  have b4 : b ≤ 5039 := by omega
  have HM := Lib.hid (And.intro hm (And.intro hb1 hfi))
  clear h1 hb0 hb2 hl hf hm hfi
  obtain ⟨i1, hi1⟩ : ∃ i, a - 1 = i := ⟨_, rfl⟩
  obtain ⟨q1, hq1⟩ : ∃ q, i1 / m = q := ⟨_, rfl⟩
  obtain ⟨r1, hr1⟩ : ∃ r, i1 % m = r := ⟨_, rfl⟩
  have HA := Lib.hid fun w => at_yes b1 b0 b2 b s m a i1 q1 r1 w (by omega) (by omega) HM.out.1 (by omega) (by omega) (by omega) hi1 hq1 hr1
  have HN1 := Lib.hid (at_nums i1 m q1 r1 (by omega) (by omega) (by omega) (by omega) hq1 hr1)
  have g1 : decide (1 ≤ a) = true := by simp; omega
  have g2 : decide (a ≤ b1) = true := by simp; omega
  have ua : IntKind.i64.wrap a = a := wi64_id _ (by omega) (by omega)
  have ui : IntKind.i64.wrap i1 = i1 := wi64_id _ (by omega) (by omega)
  have uw : IntKind.u32.wrap i1 = i1 := by rw [IntKind.wrap_u32]; omega
  have g3 : decide (b0 ≤ q1) = false := by
    have := q_lt i1 m b0 b1 q1 HM.out.2.1 hq1 (by omega) (by omega)
    simp
    omega
  obtain ⟨i2, hi2⟩ : ∃ i, c - 1 = i := ⟨_, rfl⟩
  obtain ⟨q2, hq2⟩ : ∃ q, i2 / m = q := ⟨_, rfl⟩
  obtain ⟨r2, hr2⟩ : ∃ r, i2 % m = r := ⟨_, rfl⟩
  have HC := Lib.hid fun w => at_yes b1 b0 b2 b s m c i2 q2 r2 w (by omega) (by omega) HM.out.1 (by omega) (by omega) (by omega) hi2 hq2 hr2
  have g4 : (a != c) = true := by simp; omega
  have eq12 : q2 = q1 := by rw [hi1, hi2, hq1, hq2] at hrel; exact hrel.symm
  subst eq12
  have g6 : (r1 * 64 == r2 * 64) = false := by
    simp only [beq_eq_false_iff_ne]
    intro e
    have e2 : r1 = r2 := by omega
    have := place_inj i1 i2 m (by rw [hq1, hq2]) (by rw [hr1, hr2, e2])
    omega
  clear hq1 hr1 hi2 hq2 hr2 k0 k1 e2 e3 hsm hb1 hne hrel hA hC
  go_enter Try.func6, Try.ntmps6
  go_wp2_with fail
  obtain ⟨X0, hX0⟩ : ∃ x, x = w.alloc (.cells #[.int .i64 xb, .int .i64 xs, .int .u32 a, .int .u32 c] 57) := ⟨_, rfl⟩
  obtain ⟨p0, hp0⟩ : ∃ x, x = w.heap.size := ⟨_, rfl⟩
  have hh0 : X0.heap[p0]? = some (.cells #[.int .i64 xb, .int .i64 xs, .int .u32 a, .int .u32 c] 57 (0, 0)) := by rw [hX0, hp0]; exact heap_alloc_new _ _
  have HBX0 : Hid (Below w.heap.size w X0) := Lib.hid (by rw [hX0]; exact bel_alloc (Below.refl _ _) _)
  obtain ⟨y0, y1, y2, y3⟩ := caseP_box hh0
  rw [← hX0, ← hp0]
  clear hX0 hp0 hh0
  go_quiet (fail)
  obtain ⟨Y0, hY0⟩ : ∃ x, x = X0.drewN nq := ⟨_, rfl⟩
  have HBY0 : Hid (Below w.heap.size w Y0) := Lib.hid (by rw [hY0]; exact HBX0.out.trans ⟨rfl, rfl, rfl, Nat.le_refl _, fun _ _ => rfl⟩)
  rw [← hY0]
  clear hY0 y0 y1 y2 y3
  go_wp2_with fail
  ((with_reducible refine (H1.out _).mono ?_))
  rintro e w1 ⟨rfl, hb1⟩
  have HB1 := Lib.hid (bel_trans HBY0.out hb1)
  clear hb1
  obtain ⟨X1, hX1⟩ : ∃ x, x = w1.alloc (.cells #[.int .i64 b1, .int .i64 b0, .int .i64 b2, .int .i64 b, .int .i64 s] 49) := ⟨_, rfl⟩
  obtain ⟨p1, hp1⟩ : ∃ x, x = w1.heap.size := ⟨_, rfl⟩
  have HH1 : Hid (X1.heap[p1]? = some (.cells #[.int .i64 b1, .int .i64 b0, .int .i64 b2, .int .i64 b, .int .i64 s] 49 (0, 0))) := Lib.hid (by rw [hX1, hp1]; exact heap_alloc_new _ _)
  have HBX1 : Hid (Below w.heap.size w X1) := Lib.hid (by rw [hX1]; exact bel_alloc HB1.out _)
  go_wp2_with fail
  rw [← hX1, ← hp1]
  clear hX1 hp1
  ((with_reducible refine (HL.out _).mono ?_))
  rintro e w2 ⟨rfl, hb2⟩
  have HH2 := Lib.hid ((hb2.block p1 (Array.getElem?_eq_some_iff.1 HH1.out).1).trans HH1.out)
  have HB2 := Lib.hid (bel_trans HBX1.out hb2)
  clear hb2
  obtain ⟨z0, z1, z2, z3, z4⟩ := layV_box HH2.out
  go_wp2_with fail
  ((with_reducible refine (HA.out _).mono ?_))
  rintro e w3 ⟨rfl, hb3⟩
  have HH3 := Lib.hid ((hb3.block p1 (Array.getElem?_eq_some_iff.1 HH2.out).1).trans HH2.out)
  have HB3 := Lib.hid (bel_trans HB2.out hb3)
  obtain ⟨y0, y1, y2, y3, y4⟩ := layV_box HH3.out
  clear hb3 z0 z1 z2 z3 z4
  go_wp2_with fail
  ((with_reducible refine (HC.out _).mono ?_))
  rintro e w4 ⟨rfl, hb4⟩
  have HH4 := Lib.hid ((hb4.block p1 (Array.getElem?_eq_some_iff.1 HH3.out).1).trans HH3.out)
  have HB4 := Lib.hid (bel_trans HB3.out hb4)
  obtain ⟨z0, z1, z2, z3, z4⟩ := layV_box HH4.out
  clear hb4 y0 y1 y2 y3 y4
  obtain ⟨a1, a2, -, a4, a5, a6, a7, a8, a9, a10, a11⟩ := HN1.out
  go_upto_region 14 with fail
  clear a1 a2 a4 a5 a6 a7 a8 a9 a10 a11 g1 g2 g3 ua ui uw hi1
  obtain ⟨x, hx⟩ : ∃ x, a % b = x := ⟨_, rfl⟩
  obtain ⟨z, hz⟩ : ∃ z, c % b = z := ⟨_, rfl⟩
  have x0 := rem_bd a b x (by omega) hx
  have z0' := rem_bd c b z (by omega) hz
  have v1 := trem a b x ha0 hx
  have v2' := trem c b z hc0 hz
  have ub : IntKind.u32.wrap b = b := by rw [IntKind.wrap_u32]; omega
  have ux : IntKind.u32.wrap x = x := by rw [IntKind.wrap_u32]; omega
  have uz : IntKind.u32.wrap z = z := by rw [IntKind.wrap_u32]; omega
  have nb : b ≠ 0 := by omega
  have x1 : 0 ≤ x := x0.1
  have x2 : x ≤ 5039 := by omega
  have x3 : 0 ≤ z := z0'.1
  have x4 : z ≤ 5039 := by omega
  obtain ⟨i5, hbi5⟩ : ∃ i, x / 8 = i := ⟨_, rfl⟩
  obtain ⟨q5, hbq5⟩ : ∃ q, i5 / s = q := ⟨_, rfl⟩
  obtain ⟨r5, hbr5⟩ : ∃ r, i5 % s = r := ⟨_, rfl⟩
  obtain ⟨d5, hbd5⟩ : ∃ d, x % 8 = d := ⟨_, rfl⟩
  have HBC5 := Lib.hid fun w => bit_any b1 b0 b2 b s x i5 q5 r5 d5 w (by omega) (by omega) (by omega) (by omega) (by omega) (by omega) hbi5 hbq5 hbr5 hbd5
  have HBF5 := Lib.hid (bit_forms x b s i5 q5 r5 d5 b2 b0 (by omega) (by omega) (by omega) (by omega) (by omega) hbi5 hbq5 hbr5 hbd5 (by omega) (by omega) HM.out.2.2)
  obtain ⟨i6, hbi6⟩ : ∃ i, z / 8 = i := ⟨_, rfl⟩
  obtain ⟨q6, hbq6⟩ : ∃ q, i6 / s = q := ⟨_, rfl⟩
  obtain ⟨r6, hbr6⟩ : ∃ r, i6 % s = r := ⟨_, rfl⟩
  obtain ⟨d6, hbd6⟩ : ∃ d, z % 8 = d := ⟨_, rfl⟩
  have HBC6 := Lib.hid fun w => bit_any b1 b0 b2 b s z i6 q6 r6 d6 w (by omega) (by omega) (by omega) (by omega) (by omega) (by omega) hbi6 hbq6 hbr6 hbd6
  have HBF6 := Lib.hid (bit_forms z b s i6 q6 r6 d6 b2 b0 (by omega) (by omega) (by omega) (by omega) (by omega) hbi6 hbq6 hbr6 hbd6 (by omega) (by omega) HM.out.2.2)
  have HINJ : Hid (x = z ∨ (x ≠ z ∧ q5 ≠ q6) ∨ (x ≠ z ∧ q5 = q6 ∧ r5 ≠ r6) ∨ (x ≠ z ∧ q5 = q6 ∧ r5 = r6 ∧ d5 ≠ d6)) := Lib.hid (by
    by_cases cx : x = z
    · exact .inl cx
    by_cases cq : q5 = q6
    · by_cases cr : r5 = r6
      · refine .inr (.inr (.inr ⟨cx, cq, cr, fun cd => cx (bit_inj x z s ?_ ?_ ?_)⟩))
        · rw [hbi5, hbi6, hbq5, hbq6, cq]
        · rw [hbi5, hbi6, hbr5, hbr6, cr]
        · rw [hbd5, hbd6, cd]
      · exact .inr (.inr (.inl ⟨cx, cq, cr⟩))
    · exact .inr (.inl ⟨cx, cq⟩))
  have HD := Lib.hid (And.intro hbi5 hbd5)
  clear hbi5 hbq5 hbr5 hbd5 hbi6 hbq6 hbr6 hbd6 x0 z0'
  go_quiet (fail)
  obtain ⟨Y4, hY4⟩ : ∃ x, x = w4.drewN nq := ⟨_, rfl⟩
  have hq4 : Below w4.heap.size w4 Y4 := by rw [hY4]; exact ⟨rfl, rfl, rfl, Nat.le_refl _, fun _ _ => rfl⟩
  have HH5 := Lib.hid ((hq4.block p1 (Array.getElem?_eq_some_iff.1 HH4.out).1).trans HH4.out)
  have HB5 := Lib.hid (bel_trans HB4.out hq4)
  rw [← hY4]
  clear hY4 hq4 z0 z1 z2 z3 z4 hx hz v1 v2' ub ux uz nb
  obtain ⟨z0, z1, z2, z3, z4⟩ := layV_box HH5.out
  go_wp2_with fail
  ((with_reducible refine (HBC5.out _).mono ?_))
  rintro e w6 ⟨rfl, hb6⟩
  have HH6 := Lib.hid ((hb6.block p1 (Array.getElem?_eq_some_iff.1 HH5.out).1).trans HH5.out)
  have HB6 := Lib.hid (bel_trans HB5.out hb6)
  obtain ⟨y0, y1, y2, y3, y4⟩ := layV_box HH6.out
  clear hb6 z0 z1 z2 z3 z4
  go_wp2_with fail
  ((with_reducible refine (HBC6.out _).mono ?_))
  rintro e w7 ⟨rfl, hb7⟩
  have HH7 := Lib.hid ((hb7.block p1 (Array.getElem?_eq_some_iff.1 HH6.out).1).trans HH6.out)
  have HB7 := Lib.hid (bel_trans HB6.out hb7)
  obtain ⟨z0, z1, z2, z3, z4⟩ := layV_box HH7.out
  clear hb7 y0 y1 y2 y3 y4
  obtain ⟨hi5, hd5⟩ := HD.out
  obtain ⟨f1, f2, f3, f4, f5, f6, f7, f8, f9, f10, f11, f12, f13, f14, f15, f16, f17, f18⟩ := HBF5.out
  rcases HINJ.out with e | ⟨e, eq⟩ | ⟨e, eq, er⟩ | ⟨e, eq, er, ed⟩
  · have j1 : (x == z) = true := by simpa using e
    clear e
    go_upto_region 17 with fail
    go_quiet (fail)
    all_goals
      go_wp2_with fail
      go_ret
      exact ⟨rfl, HB7.out.trans ⟨rfl, rfl, rfl, Nat.le_refl _, fun _ _ => rfl⟩⟩
  · have j1 : (x == z) = false := by simpa using e
    have j2 : (b0 + q5 != b0 + q6) = true := by simp; omega
    clear e eq
    go_upto_region 17 with fail
    go_quiet (fail)
    all_goals
      go_wp2_with fail
      go_ret
      exact ⟨rfl, HB7.out.trans ⟨rfl, rfl, rfl, Nat.le_refl _, fun _ _ => rfl⟩⟩
  · have j1 : (x == z) = false := by simpa using e
    have j2 : (b0 + q5 != b0 + q6) = false := by simp; omega
    have j3 : (r5 != r6) = true := by simpa using er
    clear e eq er
    go_upto_region 17 with fail
    go_quiet (fail)
    all_goals
      go_wp2_with fail
      go_ret
      exact ⟨rfl, HB7.out.trans ⟨rfl, rfl, rfl, Nat.le_refl _, fun _ _ => rfl⟩⟩
  · have j1 : (x == z) = false := by simpa using e
    have j2 : (b0 + q5 != b0 + q6) = false := by simp; omega
    have j3 : (r5 != r6) = false := by simpa using er
    have j4 : (d5 != d6) = true := by simpa using ed
    clear e eq er ed
    go_upto_region 17 with fail
    go_quiet (fail)
    all_goals
      go_wp2_with fail
      go_ret
      exact ⟨rfl, HB7.out.trans ⟨rfl, rfl, rfl, Nat.le_refl _, fun _ _ => rfl⟩⟩
set_option maxRecDepth 100000 in
set_option maxHeartbeats 4000000 in
theorem places_3 (xb xs a c : Int) (w : World) (v y s v2 y2 b : Int) (hv : IntKind.u64.wrap xs = v) (hy : v % 13 = y) (hs : 256 + 64 * y = s) (hv2 : IntKind.u64.wrap xb = v2) (hy2 : v2 % 5000 = y2) (hb : 40 + y2 = b) (hf : firstI b s + 8 ≤ b) (ha0 : 0 ≤ a) (ha1 : a ≤ 4294967295) (hc0 : 0 ≤ c) (hc1 : c ≤ 4294967295) (hA : 1 ≤ a ∧ a ≤ bitsI b s * (s / 64)) (hC : c < 1 ∨ bitsI b s * (s / 64) < c) :
    Calls Try.prog 6 #[.agg #[.int .i64 xb, .int .i64 xs, .int .u32 a, .int .u32 c]] w fun e w' => e = .returned (.bool true) ∧ Below w.heap.size w w' := by
  obtain ⟨y0, y1, hv0, hv1, c1⟩ := sizeI_of xs v y hv hy
  obtain ⟨y3, y4, hv3, hv4, c2⟩ := blocksI_of xb v2 y2 hv2 hy2
  have hl : LayIn b s := by unfold LayIn; omega
  have h1 := fun w => lay_any b s w hl
  rw [if_pos hf] at h1
  obtain ⟨k0, k1, -, -, e0, e1, e2, e3⟩ := lay_nums b s hl
  obtain ⟨b0, hb0⟩ : ∃ b0, bitsI b s = b0 := ⟨_, rfl⟩
  obtain ⟨m, hm⟩ : ∃ m, s / 64 = m := ⟨_, rfl⟩
  obtain ⟨b1, hb1⟩ : ∃ b1, b0 * m = b1 := ⟨_, rfl⟩
  obtain ⟨b2, hb2⟩ : ∃ b2, firstI b s = b2 := ⟨_, rfl⟩
  have hfi : b2 = b0 + ceilI b (8 * s) := by rw [← hb2, ← hb0]; rfl
  rw [hb0, hm, hb1, hb2] at h1
  rw [hb0, hm, hb1] at hA hC
  rw [hb0] at e0 e1
  rw [hm] at k0 k1
  unfold layV at h1
  have H1 := Lib.hid h1
  have HL := Lib.hid laidI_any
  have hsm : s = 64 * m := by omega
  have s0 : 256 ≤ s := by omega
  have s1 : s ≤ 1024 := by omega
  have us := tquo s 64 m (by omega) (by omega) (by omega) hm
  have b3 : 40 ≤ b := by omega
  have b4 : b ≤ 5039 := by omega
  have HM := Lib.hid (And.intro hm (And.intro hb1 hfi))
  clear h1 hb0 hb2 hl hf hm hfi
  obtain ⟨i1, hi1⟩ : ∃ i, a - 1 = i := ⟨_, rfl⟩
  obtain ⟨q1, hq1⟩ : ∃ q, i1 / m = q := ⟨_, rfl⟩
  obtain ⟨r1, hr1⟩ : ∃ r, i1 % m = r := ⟨_, rfl⟩
  have HA := Lib.hid fun w => at_yes b1 b0 b2 b s m a i1 q1 r1 w (by omega) (by omega) HM.out.1 (by omega) (by omega) (by omega) hi1 hq1 hr1
  have HN1 := Lib.hid (at_nums i1 m q1 r1 (by omega) (by omega) (by omega) (by omega) hq1 hr1)
  have g1 : decide (1 ≤ a) = true := by simp; omega
  have g2 : decide (a ≤ b1) = true := by simp; omega
  have ua : IntKind.i64.wrap a = a := wi64_id _ (by omega) (by omega)
  have ui : IntKind.i64.wrap i1 = i1 := wi64_id _ (by omega) (by omega)
  have uw : IntKind.u32.wrap i1 = i1 := by rw [IntKind.wrap_u32]; omega
  have g3 : decide (b0 ≤ q1) = false := by
    have := q_lt i1 m b0 b1 q1 HM.out.2.1 hq1 (by omega) (by omega)
    simp
    omega
  have HC := Lib.hid fun w => at_no b1 b0 b2 b s m c w (by omega) (by omega) HM.out.1 (by omega) (by omega) (by omega)
  clear hq1 hr1 k0 k1 e2 e3 hsm hb1 hA hC
  go_enter Try.func6, Try.ntmps6
  go_wp2_with fail
  obtain ⟨X0, hX0⟩ : ∃ x, x = w.alloc (.cells #[.int .i64 xb, .int .i64 xs, .int .u32 a, .int .u32 c] 57) := ⟨_, rfl⟩
  obtain ⟨p0, hp0⟩ : ∃ x, x = w.heap.size := ⟨_, rfl⟩
  have hh0 : X0.heap[p0]? = some (.cells #[.int .i64 xb, .int .i64 xs, .int .u32 a, .int .u32 c] 57 (0, 0)) := by rw [hX0, hp0]; exact heap_alloc_new _ _
  have HBX0 : Hid (Below w.heap.size w X0) := Lib.hid (by rw [hX0]; exact bel_alloc (Below.refl _ _) _)
  obtain ⟨y0, y1, y2, y3⟩ := caseP_box hh0
  rw [← hX0, ← hp0]
  clear hX0 hp0 hh0
  go_quiet (fail)
  obtain ⟨Y0, hY0⟩ : ∃ x, x = X0.drewN nq := ⟨_, rfl⟩
  have HBY0 : Hid (Below w.heap.size w Y0) := Lib.hid (by rw [hY0]; exact HBX0.out.trans ⟨rfl, rfl, rfl, Nat.le_refl _, fun _ _ => rfl⟩)
  rw [← hY0]
  clear hY0 y0 y1 y2 y3
  go_wp2_with fail
  ((with_reducible refine (H1.out _).mono ?_))
  rintro e w1 ⟨rfl, hb1⟩
  have HB1 := Lib.hid (bel_trans HBY0.out hb1)
  clear hb1
  obtain ⟨X1, hX1⟩ : ∃ x, x = w1.alloc (.cells #[.int .i64 b1, .int .i64 b0, .int .i64 b2, .int .i64 b, .int .i64 s] 49) := ⟨_, rfl⟩
  obtain ⟨p1, hp1⟩ : ∃ x, x = w1.heap.size := ⟨_, rfl⟩
  have HH1 : Hid (X1.heap[p1]? = some (.cells #[.int .i64 b1, .int .i64 b0, .int .i64 b2, .int .i64 b, .int .i64 s] 49 (0, 0))) := Lib.hid (by rw [hX1, hp1]; exact heap_alloc_new _ _)
  have HBX1 : Hid (Below w.heap.size w X1) := Lib.hid (by rw [hX1]; exact bel_alloc HB1.out _)
  go_wp2_with fail
  rw [← hX1, ← hp1]
  clear hX1 hp1
  ((with_reducible refine (HL.out _).mono ?_))
  rintro e w2 ⟨rfl, hb2⟩
  have HH2 := Lib.hid ((hb2.block p1 (Array.getElem?_eq_some_iff.1 HH1.out).1).trans HH1.out)
  have HB2 := Lib.hid (bel_trans HBX1.out hb2)
  clear hb2
  obtain ⟨z0, z1, z2, z3, z4⟩ := layV_box HH2.out
  go_wp2_with fail
  ((with_reducible refine (HA.out _).mono ?_))
  rintro e w3 ⟨rfl, hb3⟩
  have HH3 := Lib.hid ((hb3.block p1 (Array.getElem?_eq_some_iff.1 HH2.out).1).trans HH2.out)
  have HB3 := Lib.hid (bel_trans HB2.out hb3)
  obtain ⟨y0, y1, y2, y3, y4⟩ := layV_box HH3.out
  clear hb3 z0 z1 z2 z3 z4
  go_wp2_with fail
  ((with_reducible refine (HC.out _).mono ?_))
  rintro e w4 ⟨rfl, hb4⟩
  have HH4 := Lib.hid ((hb4.block p1 (Array.getElem?_eq_some_iff.1 HH3.out).1).trans HH3.out)
  have HB4 := Lib.hid (bel_trans HB3.out hb4)
  obtain ⟨z0, z1, z2, z3, z4⟩ := layV_box HH4.out
  clear hb4 y0 y1 y2 y3 y4
  obtain ⟨a1, a2, -, a4, a5, a6, a7, a8, a9, a10, a11⟩ := HN1.out
  go_upto_region 14 with fail
  clear a1 a2 a4 a5 a6 a7 a8 a9 a10 a11 g1 g2 g3 ua ui uw hi1
  obtain ⟨x, hx⟩ : ∃ x, a % b = x := ⟨_, rfl⟩
  obtain ⟨z, hz⟩ : ∃ z, c % b = z := ⟨_, rfl⟩
  have x0 := rem_bd a b x (by omega) hx
  have z0' := rem_bd c b z (by omega) hz
  have v1 := trem a b x ha0 hx
  have v2' := trem c b z hc0 hz
  have ub : IntKind.u32.wrap b = b := by rw [IntKind.wrap_u32]; omega
  have ux : IntKind.u32.wrap x = x := by rw [IntKind.wrap_u32]; omega
  have uz : IntKind.u32.wrap z = z := by rw [IntKind.wrap_u32]; omega
  have nb : b ≠ 0 := by omega
  have x1 : 0 ≤ x := x0.1
  have x2 : x ≤ 5039 := by omega
  have x3 : 0 ≤ z := z0'.1
  have x4 : z ≤ 5039 := by omega
  obtain ⟨i5, hbi5⟩ : ∃ i, x / 8 = i := ⟨_, rfl⟩
  obtain ⟨q5, hbq5⟩ : ∃ q, i5 / s = q := ⟨_, rfl⟩
  obtain ⟨r5, hbr5⟩ : ∃ r, i5 % s = r := ⟨_, rfl⟩
  obtain ⟨d5, hbd5⟩ : ∃ d, x % 8 = d := ⟨_, rfl⟩
  have HBC5 := Lib.hid fun w => bit_any b1 b0 b2 b s x i5 q5 r5 d5 w (by omega) (by omega) (by omega) (by omega) (by omega) (by omega) hbi5 hbq5 hbr5 hbd5
  have HBF5 := Lib.hid (bit_forms x b s i5 q5 r5 d5 b2 b0 (by omega) (by omega) (by omega) (by omega) (by omega) hbi5 hbq5 hbr5 hbd5 (by omega) (by omega) HM.out.2.2)
  obtain ⟨i6, hbi6⟩ : ∃ i, z / 8 = i := ⟨_, rfl⟩
  obtain ⟨q6, hbq6⟩ : ∃ q, i6 / s = q := ⟨_, rfl⟩
  obtain ⟨r6, hbr6⟩ : ∃ r, i6 % s = r := ⟨_, rfl⟩
  obtain ⟨d6, hbd6⟩ : ∃ d, z % 8 = d := ⟨_, rfl⟩
  have HBC6 := Lib.hid fun w => bit_any b1 b0 b2 b s z i6 q6 r6 d6 w (by omega) (by omega) (by omega) (by omega) (by omega) (by omega) hbi6 hbq6 hbr6 hbd6
  have HBF6 := Lib.hid (bit_forms z b s i6 q6 r6 d6 b2 b0 (by omega) (by omega) (by omega) (by omega) (by omega) hbi6 hbq6 hbr6 hbd6 (by omega) (by omega) HM.out.2.2)
  have HINJ : Hid (x = z ∨ (x ≠ z ∧ q5 ≠ q6) ∨ (x ≠ z ∧ q5 = q6 ∧ r5 ≠ r6) ∨ (x ≠ z ∧ q5 = q6 ∧ r5 = r6 ∧ d5 ≠ d6)) := Lib.hid (by
    by_cases cx : x = z
    · exact .inl cx
    by_cases cq : q5 = q6
    · by_cases cr : r5 = r6
      · refine .inr (.inr (.inr ⟨cx, cq, cr, fun cd => cx (bit_inj x z s ?_ ?_ ?_)⟩))
        · rw [hbi5, hbi6, hbq5, hbq6, cq]
        · rw [hbi5, hbi6, hbr5, hbr6, cr]
        · rw [hbd5, hbd6, cd]
      · exact .inr (.inr (.inl ⟨cx, cq, cr⟩))
    · exact .inr (.inl ⟨cx, cq⟩))
  have HD := Lib.hid (And.intro hbi5 hbd5)
  clear hbi5 hbq5 hbr5 hbd5 hbi6 hbq6 hbr6 hbd6 x0 z0'
  go_quiet (fail)
  obtain ⟨Y4, hY4⟩ : ∃ x, x = w4.drewN nq := ⟨_, rfl⟩
  have hq4 : Below w4.heap.size w4 Y4 := by rw [hY4]; exact ⟨rfl, rfl, rfl, Nat.le_refl _, fun _ _ => rfl⟩
  have HH5 := Lib.hid ((hq4.block p1 (Array.getElem?_eq_some_iff.1 HH4.out).1).trans HH4.out)
  have HB5 := Lib.hid (bel_trans HB4.out hq4)
  rw [← hY4]
  clear hY4 hq4 z0 z1 z2 z3 z4 hx hz v1 v2' ub ux uz nb
  obtain ⟨z0, z1, z2, z3, z4⟩ := layV_box HH5.out
  go_wp2_with fail
  ((with_reducible refine (HBC5.out _).mono ?_))
  rintro e w6 ⟨rfl, hb6⟩
  have HH6 := Lib.hid ((hb6.block p1 (Array.getElem?_eq_some_iff.1 HH5.out).1).trans HH5.out)
  have HB6 := Lib.hid (bel_trans HB5.out hb6)
  obtain ⟨y0, y1, y2, y3, y4⟩ := layV_box HH6.out
  clear hb6 z0 z1 z2 z3 z4
  go_wp2_with fail
  ((with_reducible refine (HBC6.out _).mono ?_))
  rintro e w7 ⟨rfl, hb7⟩
  have HH7 := Lib.hid ((hb7.block p1 (Array.getElem?_eq_some_iff.1 HH6.out).1).trans HH6.out)
  have HB7 := Lib.hid (bel_trans HB6.out hb7)
  obtain ⟨z0, z1, z2, z3, z4⟩ := layV_box HH7.out
  clear hb7 y0 y1 y2 y3 y4
  obtain ⟨hi5, hd5⟩ := HD.out
  obtain ⟨f1, f2, f3, f4, f5, f6, f7, f8, f9, f10, f11, f12, f13, f14, f15, f16, f17, f18⟩ := HBF5.out
  rcases HINJ.out with e | ⟨e, eq⟩ | ⟨e, eq, er⟩ | ⟨e, eq, er, ed⟩
  · have j1 : (x == z) = true := by simpa using e
    clear e
    go_upto_region 17 with fail
    go_quiet (fail)
    all_goals
      go_wp2_with fail
      go_ret
      exact ⟨rfl, HB7.out.trans ⟨rfl, rfl, rfl, Nat.le_refl _, fun _ _ => rfl⟩⟩
  · have j1 : (x == z) = false := by simpa using e
    have j2 : (b0 + q5 != b0 + q6) = true := by simp; omega
    clear e eq
    go_upto_region 17 with fail
    go_quiet (fail)
    all_goals
      go_wp2_with fail
      go_ret
      exact ⟨rfl, HB7.out.trans ⟨rfl, rfl, rfl, Nat.le_refl _, fun _ _ => rfl⟩⟩
  · have j1 : (x == z) = false := by simpa using e
    have j2 : (b0 + q5 != b0 + q6) = false := by simp; omega
    have j3 : (r5 != r6) = true := by simpa using er
    clear e eq er
    go_upto_region 17 with fail
    go_quiet (fail)
    all_goals
      go_wp2_with fail
      go_ret
      exact ⟨rfl, HB7.out.trans ⟨rfl, rfl, rfl, Nat.le_refl _, fun _ _ => rfl⟩⟩
  · have j1 : (x == z) = false := by simpa using e
    have j2 : (b0 + q5 != b0 + q6) = false := by simp; omega
    have j3 : (r5 != r6) = false := by simpa using er
    have j4 : (d5 != d6) = true := by simpa using ed
    clear e eq er ed
    go_upto_region 17 with fail
    go_quiet (fail)
    all_goals
      go_wp2_with fail
      go_ret
      exact ⟨rfl, HB7.out.trans ⟨rfl, rfl, rfl, Nat.le_refl _, fun _ _ => rfl⟩⟩
set_option maxRecDepth 100000 in
set_option maxHeartbeats 4000000 in
theorem places_4 (xb xs a c : Int) (w : World) (v y s v2 y2 b : Int) (hv : IntKind.u64.wrap xs = v) (hy : v % 13 = y) (hs : 256 + 64 * y = s) (hv2 : IntKind.u64.wrap xb = v2) (hy2 : v2 % 5000 = y2) (hb : 40 + y2 = b) (hf : firstI b s + 8 ≤ b) (ha0 : 0 ≤ a) (ha1 : a ≤ 4294967295) (hc0 : 0 ≤ c) (hc1 : c ≤ 4294967295) (hA : a < 1) (hC : 1 ≤ c ∧ c ≤ bitsI b s * (s / 64)) :
    Calls Try.prog 6 #[.agg #[.int .i64 xb, .int .i64 xs, .int .u32 a, .int .u32 c]] w fun e w' => e = .returned (.bool true) ∧ Below w.heap.size w w' := by
  obtain ⟨y0, y1, hv0, hv1, c1⟩ := sizeI_of xs v y hv hy
  obtain ⟨y3, y4, hv3, hv4, c2⟩ := blocksI_of xb v2 y2 hv2 hy2
  have hl : LayIn b s := by unfold LayIn; omega
  have h1 := fun w => lay_any b s w hl
  rw [if_pos hf] at h1
  obtain ⟨k0, k1, -, -, e0, e1, e2, e3⟩ := lay_nums b s hl
  obtain ⟨b0, hb0⟩ : ∃ b0, bitsI b s = b0 := ⟨_, rfl⟩
  obtain ⟨m, hm⟩ : ∃ m, s / 64 = m := ⟨_, rfl⟩
  obtain ⟨b1, hb1⟩ : ∃ b1, b0 * m = b1 := ⟨_, rfl⟩
  obtain ⟨b2, hb2⟩ : ∃ b2, firstI b s = b2 := ⟨_, rfl⟩
  have hfi : b2 = b0 + ceilI b (8 * s) := by rw [← hb2, ← hb0]; rfl
  rw [hb0, hm, hb1, hb2] at h1
  rw [hb0, hm, hb1] at hC
  rw [hb0] at e0 e1
  rw [hm] at k0 k1
  unfold layV at h1
  have H1 := Lib.hid h1
  have HL := Lib.hid laidI_any
  have hsm : s = 64 * m := by omega
  have s0 : 256 ≤ s := by omega
  have s1 : s ≤ 1024 := by omega
  have us := tquo s 64 m (by omega) (by omega) (by omega) hm
  have b3 : 40 ≤ b := by omega
  have b4 : b ≤ 5039 := by omega
  have HM := Lib.hid (And.intro hm (And.intro hb1 hfi))
  clear h1 hb0 hb2 hl hf hm hfi
  have HA := Lib.hid fun w => at_no b1 b0 b2 b s m a w (by omega) (by omega) HM.out.1 (by omega) (by omega) (.inl (by omega))
  have ua : IntKind.i64.wrap a = a := wi64_id _ (by omega) (by omega)
  have g1 : decide (1 ≤ a) = false := by simp; omega
  obtain ⟨i2, hi2⟩ : ∃ i, c - 1 = i := ⟨_, rfl⟩
  obtain ⟨q2, hq2⟩ : ∃ q, i2 / m = q := ⟨_, rfl⟩
  obtain ⟨r2, hr2⟩ : ∃ r, i2 % m = r := ⟨_, rfl⟩
  have HC := Lib.hid fun w => at_yes b1 b0 b2 b s m c i2 q2 r2 w (by omega) (by omega) HM.out.1 (by omega) (by omega) (by omega) hi2 hq2 hr2
  clear hi2 hq2 hr2 k0 k1 e2 e3 hsm hb1 hA hC
  go_enter Try.func6, Try.ntmps6
  go_wp2_with fail
  obtain ⟨X0, hX0⟩ : ∃ x, x = w.alloc (.cells #[.int .i64 xb, .int .i64 xs, .int .u32 a, .int .u32 c] 57) := ⟨_, rfl⟩
  obtain ⟨p0, hp0⟩ : ∃ x, x = w.heap.size := ⟨_, rfl⟩
  have hh0 : X0.heap[p0]? = some (.cells #[.int .i64 xb, .int .i64 xs, .int .u32 a, .int .u32 c] 57 (0, 0)) := by rw [hX0, hp0]; exact heap_alloc_new _ _
  have HBX0 : Hid (Below w.heap.size w X0) := Lib.hid (by rw [hX0]; exact bel_alloc (Below.refl _ _) _)
  obtain ⟨y0, y1, y2, y3⟩ := caseP_box hh0
  rw [← hX0, ← hp0]
  clear hX0 hp0 hh0
  go_quiet (fail)
  obtain ⟨Y0, hY0⟩ : ∃ x, x = X0.drewN nq := ⟨_, rfl⟩
  have HBY0 : Hid (Below w.heap.size w Y0) := Lib.hid (by rw [hY0]; exact HBX0.out.trans ⟨rfl, rfl, rfl, Nat.le_refl _, fun _ _ => rfl⟩)
  rw [← hY0]
  clear hY0 y0 y1 y2 y3
  go_wp2_with fail
  ((with_reducible refine (H1.out _).mono ?_))
  rintro e w1 ⟨rfl, hb1⟩
  have HB1 := Lib.hid (bel_trans HBY0.out hb1)
  clear hb1
  obtain ⟨X1, hX1⟩ : ∃ x, x = w1.alloc (.cells #[.int .i64 b1, .int .i64 b0, .int .i64 b2, .int .i64 b, .int .i64 s] 49) := ⟨_, rfl⟩
  obtain ⟨p1, hp1⟩ : ∃ x, x = w1.heap.size := ⟨_, rfl⟩
  have HH1 : Hid (X1.heap[p1]? = some (.cells #[.int .i64 b1, .int .i64 b0, .int .i64 b2, .int .i64 b, .int .i64 s] 49 (0, 0))) := Lib.hid (by rw [hX1, hp1]; exact heap_alloc_new _ _)
  have HBX1 : Hid (Below w.heap.size w X1) := Lib.hid (by rw [hX1]; exact bel_alloc HB1.out _)
  go_wp2_with fail
  rw [← hX1, ← hp1]
  clear hX1 hp1
  ((with_reducible refine (HL.out _).mono ?_))
  rintro e w2 ⟨rfl, hb2⟩
  have HH2 := Lib.hid ((hb2.block p1 (Array.getElem?_eq_some_iff.1 HH1.out).1).trans HH1.out)
  have HB2 := Lib.hid (bel_trans HBX1.out hb2)
  clear hb2
  obtain ⟨z0, z1, z2, z3, z4⟩ := layV_box HH2.out
  go_wp2_with fail
  ((with_reducible refine (HA.out _).mono ?_))
  rintro e w3 ⟨rfl, hb3⟩
  have HH3 := Lib.hid ((hb3.block p1 (Array.getElem?_eq_some_iff.1 HH2.out).1).trans HH2.out)
  have HB3 := Lib.hid (bel_trans HB2.out hb3)
  obtain ⟨y0, y1, y2, y3, y4⟩ := layV_box HH3.out
  clear hb3 z0 z1 z2 z3 z4
  go_wp2_with fail
  ((with_reducible refine (HC.out _).mono ?_))
  rintro e w4 ⟨rfl, hb4⟩
  have HH4 := Lib.hid ((hb4.block p1 (Array.getElem?_eq_some_iff.1 HH3.out).1).trans HH3.out)
  have HB4 := Lib.hid (bel_trans HB3.out hb4)
  obtain ⟨z0, z1, z2, z3, z4⟩ := layV_box HH4.out
  clear hb4 y0 y1 y2 y3 y4
  go_upto_region 14 with fail
  obtain ⟨x, hx⟩ : ∃ x, a % b = x := ⟨_, rfl⟩
  obtain ⟨z, hz⟩ : ∃ z, c % b = z := ⟨_, rfl⟩
  have x0 := rem_bd a b x (by omega) hx
  have z0' := rem_bd c b z (by omega) hz
  have v1 := trem a b x ha0 hx
  have v2' := trem c b z hc0 hz
  have ub : IntKind.u32.wrap b = b := by rw [IntKind.wrap_u32]; omega
  have ux : IntKind.u32.wrap x = x := by rw [IntKind.wrap_u32]; omega
  have uz : IntKind.u32.wrap z = z := by rw [IntKind.wrap_u32]; omega
  have nb : b ≠ 0 := by omega
  have x1 : 0 ≤ x := x0.1
  have x2 : x ≤ 5039 := by omega
  have x3 : 0 ≤ z := z0'.1
  have x4 : z ≤ 5039 := by omega
  obtain ⟨i5, hbi5⟩ : ∃ i, x / 8 = i := ⟨_, rfl⟩
  obtain ⟨q5, hbq5⟩ : ∃ q, i5 / s = q := ⟨_, rfl⟩
  obtain ⟨r5, hbr5⟩ : ∃ r, i5 % s = r := ⟨_, rfl⟩
  obtain ⟨d5, hbd5⟩ : ∃ d, x % 8 = d := ⟨_, rfl⟩
  have HBC5 := Lib.hid fun w => bit_any b1 b0 b2 b s x i5 q5 r5 d5 w (by omega) (by omega) (by omega) (by omega) (by omega) (by omega) hbi5 hbq5 hbr5 hbd5
  have HBF5 := Lib.hid (bit_forms x b s i5 q5 r5 d5 b2 b0 (by omega) (by omega) (by omega) (by omega) (by omega) hbi5 hbq5 hbr5 hbd5 (by omega) (by omega) HM.out.2.2)
  obtain ⟨i6, hbi6⟩ : ∃ i, z / 8 = i := ⟨_, rfl⟩
  obtain ⟨q6, hbq6⟩ : ∃ q, i6 / s = q := ⟨_, rfl⟩
  obtain ⟨r6, hbr6⟩ : ∃ r, i6 % s = r := ⟨_, rfl⟩
  obtain ⟨d6, hbd6⟩ : ∃ d, z % 8 = d := ⟨_, rfl⟩
  have HBC6 := Lib.hid fun w => bit_any b1 b0 b2 b s z i6 q6 r6 d6 w (by omega) (by omega) (by omega) (by omega) (by omega) (by omega) hbi6 hbq6 hbr6 hbd6
  have HBF6 := Lib.hid (bit_forms z b s i6 q6 r6 d6 b2 b0 (by omega) (by omega) (by omega) (by omega) (by omega) hbi6 hbq6 hbr6 hbd6 (by omega) (by omega) HM.out.2.2)
  have HINJ : Hid (x = z ∨ (x ≠ z ∧ q5 ≠ q6) ∨ (x ≠ z ∧ q5 = q6 ∧ r5 ≠ r6) ∨ (x ≠ z ∧ q5 = q6 ∧ r5 = r6 ∧ d5 ≠ d6)) := Lib.hid (by
    by_cases cx : x = z
    · exact .inl cx
    by_cases cq : q5 = q6
    · by_cases cr : r5 = r6
      · refine .inr (.inr (.inr ⟨cx, cq, cr, fun cd => cx (bit_inj x z s ?_ ?_ ?_)⟩))
        · rw [hbi5, hbi6, hbq5, hbq6, cq]
        · rw [hbi5, hbi6, hbr5, hbr6, cr]
        · rw [hbd5, hbd6, cd]
      · exact .inr (.inr (.inl ⟨cx, cq, cr⟩))
    · exact .inr (.inl ⟨cx, cq⟩))
  have HD := Lib.hid (And.intro hbi5 hbd5)
  clear hbi5 hbq5 hbr5 hbd5 hbi6 hbq6 hbr6 hbd6 x0 z0'
  go_quiet (fail)
  obtain ⟨Y4, hY4⟩ : ∃ x, x = w4.drewN nq := ⟨_, rfl⟩
  have hq4 : Below w4.heap.size w4 Y4 := by rw [hY4]; exact ⟨rfl, rfl, rfl, Nat.le_refl _, fun _ _ => rfl⟩
  have HH5 := Lib.hid ((hq4.block p1 (Array.getElem?_eq_some_iff.1 HH4.out).1).trans HH4.out)
  have HB5 := Lib.hid (bel_trans HB4.out hq4)
  rw [← hY4]
  clear hY4 hq4 z0 z1 z2 z3 z4 hx hz v1 v2' ub ux uz nb
  obtain ⟨z0, z1, z2, z3, z4⟩ := layV_box HH5.out
  go_wp2_with fail
  ((with_reducible refine (HBC5.out _).mono ?_))
  rintro e w6 ⟨rfl, hb6⟩
  have HH6 := Lib.hid ((hb6.block p1 (Array.getElem?_eq_some_iff.1 HH5.out).1).trans HH5.out)
  have HB6 := Lib.hid (bel_trans HB5.out hb6)
  obtain ⟨y0, y1, y2, y3, y4⟩ := layV_box HH6.out
  clear hb6 z0 z1 z2 z3 z4
  go_wp2_with fail
  ((with_reducible refine (HBC6.out _).mono ?_))
  rintro e w7 ⟨rfl, hb7⟩
  have HH7 := Lib.hid ((hb7.block p1 (Array.getElem?_eq_some_iff.1 HH6.out).1).trans HH6.out)
  have HB7 := Lib.hid (bel_trans HB6.out hb7)
  obtain ⟨z0, z1, z2, z3, z4⟩ := layV_box HH7.out
  clear hb7 y0 y1 y2 y3 y4
  obtain ⟨hi5, hd5⟩ := HD.out
  obtain ⟨f1, f2, f3, f4, f5, f6, f7, f8, f9, f10, f11, f12, f13, f14, f15, f16, f17, f18⟩ := HBF5.out
  rcases HINJ.out with e | ⟨e, eq⟩ | ⟨e, eq, er⟩ | ⟨e, eq, er, ed⟩
  · have j1 : (x == z) = true := by simpa using e
    clear e
    go_upto_region 17 with fail
    go_quiet (fail)
    all_goals
      go_wp2_with fail
      go_ret
      exact ⟨rfl, HB7.out.trans ⟨rfl, rfl, rfl, Nat.le_refl _, fun _ _ => rfl⟩⟩
  · have j1 : (x == z) = false := by simpa using e
    have j2 : (b0 + q5 != b0 + q6) = true := by simp; omega
    clear e eq
    go_upto_region 17 with fail
    go_quiet (fail)
    all_goals
      go_wp2_with fail
      go_ret
      exact ⟨rfl, HB7.out.trans ⟨rfl, rfl, rfl, Nat.le_refl _, fun _ _ => rfl⟩⟩
  · have j1 : (x == z) = false := by simpa using e
    have j2 : (b0 + q5 != b0 + q6) = false := by simp; omega
    have j3 : (r5 != r6) = true := by simpa using er
    clear e eq er
    go_upto_region 17 with fail
    go_quiet (fail)
    all_goals
      go_wp2_with fail
      go_ret
      exact ⟨rfl, HB7.out.trans ⟨rfl, rfl, rfl, Nat.le_refl _, fun _ _ => rfl⟩⟩
  · have j1 : (x == z) = false := by simpa using e
    have j2 : (b0 + q5 != b0 + q6) = false := by simp; omega
    have j3 : (r5 != r6) = false := by simpa using er
    have j4 : (d5 != d6) = true := by simpa using ed
    clear e eq er ed
    go_upto_region 17 with fail
    go_quiet (fail)
    all_goals
      go_wp2_with fail
      go_ret
      exact ⟨rfl, HB7.out.trans ⟨rfl, rfl, rfl, Nat.le_refl _, fun _ _ => rfl⟩⟩
set_option maxRecDepth 100000 in
set_option maxHeartbeats 4000000 in
theorem places_5 (xb xs a c : Int) (w : World) (v y s v2 y2 b : Int) (hv : IntKind.u64.wrap xs = v) (hy : v % 13 = y) (hs : 256 + 64 * y = s) (hv2 : IntKind.u64.wrap xb = v2) (hy2 : v2 % 5000 = y2) (hb : 40 + y2 = b) (hf : firstI b s + 8 ≤ b) (ha0 : 0 ≤ a) (ha1 : a ≤ 4294967295) (hc0 : 0 ≤ c) (hc1 : c ≤ 4294967295) (hA : 1 ≤ a ∧ bitsI b s * (s / 64) < a) (hC : 1 ≤ c ∧ c ≤ bitsI b s * (s / 64)) :
    Calls Try.prog 6 #[.agg #[.int .i64 xb, .int .i64 xs, .int .u32 a, .int .u32 c]] w fun e w' => e = .returned (.bool true) ∧ Below w.heap.size w w' := by
  obtain ⟨y0, y1, hv0, hv1, c1⟩ := sizeI_of xs v y hv hy
  obtain ⟨y3, y4, hv3, hv4, c2⟩ := blocksI_of xb v2 y2 hv2 hy2
  have hl : LayIn b s := by unfold LayIn; omega
  have h1 := fun w => lay_any b s w hl
  rw [if_pos hf] at h1
  obtain ⟨k0, k1, -, -, e0, e1, e2, e3⟩ := lay_nums b s hl
  obtain ⟨b0, hb0⟩ : ∃ b0, bitsI b s = b0 := ⟨_, rfl⟩
  obtain ⟨m, hm⟩ : ∃ m, s / 64 = m := ⟨_, rfl⟩
  obtain ⟨b1, hb1⟩ : ∃ b1, b0 * m = b1 := ⟨_, rfl⟩
  obtain ⟨b2, hb2⟩ : ∃ b2, firstI b s = b2 := ⟨_, rfl⟩
  have hfi : b2 = b0 + ceilI b (8 * s) := by rw [← hb2, ← hb0]; rfl
  rw [hb0, hm, hb1, hb2] at h1
  rw [hb0, hm, hb1] at hA hC
  rw [hb0] at e0 e1
  rw [hm] at k0 k1
  unfold layV at h1
  have H1 := Lib.hid h1
  have HL := Lib.hid laidI_any
  have hsm : s = 64 * m := by omega
  have s0 : 256 ≤ s := by omega
  have s1 : s ≤ 1024 := by omega
  have us := tquo s 64 m (by omega) (by omega) (by omega) hm
  have b3 : 40 ≤ b := by omega
  have b4 : b ≤ 5039 := by omega
  have HM := Lib.hid (And.intro hm (And.intro hb1 hfi))
  clear h1 hb0 hb2 hl hf hm hfi
  have HA := Lib.hid fun w => at_no b1 b0 b2 b s m a w (by omega) (by omega) HM.out.1 (by omega) (by omega) (.inr (by omega))
  have ua : IntKind.i64.wrap a = a := wi64_id _ (by omega) (by omega)
  have g1 : decide (1 ≤ a) = true := by simp; omega
  have g2 : decide (a ≤ b1) = false := by simp; omega
  obtain ⟨i2, hi2⟩ : ∃ i, c - 1 = i := ⟨_, rfl⟩
  obtain ⟨q2, hq2⟩ : ∃ q, i2 / m = q := ⟨_, rfl⟩
  obtain ⟨r2, hr2⟩ : ∃ r, i2 % m = r := ⟨_, rfl⟩
  have HC := Lib.hid fun w => at_yes b1 b0 b2 b s m c i2 q2 r2 w (by omega) (by omega) HM.out.1 (by omega) (by omega) (by omega) hi2 hq2 hr2
  clear hi2 hq2 hr2 k0 k1 e2 e3 hsm hb1 hA hC
  go_enter Try.func6, Try.ntmps6
  go_wp2_with fail
  obtain ⟨X0, hX0⟩ : ∃ x, x = w.alloc (.cells #[.int .i64 xb, .int .i64 xs, .int .u32 a, .int .u32 c] 57) := ⟨_, rfl⟩
  obtain ⟨p0, hp0⟩ : ∃ x, x = w.heap.size := ⟨_, rfl⟩
  have hh0 : X0.heap[p0]? = some (.cells #[.int .i64 xb, .int .i64 xs, .int .u32 a, .int .u32 c] 57 (0, 0)) := by rw [hX0, hp0]; exact heap_alloc_new _ _
  have HBX0 : Hid (Below w.heap.size w X0) := Lib.hid (by rw [hX0]; exact bel_alloc (Below.refl _ _) _)
  obtain ⟨y0, y1, y2, y3⟩ := caseP_box hh0
  rw [← hX0, ← hp0]
  clear hX0 hp0 hh0
  go_quiet (fail)
  obtain ⟨Y0, hY0⟩ : ∃ x, x = X0.drewN nq := ⟨_, rfl⟩
  have HBY0 : Hid (Below w.heap.size w Y0) := Lib.hid (by rw [hY0]; exact HBX0.out.trans ⟨rfl, rfl, rfl, Nat.le_refl _, fun _ _ => rfl⟩)
  rw [← hY0]
  clear hY0 y0 y1 y2 y3
  go_wp2_with fail
  ((with_reducible refine (H1.out _).mono ?_))
  rintro e w1 ⟨rfl, hb1⟩
  have HB1 := Lib.hid (bel_trans HBY0.out hb1)
  clear hb1
  obtain ⟨X1, hX1⟩ : ∃ x, x = w1.alloc (.cells #[.int .i64 b1, .int .i64 b0, .int .i64 b2, .int .i64 b, .int .i64 s] 49) := ⟨_, rfl⟩
  obtain ⟨p1, hp1⟩ : ∃ x, x = w1.heap.size := ⟨_, rfl⟩
  have HH1 : Hid (X1.heap[p1]? = some (.cells #[.int .i64 b1, .int .i64 b0, .int .i64 b2, .int .i64 b, .int .i64 s] 49 (0, 0))) := Lib.hid (by rw [hX1, hp1]; exact heap_alloc_new _ _)
  have HBX1 : Hid (Below w.heap.size w X1) := Lib.hid (by rw [hX1]; exact bel_alloc HB1.out _)
  go_wp2_with fail
  rw [← hX1, ← hp1]
  clear hX1 hp1
  ((with_reducible refine (HL.out _).mono ?_))
  rintro e w2 ⟨rfl, hb2⟩
  have HH2 := Lib.hid ((hb2.block p1 (Array.getElem?_eq_some_iff.1 HH1.out).1).trans HH1.out)
  have HB2 := Lib.hid (bel_trans HBX1.out hb2)
  clear hb2
  obtain ⟨z0, z1, z2, z3, z4⟩ := layV_box HH2.out
  go_wp2_with fail
  ((with_reducible refine (HA.out _).mono ?_))
  rintro e w3 ⟨rfl, hb3⟩
  have HH3 := Lib.hid ((hb3.block p1 (Array.getElem?_eq_some_iff.1 HH2.out).1).trans HH2.out)
  have HB3 := Lib.hid (bel_trans HB2.out hb3)
  obtain ⟨y0, y1, y2, y3, y4⟩ := layV_box HH3.out
  clear hb3 z0 z1 z2 z3 z4
  go_wp2_with fail
  ((with_reducible refine (HC.out _).mono ?_))
  rintro e w4 ⟨rfl, hb4⟩
  have HH4 := Lib.hid ((hb4.block p1 (Array.getElem?_eq_some_iff.1 HH3.out).1).trans HH3.out)
  have HB4 := Lib.hid (bel_trans HB3.out hb4)
  obtain ⟨z0, z1, z2, z3, z4⟩ := layV_box HH4.out
  clear hb4 y0 y1 y2 y3 y4
  go_upto_region 14 with fail
  obtain ⟨x, hx⟩ : ∃ x, a % b = x := ⟨_, rfl⟩
  obtain ⟨z, hz⟩ : ∃ z, c % b = z := ⟨_, rfl⟩
  have x0 := rem_bd a b x (by omega) hx
  have z0' := rem_bd c b z (by omega) hz
  have v1 := trem a b x ha0 hx
  have v2' := trem c b z hc0 hz
  have ub : IntKind.u32.wrap b = b := by rw [IntKind.wrap_u32]; omega
  have ux : IntKind.u32.wrap x = x := by rw [IntKind.wrap_u32]; omega
  have uz : IntKind.u32.wrap z = z := by rw [IntKind.wrap_u32]; omega
  have nb : b ≠ 0 := by omega
  have x1 : 0 ≤ x := x0.1
  have x2 : x ≤ 5039 := by omega
  have x3 : 0 ≤ z := z0'.1
  have x4 : z ≤ 5039 := by omega
  obtain ⟨i5, hbi5⟩ : ∃ i, x / 8 = i := ⟨_, rfl⟩
  obtain ⟨q5, hbq5⟩ : ∃ q, i5 / s = q := ⟨_, rfl⟩
  obtain ⟨r5, hbr5⟩ : ∃ r, i5 % s = r := ⟨_, rfl⟩
  obtain ⟨d5, hbd5⟩ : ∃ d, x % 8 = d := ⟨_, rfl⟩
  have HBC5 := Lib.hid fun w => bit_any b1 b0 b2 b s x i5 q5 r5 d5 w (by omega) (by omega) (by omega) (by omega) (by omega) (by omega) hbi5 hbq5 hbr5 hbd5
  have HBF5 := Lib.hid (bit_forms x b s i5 q5 r5 d5 b2 b0 (by omega) (by omega) (by omega) (by omega) (by omega) hbi5 hbq5 hbr5 hbd5 (by omega) (by omega) HM.out.2.2)
  obtain ⟨i6, hbi6⟩ : ∃ i, z / 8 = i := ⟨_, rfl⟩
  obtain ⟨q6, hbq6⟩ : ∃ q, i6 / s = q := ⟨_, rfl⟩
  obtain ⟨r6, hbr6⟩ : ∃ r, i6 % s = r := ⟨_, rfl⟩
  obtain ⟨d6, hbd6⟩ : ∃ d, z % 8 = d := ⟨_, rfl⟩
  have HBC6 := Lib.hid fun w => bit_any b1 b0 b2 b s z i6 q6 r6 d6 w (by omega) (by omega) (by omega) (by omega) (by omega) (by omega) hbi6 hbq6 hbr6 hbd6
  have HBF6 := Lib.hid (bit_forms z b s i6 q6 r6 d6 b2 b0 (by omega) (by omega) (by omega) (by omega) (by omega) hbi6 hbq6 hbr6 hbd6 (by omega) (by omega) HM.out.2.2)
  have HINJ : Hid (x = z ∨ (x ≠ z ∧ q5 ≠ q6) ∨ (x ≠ z ∧ q5 = q6 ∧ r5 ≠ r6) ∨ (x ≠ z ∧ q5 = q6 ∧ r5 = r6 ∧ d5 ≠ d6)) := Lib.hid (by
    by_cases cx : x = z
    · exact .inl cx
    by_cases cq : q5 = q6
    · by_cases cr : r5 = r6
      · refine .inr (.inr (.inr ⟨cx, cq, cr, fun cd => cx (bit_inj x z s ?_ ?_ ?_)⟩))
        · rw [hbi5, hbi6, hbq5, hbq6, cq]
        · rw [hbi5, hbi6, hbr5, hbr6, cr]
        · rw [hbd5, hbd6, cd]
      · exact .inr (.inr (.inl ⟨cx, cq, cr⟩))
    · exact .inr (.inl ⟨cx, cq⟩))
  have HD := Lib.hid (And.intro hbi5 hbd5)
  clear hbi5 hbq5 hbr5 hbd5 hbi6 hbq6 hbr6 hbd6 x0 z0'
  go_quiet (fail)
  obtain ⟨Y4, hY4⟩ : ∃ x, x = w4.drewN nq := ⟨_, rfl⟩
  have hq4 : Below w4.heap.size w4 Y4 := by rw [hY4]; exact ⟨rfl, rfl, rfl, Nat.le_refl _, fun _ _ => rfl⟩
  have HH5 := Lib.hid ((hq4.block p1 (Array.getElem?_eq_some_iff.1 HH4.out).1).trans HH4.out)
  have HB5 := Lib.hid (bel_trans HB4.out hq4)
  rw [← hY4]
  clear hY4 hq4 z0 z1 z2 z3 z4 hx hz v1 v2' ub ux uz nb
  obtain ⟨z0, z1, z2, z3, z4⟩ := layV_box HH5.out
  go_wp2_with fail
  ((with_reducible refine (HBC5.out _).mono ?_))
  rintro e w6 ⟨rfl, hb6⟩
  have HH6 := Lib.hid ((hb6.block p1 (Array.getElem?_eq_some_iff.1 HH5.out).1).trans HH5.out)
  have HB6 := Lib.hid (bel_trans HB5.out hb6)
  obtain ⟨y0, y1, y2, y3, y4⟩ := layV_box HH6.out
  clear hb6 z0 z1 z2 z3 z4
  go_wp2_with fail
  ((with_reducible refine (HBC6.out _).mono ?_))
  rintro e w7 ⟨rfl, hb7⟩
  have HH7 := Lib.hid ((hb7.block p1 (Array.getElem?_eq_some_iff.1 HH6.out).1).trans HH6.out)
  have HB7 := Lib.hid (bel_trans HB6.out hb7)
  obtain ⟨z0, z1, z2, z3, z4⟩ := layV_box HH7.out
  clear hb7 y0 y1 y2 y3 y4
  obtain ⟨hi5, hd5⟩ := HD.out
  obtain ⟨f1, f2, f3, f4, f5, f6, f7, f8, f9, f10, f11, f12, f13, f14, f15, f16, f17, f18⟩ := HBF5.out
  rcases HINJ.out with e | ⟨e, eq⟩ | ⟨e, eq, er⟩ | ⟨e, eq, er, ed⟩
  · have j1 : (x == z) = true := by simpa using e
    clear e
    go_upto_region 17 with fail
    go_quiet (fail)
    all_goals
      go_wp2_with fail
      go_ret
      exact ⟨rfl, HB7.out.trans ⟨rfl, rfl, rfl, Nat.le_refl _, fun _ _ => rfl⟩⟩
  · have j1 : (x == z) = false := by simpa using e
    have j2 : (b0 + q5 != b0 + q6) = true := by simp; omega
    clear e eq
    go_upto_region 17 with fail
    go_quiet (fail)
    all_goals
      go_wp2_with fail
      go_ret
      exact ⟨rfl, HB7.out.trans ⟨rfl, rfl, rfl, Nat.le_refl _, fun _ _ => rfl⟩⟩
  · have j1 : (x == z) = false := by simpa using e
    have j2 : (b0 + q5 != b0 + q6) = false := by simp; omega
    have j3 : (r5 != r6) = true := by simpa using er
    clear e eq er
    go_upto_region 17 with fail
    go_quiet (fail)
    all_goals
      go_wp2_with fail
      go_ret
      exact ⟨rfl, HB7.out.trans ⟨rfl, rfl, rfl, Nat.le_refl _, fun _ _ => rfl⟩⟩
  · have j1 : (x == z) = false := by simpa using e
    have j2 : (b0 + q5 != b0 + q6) = false := by simp; omega
    have j3 : (r5 != r6) = false := by simpa using er
    have j4 : (d5 != d6) = true := by simpa using ed
    clear e eq er ed
    go_upto_region 17 with fail
    go_quiet (fail)
    all_goals
      go_wp2_with fail
      go_ret
      exact ⟨rfl, HB7.out.trans ⟨rfl, rfl, rfl, Nat.le_refl _, fun _ _ => rfl⟩⟩
set_option maxRecDepth 100000 in
set_option maxHeartbeats 4000000 in
theorem places_6 (xb xs a c : Int) (w : World) (v y s v2 y2 b : Int) (hv : IntKind.u64.wrap xs = v) (hy : v % 13 = y) (hs : 256 + 64 * y = s) (hv2 : IntKind.u64.wrap xb = v2) (hy2 : v2 % 5000 = y2) (hb : 40 + y2 = b) (hf : firstI b s + 8 ≤ b) (ha0 : 0 ≤ a) (ha1 : a ≤ 4294967295) (hc0 : 0 ≤ c) (hc1 : c ≤ 4294967295) (hA : a < 1) (hC : c < 1 ∨ bitsI b s * (s / 64) < c) :
    Calls Try.prog 6 #[.agg #[.int .i64 xb, .int .i64 xs, .int .u32 a, .int .u32 c]] w fun e w' => e = .returned (.bool true) ∧ Below w.heap.size w w' := by
  obtain ⟨y0, y1, hv0, hv1, c1⟩ := sizeI_of xs v y hv hy
  obtain ⟨y3, y4, hv3, hv4, c2⟩ := blocksI_of xb v2 y2 hv2 hy2
  have hl : LayIn b s := by unfold LayIn; omega
  have h1 := fun w => lay_any b s w hl
  rw [if_pos hf] at h1
  obtain ⟨k0, k1, -, -, e0, e1, e2, e3⟩ := lay_nums b s hl
  obtain ⟨b0, hb0⟩ : ∃ b0, bitsI b s = b0 := ⟨_, rfl⟩
  obtain ⟨m, hm⟩ : ∃ m, s / 64 = m := ⟨_, rfl⟩
  obtain ⟨b1, hb1⟩ : ∃ b1, b0 * m = b1 := ⟨_, rfl⟩
  obtain ⟨b2, hb2⟩ : ∃ b2, firstI b s = b2 := ⟨_, rfl⟩
  have hfi : b2 = b0 + ceilI b (8 * s) := by rw [← hb2, ← hb0]; rfl
  rw [hb0, hm, hb1, hb2] at h1
  rw [hb0, hm, hb1] at hC
  rw [hb0] at e0 e1
  rw [hm] at k0 k1
  unfold layV at h1
  have H1 := Lib.hid h1
  have HL := Lib.hid laidI_any
  have hsm : s = 64 * m := by omega
  have s0 : 256 ≤ s := by omega
  have s1 : s ≤ 1024 := by omega
  have us := tquo s 64 m (by omega) (by omega) (by omega) hm
  have b3 : 40 ≤ b := by omega
  have b4 : b ≤ 5039 := by omega
  have HM := Lib.hid (And.intro hm (And.intro hb1 hfi))
  clear h1 hb0 hb2 hl hf hm hfi
  have HA := Lib.hid fun w => at_no b1 b0 b2 b s m a w (by omega) (by omega) HM.out.1 (by omega) (by omega) (.inl (by omega))
  have ua : IntKind.i64.wrap a = a := wi64_id _ (by omega) (by omega)
  have g1 : decide (1 ≤ a) = false := by simp; omega
  have HC := Lib.hid fun w => at_no b1 b0 b2 b s m c w (by omega) (by omega) HM.out.1 (by omega) (by omega) (by omega)
  clear k0 k1 e2 e3 hsm hb1 hA hC
  go_enter Try.func6, Try.ntmps6
  go_wp2_with fail
  obtain ⟨X0, hX0⟩ : ∃ x, x = w.alloc (.cells #[.int .i64 xb, .int .i64 xs, .int .u32 a, .int .u32 c] 57) := ⟨_, rfl⟩
  obtain ⟨p0, hp0⟩ : ∃ x, x = w.heap.size := ⟨_, rfl⟩
  have hh0 : X0.heap[p0]? = some (.cells #[.int .i64 xb, .int .i64 xs, .int .u32 a, .int .u32 c] 57 (0, 0)) := by rw [hX0, hp0]; exact heap_alloc_new _ _
  have HBX0 : Hid (Below w.heap.size w X0) := Lib.hid (by rw [hX0]; exact bel_alloc (Below.refl _ _) _)
  obtain ⟨y0, y1, y2, y3⟩ := caseP_box hh0
  rw [← hX0, ← hp0]
  clear hX0 hp0 hh0
  go_quiet (fail)
  obtain ⟨Y0, hY0⟩ : ∃ x, x = X0.drewN nq := ⟨_, rfl⟩
  have HBY0 : Hid (Below w.heap.size w Y0) := Lib.hid (by rw [hY0]; exact HBX0.out.trans ⟨rfl, rfl, rfl, Nat.le_refl _, fun _ _ => rfl⟩)
  rw [← hY0]
  clear hY0 y0 y1 y2 y3
  go_wp2_with fail
  ((with_reducible refine (H1.out _).mono ?_))
  rintro e w1 ⟨rfl, hb1⟩
  have HB1 := Lib.hid (bel_trans HBY0.out hb1)
  clear hb1
  obtain ⟨X1, hX1⟩ : ∃ x, x = w1.alloc (.cells #[.int .i64 b1, .int .i64 b0, .int .i64 b2, .int .i64 b, .int .i64 s] 49) := ⟨_, rfl⟩
  obtain ⟨p1, hp1⟩ : ∃ x, x = w1.heap.size := ⟨_, rfl⟩
  have HH1 : Hid (X1.heap[p1]? = some (.cells #[.int .i64 b1, .int .i64 b0, .int .i64 b2, .int .i64 b, .int .i64 s] 49 (0, 0))) := Lib.hid (by rw [hX1, hp1]; exact heap_alloc_new _ _)
  have HBX1 : Hid (Below w.heap.size w X1) := Lib.hid (by rw [hX1]; exact bel_alloc HB1.out _)
  go_wp2_with fail
  rw [← hX1, ← hp1]
  clear hX1 hp1
  ((with_reducible refine (HL.out _).mono ?_))
  rintro e w2 ⟨rfl, hb2⟩
  have HH2 := Lib.hid ((hb2.block p1 (Array.getElem?_eq_some_iff.1 HH1.out).1).trans HH1.out)
  have HB2 := Lib.hid (bel_trans HBX1.out hb2)
  clear hb2
  obtain ⟨z0, z1, z2, z3, z4⟩ := layV_box HH2.out
  go_wp2_with fail
  ((with_reducible refine (HA.out _).mono ?_))
  rintro e w3 ⟨rfl, hb3⟩
  have HH3 := Lib.hid ((hb3.block p1 (Array.getElem?_eq_some_iff.1 HH2.out).1).trans HH2.out)
  have HB3 := Lib.hid (bel_trans HB2.out hb3)
  obtain ⟨y0, y1, y2, y3, y4⟩ := layV_box HH3.out
  clear hb3 z0 z1 z2 z3 z4
  go_wp2_with fail
  ((with_reducible refine (HC.out _).mono ?_))
  rintro e w4 ⟨rfl, hb4⟩
  have HH4 := Lib.hid ((hb4.block p1 (Array.getElem?_eq_some_iff.1 HH3.out).1).trans HH3.out)
  have HB4 := Lib.hid (bel_trans HB3.out hb4)
  obtain ⟨z0, z1, z2, z3, z4⟩ := layV_box HH4.out
  clear hb4 y0 y1 y2 y3 y4
  go_upto_region 14 with fail
  obtain ⟨x, hx⟩ : ∃ x, a % b = x := ⟨_, rfl⟩
  obtain ⟨z, hz⟩ : ∃ z, c % b = z := ⟨_, rfl⟩
  have x0 := rem_bd a b x (by omega) hx
  have z0' := rem_bd c b z (by omega) hz
  have v1 := trem a b x ha0 hx
  have v2' := trem c b z hc0 hz
  have ub : IntKind.u32.wrap b = b := by rw [IntKind.wrap_u32]; omega
  have ux : IntKind.u32.wrap x = x := by rw [IntKind.wrap_u32]; omega
  have uz : IntKind.u32.wrap z = z := by rw [IntKind.wrap_u32]; omega
  have nb : b ≠ 0 := by omega
  have x1 : 0 ≤ x := x0.1
  have x2 : x ≤ 5039 := by omega
  have x3 : 0 ≤ z := z0'.1
  have x4 : z ≤ 5039 := by omega
  obtain ⟨i5, hbi5⟩ : ∃ i, x / 8 = i := ⟨_, rfl⟩
  obtain ⟨q5, hbq5⟩ : ∃ q, i5 / s = q := ⟨_, rfl⟩
  obtain ⟨r5, hbr5⟩ : ∃ r, i5 % s = r := ⟨_, rfl⟩
  obtain ⟨d5, hbd5⟩ : ∃ d, x % 8 = d := ⟨_, rfl⟩
  have HBC5 := Lib.hid fun w => bit_any b1 b0 b2 b s x i5 q5 r5 d5 w (by omega) (by omega) (by omega) (by omega) (by omega) (by omega) hbi5 hbq5 hbr5 hbd5
  have HBF5 := Lib.hid (bit_forms x b s i5 q5 r5 d5 b2 b0 (by omega) (by omega) (by omega) (by omega) (by omega) hbi5 hbq5 hbr5 hbd5 (by omega) (by omega) HM.out.2.2)
  obtain ⟨i6, hbi6⟩ : ∃ i, z / 8 = i := ⟨_, rfl⟩
  obtain ⟨q6, hbq6⟩ : ∃ q, i6 / s = q := ⟨_, rfl⟩
  obtain ⟨r6, hbr6⟩ : ∃ r, i6 % s = r := ⟨_, rfl⟩
  obtain ⟨d6, hbd6⟩ : ∃ d, z % 8 = d := ⟨_, rfl⟩
  have HBC6 := Lib.hid fun w => bit_any b1 b0 b2 b s z i6 q6 r6 d6 w (by omega) (by omega) (by omega) (by omega) (by omega) (by omega) hbi6 hbq6 hbr6 hbd6
  have HBF6 := Lib.hid (bit_forms z b s i6 q6 r6 d6 b2 b0 (by omega) (by omega) (by omega) (by omega) (by omega) hbi6 hbq6 hbr6 hbd6 (by omega) (by omega) HM.out.2.2)
  have HINJ : Hid (x = z ∨ (x ≠ z ∧ q5 ≠ q6) ∨ (x ≠ z ∧ q5 = q6 ∧ r5 ≠ r6) ∨ (x ≠ z ∧ q5 = q6 ∧ r5 = r6 ∧ d5 ≠ d6)) := Lib.hid (by
    by_cases cx : x = z
    · exact .inl cx
    by_cases cq : q5 = q6
    · by_cases cr : r5 = r6
      · refine .inr (.inr (.inr ⟨cx, cq, cr, fun cd => cx (bit_inj x z s ?_ ?_ ?_)⟩))
        · rw [hbi5, hbi6, hbq5, hbq6, cq]
        · rw [hbi5, hbi6, hbr5, hbr6, cr]
        · rw [hbd5, hbd6, cd]
      · exact .inr (.inr (.inl ⟨cx, cq, cr⟩))
    · exact .inr (.inl ⟨cx, cq⟩))
  have HD := Lib.hid (And.intro hbi5 hbd5)
  clear hbi5 hbq5 hbr5 hbd5 hbi6 hbq6 hbr6 hbd6 x0 z0'
  go_quiet (fail)
  obtain ⟨Y4, hY4⟩ : ∃ x, x = w4.drewN nq := ⟨_, rfl⟩
  have hq4 : Below w4.heap.size w4 Y4 := by rw [hY4]; exact ⟨rfl, rfl, rfl, Nat.le_refl _, fun _ _ => rfl⟩
  have HH5 := Lib.hid ((hq4.block p1 (Array.getElem?_eq_some_iff.1 HH4.out).1).trans HH4.out)
  have HB5 := Lib.hid (bel_trans HB4.out hq4)
  rw [← hY4]
  clear hY4 hq4 z0 z1 z2 z3 z4 hx hz v1 v2' ub ux uz nb
  obtain ⟨z0, z1, z2, z3, z4⟩ := layV_box HH5.out
  go_wp2_with fail
  ((with_reducible refine (HBC5.out _).mono ?_))
  rintro e w6 ⟨rfl, hb6⟩
  have HH6 := Lib.hid ((hb6.block p1 (Array.getElem?_eq_some_iff.1 HH5.out).1).trans HH5.out)
  have HB6 := Lib.hid (bel_trans HB5.out hb6)
  obtain ⟨y0, y1, y2, y3, y4⟩ := layV_box HH6.out
  clear hb6 z0 z1 z2 z3 z4
  go_wp2_with fail
  ((with_reducible refine (HBC6.out _).mono ?_))
  rintro e w7 ⟨rfl, hb7⟩
  have HH7 := Lib.hid ((hb7.block p1 (Array.getElem?_eq_some_iff.1 HH6.out).1).trans HH6.out)
  have HB7 := Lib.hid (bel_trans HB6.out hb7)
  obtain ⟨z0, z1, z2, z3, z4⟩ := layV_box HH7.out
  clear hb7 y0 y1 y2 y3 y4
  obtain ⟨hi5, hd5⟩ := HD.out
  obtain ⟨f1, f2, f3, f4, f5, f6, f7, f8, f9, f10, f11, f12, f13, f14, f15, f16, f17, f18⟩ := HBF5.out
  rcases HINJ.out with e | ⟨e, eq⟩ | ⟨e, eq, er⟩ | ⟨e, eq, er, ed⟩
  · have j1 : (x == z) = true := by simpa using e
    clear e
    go_upto_region 17 with fail
    go_quiet (fail)
    all_goals
      go_wp2_with fail
      go_ret
      exact ⟨rfl, HB7.out.trans ⟨rfl, rfl, rfl, Nat.le_refl _, fun _ _ => rfl⟩⟩
  · have j1 : (x == z) = false := by simpa using e
    have j2 : (b0 + q5 != b0 + q6) = true := by simp; omega
    clear e eq
    go_upto_region 17 with fail
    go_quiet (fail)
    all_goals
      go_wp2_with fail
      go_ret
      exact ⟨rfl, HB7.out.trans ⟨rfl, rfl, rfl, Nat.le_refl _, fun _ _ => rfl⟩⟩
  · have j1 : (x == z) = false := by simpa using e
    have j2 : (b0 + q5 != b0 + q6) = false := by simp; omega
    have j3 : (r5 != r6) = true := by simpa using er
    clear e eq er
    go_upto_region 17 with fail
    go_quiet (fail)
    all_goals
      go_wp2_with fail
      go_ret
      exact ⟨rfl, HB7.out.trans ⟨rfl, rfl, rfl, Nat.le_refl _, fun _ _ => rfl⟩⟩
  · have j1 : (x == z) = false := by simpa using e
    have j2 : (b0 + q5 != b0 + q6) = false := by simp; omega
    have j3 : (r5 != r6) = false := by simpa using er
    have j4 : (d5 != d6) = true := by simpa using ed
    clear e eq er ed
    go_upto_region 17 with fail
    go_quiet (fail)
    all_goals
      go_wp2_with fail
      go_ret
      exact ⟨rfl, HB7.out.trans ⟨rfl, rfl, rfl, Nat.le_refl _, fun _ _ => rfl⟩⟩
set_option maxRecDepth 100000 in
set_option maxHeartbeats 4000000 in
theorem places_7 (xb xs a c : Int) (w : World) (v y s v2 y2 b : Int) (hv : IntKind.u64.wrap xs = v) (hy : v % 13 = y) (hs : 256 + 64 * y = s) (hv2 : IntKind.u64.wrap xb = v2) (hy2 : v2 % 5000 = y2) (hb : 40 + y2 = b) (hf : firstI b s + 8 ≤ b) (ha0 : 0 ≤ a) (ha1 : a ≤ 4294967295) (hc0 : 0 ≤ c) (hc1 : c ≤ 4294967295) (hA : 1 ≤ a ∧ bitsI b s * (s / 64) < a) (hC : c < 1 ∨ bitsI b s * (s / 64) < c) :
    Calls Try.prog 6 #[.agg #[.int .i64 xb, .int .i64 xs, .int .u32 a, .int .u32 c]] w fun e w' => e = .returned (.bool true) ∧ Below w.heap.size w w' := by
  obtain ⟨y0, y1, hv0, hv1, c1⟩ := sizeI_of xs v y hv hy
  obtain ⟨y3, y4, hv3, hv4, c2⟩ := blocksI_of xb v2 y2 hv2 hy2
  have hl : LayIn b s := by unfold LayIn; omega
  have h1 := fun w => lay_any b s w hl
  rw [if_pos hf] at h1
  obtain ⟨k0, k1, -, -, e0, e1, e2, e3⟩ := lay_nums b s hl
  obtain ⟨b0, hb0⟩ : ∃ b0, bitsI b s = b0 := ⟨_, rfl⟩
  obtain ⟨m, hm⟩ : ∃ m, s / 64 = m := ⟨_, rfl⟩
  obtain ⟨b1, hb1⟩ : ∃ b1, b0 * m = b1 := ⟨_, rfl⟩
  obtain ⟨b2, hb2⟩ : ∃ b2, firstI b s = b2 := ⟨_, rfl⟩
  have hfi : b2 = b0 + ceilI b (8 * s) := by rw [← hb2, ← hb0]; rfl
  rw [hb0, hm, hb1, hb2] at h1
  rw [hb0, hm, hb1] at hA hC
  rw [hb0] at e0 e1
  rw [hm] at k0 k1
  unfold layV at h1
  have H1 := Lib.hid h1
  have HL := Lib.hid laidI_any
  have hsm : s = 64 * m := by omega
  have s0 : 256 ≤ s := by omega
  have s1 : s ≤ 1024 := by omega
  have us := tquo s 64 m (by omega) (by omega) (by omega) hm
  have b3 : 40 ≤ b := by omega
  have b4 : b ≤ 5039 := by omega
  have HM := Lib.hid (And.intro hm (And.intro hb1 hfi))
  clear h1 hb0 hb2 hl hf hm hfi
  have HA := Lib.hid fun w => at_no b1 b0 b2 b s m a w (by omega) (by omega) HM.out.1 (by omega) (by omega) (.inr (by omega))
  have ua : IntKind.i64.wrap a = a := wi64_id _ (by omega) (by omega)
  have g1 : decide (1 ≤ a) = true := by simp; omega
  have g2 : decide (a ≤ b1) = false := by simp; omega
  have HC := Lib.hid fun w => at_no b1 b0 b2 b s m c w (by omega) (by omega) HM.out.1 (by omega) (by omega) (by omega)
  clear k0 k1 e2 e3 hsm hb1 hA hC
  go_enter Try.func6, Try.ntmps6
  go_wp2_with fail
  obtain ⟨X0, hX0⟩ : ∃ x, x = w.alloc (.cells #[.int .i64 xb, .int .i64 xs, .int .u32 a, .int .u32 c] 57) := ⟨_, rfl⟩
  obtain ⟨p0, hp0⟩ : ∃ x, x = w.heap.size := ⟨_, rfl⟩
  have hh0 : X0.heap[p0]? = some (.cells #[.int .i64 xb, .int .i64 xs, .int .u32 a, .int .u32 c] 57 (0, 0)) := by rw [hX0, hp0]; exact heap_alloc_new _ _
  have HBX0 : Hid (Below w.heap.size w X0) := Lib.hid (by rw [hX0]; exact bel_alloc (Below.refl _ _) _)
  obtain ⟨y0, y1, y2, y3⟩ := caseP_box hh0
  rw [← hX0, ← hp0]
  clear hX0 hp0 hh0
  go_quiet (fail)
  obtain ⟨Y0, hY0⟩ : ∃ x, x = X0.drewN nq := ⟨_, rfl⟩
  have HBY0 : Hid (Below w.heap.size w Y0) := Lib.hid (by rw [hY0]; exact HBX0.out.trans ⟨rfl, rfl, rfl, Nat.le_refl _, fun _ _ => rfl⟩)
  rw [← hY0]
  clear hY0 y0 y1 y2 y3
  go_wp2_with fail
  ((with_reducible refine (H1.out _).mono ?_))
  rintro e w1 ⟨rfl, hb1⟩
  have HB1 := Lib.hid (bel_trans HBY0.out hb1)
  clear hb1
  obtain ⟨X1, hX1⟩ : ∃ x, x = w1.alloc (.cells #[.int .i64 b1, .int .i64 b0, .int .i64 b2, .int .i64 b, .int .i64 s] 49) := ⟨_, rfl⟩
  obtain ⟨p1, hp1⟩ : ∃ x, x = w1.heap.size := ⟨_, rfl⟩
  have HH1 : Hid (X1.heap[p1]? = some (.cells #[.int .i64 b1, .int .i64 b0, .int .i64 b2, .int .i64 b, .int .i64 s] 49 (0, 0))) := Lib.hid (by rw [hX1, hp1]; exact heap_alloc_new _ _)
  have HBX1 : Hid (Below w.heap.size w X1) := Lib.hid (by rw [hX1]; exact bel_alloc HB1.out _)
  go_wp2_with fail
  rw [← hX1, ← hp1]
  clear hX1 hp1
  ((with_reducible refine (HL.out _).mono ?_))
  rintro e w2 ⟨rfl, hb2⟩
  have HH2 := Lib.hid ((hb2.block p1 (Array.getElem?_eq_some_iff.1 HH1.out).1).trans HH1.out)
  have HB2 := Lib.hid (bel_trans HBX1.out hb2)
  clear hb2
  obtain ⟨z0, z1, z2, z3, z4⟩ := layV_box HH2.out
  go_wp2_with fail
  ((with_reducible refine (HA.out _).mono ?_))
  rintro e w3 ⟨rfl, hb3⟩
  have HH3 := Lib.hid ((hb3.block p1 (Array.getElem?_eq_some_iff.1 HH2.out).1).trans HH2.out)
  have HB3 := Lib.hid (bel_trans HB2.out hb3)
  obtain ⟨y0, y1, y2, y3, y4⟩ := layV_box HH3.out
  clear hb3 z0 z1 z2 z3 z4
  go_wp2_with fail
  ((with_reducible refine (HC.out _).mono ?_))
  rintro e w4 ⟨rfl, hb4⟩
  have HH4 := Lib.hid ((hb4.block p1 (Array.getElem?_eq_some_iff.1 HH3.out).1).trans HH3.out)
  have HB4 := Lib.hid (bel_trans HB3.out hb4)
  obtain ⟨z0, z1, z2, z3, z4⟩ := layV_box HH4.out
  clear hb4 y0 y1 y2 y3 y4
  go_upto_region 14 with fail
  obtain ⟨x, hx⟩ : ∃ x, a % b = x := ⟨_, rfl⟩
  obtain ⟨z, hz⟩ : ∃ z, c % b = z := ⟨_, rfl⟩
  have x0 := rem_bd a b x (by omega) hx
  have z0' := rem_bd c b z (by omega) hz
  have v1 := trem a b x ha0 hx
  have v2' := trem c b z hc0 hz
  have ub : IntKind.u32.wrap b = b := by rw [IntKind.wrap_u32]; omega
  have ux : IntKind.u32.wrap x = x := by rw [IntKind.wrap_u32]; omega
  have uz : IntKind.u32.wrap z = z := by rw [IntKind.wrap_u32]; omega
  have nb : b ≠ 0 := by omega
  have x1 : 0 ≤ x := x0.1
  have x2 : x ≤ 5039 := by omega
  have x3 : 0 ≤ z := z0'.1
  have x4 : z ≤ 5039 := by omega
  obtain ⟨i5, hbi5⟩ : ∃ i, x / 8 = i := ⟨_, rfl⟩
  obtain ⟨q5, hbq5⟩ : ∃ q, i5 / s = q := ⟨_, rfl⟩
  obtain ⟨r5, hbr5⟩ : ∃ r, i5 % s = r := ⟨_, rfl⟩
  obtain ⟨d5, hbd5⟩ : ∃ d, x % 8 = d := ⟨_, rfl⟩
  have HBC5 := Lib.hid fun w => bit_any b1 b0 b2 b s x i5 q5 r5 d5 w (by omega) (by omega) (by omega) (by omega) (by omega) (by omega) hbi5 hbq5 hbr5 hbd5
  have HBF5 := Lib.hid (bit_forms x b s i5 q5 r5 d5 b2 b0 (by omega) (by omega) (by omega) (by omega) (by omega) hbi5 hbq5 hbr5 hbd5 (by omega) (by omega) HM.out.2.2)
  obtain ⟨i6, hbi6⟩ : ∃ i, z / 8 = i := ⟨_, rfl⟩
  obtain ⟨q6, hbq6⟩ : ∃ q, i6 / s = q := ⟨_, rfl⟩
  obtain ⟨r6, hbr6⟩ : ∃ r, i6 % s = r := ⟨_, rfl⟩
  obtain ⟨d6, hbd6⟩ : ∃ d, z % 8 = d := ⟨_, rfl⟩
  have HBC6 := Lib.hid fun w => bit_any b1 b0 b2 b s z i6 q6 r6 d6 w (by omega) (by omega) (by omega) (by omega) (by omega) (by omega) hbi6 hbq6 hbr6 hbd6
  have HBF6 := Lib.hid (bit_forms z b s i6 q6 r6 d6 b2 b0 (by omega) (by omega) (by omega) (by omega) (by omega) hbi6 hbq6 hbr6 hbd6 (by omega) (by omega) HM.out.2.2)
  have HINJ : Hid (x = z ∨ (x ≠ z ∧ q5 ≠ q6) ∨ (x ≠ z ∧ q5 = q6 ∧ r5 ≠ r6) ∨ (x ≠ z ∧ q5 = q6 ∧ r5 = r6 ∧ d5 ≠ d6)) := Lib.hid (by
    by_cases cx : x = z
    · exact .inl cx
    by_cases cq : q5 = q6
    · by_cases cr : r5 = r6
      · refine .inr (.inr (.inr ⟨cx, cq, cr, fun cd => cx (bit_inj x z s ?_ ?_ ?_)⟩))
        · rw [hbi5, hbi6, hbq5, hbq6, cq]
        · rw [hbi5, hbi6, hbr5, hbr6, cr]
        · rw [hbd5, hbd6, cd]
      · exact .inr (.inr (.inl ⟨cx, cq, cr⟩))
    · exact .inr (.inl ⟨cx, cq⟩))
  have HD := Lib.hid (And.intro hbi5 hbd5)
  clear hbi5 hbq5 hbr5 hbd5 hbi6 hbq6 hbr6 hbd6 x0 z0'
  go_quiet (fail)
  obtain ⟨Y4, hY4⟩ : ∃ x, x = w4.drewN nq := ⟨_, rfl⟩
  have hq4 : Below w4.heap.size w4 Y4 := by rw [hY4]; exact ⟨rfl, rfl, rfl, Nat.le_refl _, fun _ _ => rfl⟩
  have HH5 := Lib.hid ((hq4.block p1 (Array.getElem?_eq_some_iff.1 HH4.out).1).trans HH4.out)
  have HB5 := Lib.hid (bel_trans HB4.out hq4)
  rw [← hY4]
  clear hY4 hq4 z0 z1 z2 z3 z4 hx hz v1 v2' ub ux uz nb
  obtain ⟨z0, z1, z2, z3, z4⟩ := layV_box HH5.out
  go_wp2_with fail
  ((with_reducible refine (HBC5.out _).mono ?_))
  rintro e w6 ⟨rfl, hb6⟩
  have HH6 := Lib.hid ((hb6.block p1 (Array.getElem?_eq_some_iff.1 HH5.out).1).trans HH5.out)
  have HB6 := Lib.hid (bel_trans HB5.out hb6)
  obtain ⟨y0, y1, y2, y3, y4⟩ := layV_box HH6.out
  clear hb6 z0 z1 z2 z3 z4
  go_wp2_with fail
  ((with_reducible refine (HBC6.out _).mono ?_))
  rintro e w7 ⟨rfl, hb7⟩
  have HH7 := Lib.hid ((hb7.block p1 (Array.getElem?_eq_some_iff.1 HH6.out).1).trans HH6.out)
  have HB7 := Lib.hid (bel_trans HB6.out hb7)
  obtain ⟨z0, z1, z2, z3, z4⟩ := layV_box HH7.out
  clear hb7 y0 y1 y2 y3 y4
  obtain ⟨hi5, hd5⟩ := HD.out
  obtain ⟨f1, f2, f3, f4, f5, f6, f7, f8, f9, f10, f11, f12, f13, f14, f15, f16, f17, f18⟩ := HBF5.out
  rcases HINJ.out with e | ⟨e, eq⟩ | ⟨e, eq, er⟩ | ⟨e, eq, er, ed⟩
  · have j1 : (x == z) = true := by simpa using e
    clear e
    go_upto_region 17 with fail
    go_quiet (fail)
    all_goals
      go_wp2_with fail
      go_ret
      exact ⟨rfl, HB7.out.trans ⟨rfl, rfl, rfl, Nat.le_refl _, fun _ _ => rfl⟩⟩
  · have j1 : (x == z) = false := by simpa using e
    have j2 : (b0 + q5 != b0 + q6) = true := by simp; omega
    clear e eq
    go_upto_region 17 with fail
    go_quiet (fail)
    all_goals
      go_wp2_with fail
      go_ret
      exact ⟨rfl, HB7.out.trans ⟨rfl, rfl, rfl, Nat.le_refl _, fun _ _ => rfl⟩⟩
  · have j1 : (x == z) = false := by simpa using e
    have j2 : (b0 + q5 != b0 + q6) = false := by simp; omega
    have j3 : (r5 != r6) = true := by simpa using er
    clear e eq er
    go_upto_region 17 with fail
    go_quiet (fail)
    all_goals
      go_wp2_with fail
      go_ret
      exact ⟨rfl, HB7.out.trans ⟨rfl, rfl, rfl, Nat.le_refl _, fun _ _ => rfl⟩⟩
  · have j1 : (x == z) = false := by simpa using e
    have j2 : (b0 + q5 != b0 + q6) = false := by simp; omega
    have j3 : (r5 != r6) = false := by simpa using er
    have j4 : (d5 != d6) = true := by simpa using ed
    clear e eq er ed
    go_upto_region 17 with fail
    go_quiet (fail)
    all_goals
      go_wp2_with fail
      go_ret
      exact ⟨rfl, HB7.out.trans ⟨rfl, rfl, rfl, Nat.le_refl _, fun _ _ => rfl⟩⟩
end Go.Proofs.Ytnnaijeapapehaa
