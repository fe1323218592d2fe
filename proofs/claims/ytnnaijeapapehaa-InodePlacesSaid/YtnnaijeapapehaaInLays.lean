/- InodeLays, InodeMosts: the walks. -/
import Derived.Test.YtnnaijeapapehaaInAt
import Derived.Test.YtnnaijeapapehaaInLaid
namespace Go.Proofs.Ytnnaijeapapehaa
open Go.RowKit

/-- Both layouts, one and the same. -/
theorem lay_same (b s : Int) : ∃ x0 x1 x2 x3 x4 er : Int, (∀ w : World, Calls Try.prog 17 #[.int .i64 b, .int .i64 s] w fun e w' => e = .returned (.tuple #[.agg #[.int .i64 x0, .int .i64 x1, .int .i64 x2, .int .i64 x3, .int .i64 x4], .int .i64 er]) ∧ Below w.heap.size w w') ∧
    (∀ w : World, Calls Try.prog 18 #[.int .i64 b, .int .i64 s] w fun e w' => e = .returned (.tuple #[.agg #[.int .i64 x0, .int .i64 x1, .int .i64 x2, .int .i64 x3, .int .i64 x4], .int .i64 er]) ∧ Below w.heap.size w w') := by
  by_cases h : LayIn b s
  · by_cases c : firstI b s + 8 ≤ b
    · refine ⟨bitsI b s * (s / 64), bitsI b s, firstI b s, b, s, 0, fun w => ?_, fun w => ?_⟩
      · have := lay_any b s w h; rw [if_pos c] at this; exact this
      · have := refLay_any b s w h; rw [if_pos c] at this; exact this
    · refine ⟨0, 0, 0, 0, 0, 28, fun w => ?_, fun w => ?_⟩
      · have := lay_any b s w h; rw [if_neg c] at this; exact this
      · have := refLay_any b s w h; rw [if_neg c] at this; exact this
  · exact ⟨0, 0, 0, 0, 0, 34, fun w => lay_bad b s w h, fun w => refLay_bad b s w h⟩
set_option maxRecDepth 100000 in
set_option maxHeartbeats 1600000 in
theorem inodeLays_walk (b s : Int) (w : World) (_ : (Lit.int .i64 b).wf = true) (_ : (Lit.int .i64 s).wf = true) :
    Calls Try.prog 5 #[.int .i64 b, .int .i64 s] w fun e w' => e = .returned (.bool true) ∧ Below w.heap.size w w' := by
  obtain ⟨x0, x1, x2, x3, x4, er, h1, h2⟩ := lay_same b s
  have H1 := Lib.hid h1
  have H2 := Lib.hid h2
  have HL := Lib.hid laidI_any
  clear h1 h2
  go_enter Try.func5, Try.ntmps5
  go_wp2_with fail
  ((with_reducible refine (H1.out _).mono ?_))
  rintro e w1 ⟨rfl, hb1⟩
  have HB1 := Lib.hid hb1
  clear hb1
  obtain ⟨X1, hX1⟩ : ∃ x, x = w1.alloc (.cells #[.int .i64 x0, .int .i64 x1, .int .i64 x2, .int .i64 x3, .int .i64 x4] 49) := ⟨_, rfl⟩
  obtain ⟨p1, hp1⟩ : ∃ x, x = w1.heap.size := ⟨_, rfl⟩
  have HH1 : Hid (X1.heap[p1]? = some (.cells #[.int .i64 x0, .int .i64 x1, .int .i64 x2, .int .i64 x3, .int .i64 x4] 49 (0, 0))) := Lib.hid (by rw [hX1, hp1]; exact heap_alloc_new _ _)
  have HBX1 : Hid (Below w.heap.size w X1) := Lib.hid (by rw [hX1]; exact bel_alloc HB1.out _)
  go_wp2_with fail
  rw [← hX1, ← hp1]
  clear hX1 hp1
  ((with_reducible refine (H2.out _).mono ?_))
  rintro e w2 ⟨rfl, hb2⟩
  have HH2 := Lib.hid ((hb2.block p1 (Array.getElem?_eq_some_iff.1 HH1.out).1).trans HH1.out)
  have HB2 := Lib.hid (bel_trans HBX1.out hb2)
  clear hb2
  obtain ⟨X2, hX2⟩ : ∃ x, x = w2.alloc (.cells #[.int .i64 x0, .int .i64 x1, .int .i64 x2, .int .i64 x3, .int .i64 x4] 52) := ⟨_, rfl⟩
  obtain ⟨p2, hp2⟩ : ∃ x, x = w2.heap.size := ⟨_, rfl⟩
  have HK2 : Hid (X2.heap[p2]? = some (.cells #[.int .i64 x0, .int .i64 x1, .int .i64 x2, .int .i64 x3, .int .i64 x4] 52 (0, 0))) := Lib.hid (by rw [hX2, hp2]; exact heap_alloc_new _ _)
  have HBX2 : Hid (Below w2.heap.size w2 X2) := Lib.hid (by rw [hX2]; exact bel_alloc (Below.refl _ _) _)
  go_wp2_with fail
  rw [← hX2, ← hp2]
  clear hX2 hp2
  ((with_reducible refine (HL.out _).mono ?_))
  rintro e w3 ⟨rfl, hb3⟩
  have hb23 := bel_trans HBX2.out hb3
  have HB3 := Lib.hid (bel_trans HB2.out hb23)
  obtain ⟨z0, z1, z2, z3, z4⟩ := layV_box ((hb23.block p1 (Array.getElem?_eq_some_iff.1 HH2.out).1).trans HH2.out)
  obtain ⟨y0, y1, y2, y3, y4⟩ := layV_box ((hb3.block p2 (Array.getElem?_eq_some_iff.1 HK2.out).1).trans HK2.out)
  clear hb23 hb3
  go_wp2_with fail
  go_ret
  exact ⟨rfl, HB3.out⟩
theorem sizeI_of (x v y : Int) (hv : IntKind.u64.wrap x = v) (hy : v % 13 = y) : 0 ≤ y ∧ y ≤ 12 ∧ 0 ≤ v ∧ v ≤ 18446744073709551615 ∧ IntKind.i64.wrap y = y := by
  rw [← hy, ← hv, IntKind.wrap_u64, IntKind.wrap_i64]; omega
theorem layIn_500 (s y : Int) (h : 256 + 64 * y = s) (y0 : 0 ≤ y) (y1 : y ≤ 12) : LayIn 500 s ∧ firstI 500 s + 8 ≤ 500 := by
  have hl : LayIn 500 s := by unfold LayIn; omega
  refine ⟨hl, ?_⟩
  have e : nodeI 500 = 125 := rfl
  have a := ceil_bd 125 (s / 64) (by omega) (by omega)
  have b : ceilI 500 (8 * s) = 1 := by
    unfold ceilI
    apply Int.le_antisymm
    · have : (500 + 8 * s - 1) / (8 * s) < 2 := Int.ediv_lt_of_lt_mul (by omega) (by omega)
      omega
    · exact (Int.le_ediv_iff_mul_le (by omega)).2 (by omega)
  unfold firstI bitsI
  rw [e, b]
  omega
set_option maxRecDepth 100000 in
set_option maxHeartbeats 1600000 in
theorem inodeMosts_walk (x : Int) (w : World) (_ : (Lit.int .i64 x).wf = true) :
    Calls Try.prog 7 #[.int .i64 x] w fun e w' => e = .returned (.bool true) ∧ Below w.heap.size w w' := by
  obtain ⟨v, hv⟩ : ∃ v, IntKind.u64.wrap x = v := ⟨_, rfl⟩
  obtain ⟨y, hy⟩ : ∃ y, v % 13 = y := ⟨_, rfl⟩
  obtain ⟨y0, y1, hv0, hv1, c1⟩ := sizeI_of x v y hv hy
  obtain ⟨s, hs⟩ : ∃ s, 256 + 64 * y = s := ⟨_, rfl⟩
  obtain ⟨k, hk⟩ : ∃ k, s / 4 = k := ⟨_, rfl⟩
  obtain ⟨p, hp⟩ : ∃ p, k * k = p := ⟨_, rfl⟩
  obtain ⟨m, hm⟩ : ∃ m, (8 + k + p) * s = m := ⟨_, rfl⟩
  obtain ⟨hl, hf⟩ := layIn_500 s y hs y0 y1
  have h1 := fun w => lay_any 500 s w hl
  rw [if_pos hf] at h1
  obtain ⟨b0, hb0⟩ : ∃ b0, bitsI 500 s = b0 := ⟨_, rfl⟩
  obtain ⟨b1, hb1⟩ : ∃ b1, bitsI 500 s * (s / 64) = b1 := ⟨_, rfl⟩
  obtain ⟨b2, hb2⟩ : ∃ b2, firstI 500 s = b2 := ⟨_, rfl⟩
  rw [hb1, hb0, hb2] at h1
  unfold layV at h1
  have H1 := Lib.hid h1
  have s0 : 256 ≤ s := by omega
  have s1 : s ≤ 1024 := by omega
  have HM := Lib.hid fun w => most_any b1 b0 b2 500 s k p m w (by omega) (by omega) hk hp hm
  obtain ⟨p0, p1, m0, m1⟩ := most_bd k s p m (by omega) (by omega) (by omega) s1 hp hm
  have HL := Lib.hid laidI_any
  have u1 := tquo s 4 k (by omega) (by omega) (by omega) hk
  have k0 : 0 ≤ k := by omega
  have k1 : k ≤ 256 := by omega
  have t1 : decide (2147483648 < m) = false := by simp; omega
  have u2 : IntKind.i64.wrap m = m := wi64_id m m0 (by omega)
  clear h1 hb0 hb1 hb2 hl hf hk
  go_enter Try.func7, Try.ntmps7
  go_wp2_with fail
  ((with_reducible refine (H1.out _).mono ?_))
  rintro e w1 ⟨rfl, hb1⟩
  have HB1 := Lib.hid hb1
  clear hb1
  obtain ⟨X1, hX1⟩ : ∃ x, x = w1.alloc (.cells #[.int .i64 b1, .int .i64 b0, .int .i64 b2, .int .i64 500, .int .i64 s] 49) := ⟨_, rfl⟩
  obtain ⟨p1', hp1⟩ : ∃ x, x = w1.heap.size := ⟨_, rfl⟩
  have HH1 : Hid (X1.heap[p1']? = some (.cells #[.int .i64 b1, .int .i64 b0, .int .i64 b2, .int .i64 500, .int .i64 s] 49 (0, 0))) := Lib.hid (by rw [hX1, hp1]; exact heap_alloc_new _ _)
  have HBX1 : Hid (Below w.heap.size w X1) := Lib.hid (by rw [hX1]; exact bel_alloc HB1.out _)
  go_wp2_with fail
  rw [← hX1, ← hp1]
  clear hX1 hp1
  ((with_reducible refine (HL.out _).mono ?_))
  rintro e w2 ⟨rfl, hb2⟩
  obtain ⟨z0, z1, z2, z3, z4⟩ := layV_box ((hb2.block p1' (Array.getElem?_eq_some_iff.1 HH1.out).1).trans HH1.out)
  have HB2 := Lib.hid (bel_trans HBX1.out hb2)
  clear hb2
  go_wp2_with fail
  ((with_reducible refine (HM.out _).mono ?_))
  rintro e w3 ⟨rfl, hb3⟩
  have HB3 := Lib.hid (bel_trans HB2.out hb3)
  clear hb3
  go_wp2_with fail
  go_ret
  exact ⟨rfl, HB3.out⟩
end Go.Proofs.Ytnnaijeapapehaa
