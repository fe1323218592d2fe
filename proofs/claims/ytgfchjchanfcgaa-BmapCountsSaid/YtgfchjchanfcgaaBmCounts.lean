/- BmapCounts: the walk. -/
import Derived.Test.YtgfchjchanfcgaaBmFind
namespace Go.Proofs.Ytgfchjchanfcgaa
open Go.RowKit

theorem size_of (x y : Int) (h : IntKind.u64.wrap x % 13 = y) : 0 ≤ y ∧ y ≤ 12 := by
  rw [← h]; omega
set_option maxRecDepth 100000 in
set_option maxHeartbeats 1600000 in
theorem bmapCounts_walk (x : Int) (w : World) (_ : (Lit.int .i64 x).wf = true) :
    Calls Try.prog 6 #[.int .i64 x] w fun e w' => e = .returned (.bool true) ∧ Below w.heap.size w w' := by
  obtain ⟨v, hv⟩ : ∃ v, IntKind.u64.wrap x = v := ⟨_, rfl⟩
  obtain ⟨y, hy⟩ : ∃ y, v % 13 = y := ⟨_, rfl⟩
  obtain ⟨y0, y1⟩ := size_of x y (by rw [hv]; exact hy)
  have hv0 : 0 ≤ v := by rw [← hv, IntKind.wrap_u64]; omega
  have hv1 : v ≤ 18446744073709551615 := by rw [← hv, IntKind.wrap_u64]; omega
  obtain ⟨s, hs⟩ : ∃ s, 256 + 64 * y = s := ⟨_, rfl⟩
  obtain ⟨k, hk⟩ : ∃ k, 64 + 16 * y = k := ⟨_, rfl⟩
  obtain ⟨p, hp⟩ : ∃ p, k * k = p := ⟨_, rfl⟩
  have hsk : s / 4 = k := by omega
  have p0 : 64 * 64 ≤ p := by rw [← hp]; exact Int.mul_le_mul (by omega) (by omega) (by omega) (by omega)
  have p1 : p ≤ 256 * 256 := by rw [← hp]; exact Int.mul_le_mul (by omega) (by omega) (by omega) (by omega)
  have hqr : (p - 1) / k = k - 1 ∧ (p - 1) % k = k - 1 := by
    have e : p - 1 = (k - 1) + (k - 1) * k := by rw [Int.sub_mul, hp, Int.one_mul]; omega
    rw [e, Int.add_mul_ediv_right _ _ (by omega), Int.add_mul_emod_self_right, Int.ediv_eq_zero_of_lt (by omega) (by omega), Int.emod_eq_of_lt (by omega) (by omega)]
    exact ⟨by omega, rfl⟩
  have H1 : Hid (∀ x : World, Calls Try.prog 18 #[.int .i64 (8 + k + p - 1), .int .i64 s] x fun e w' => e = .returned (.tuple #[wayV 2 (k - 1) (k - 1), .int .i64 0]) ∧ Below x.heap.size x w') :=
    Lib.hid fun x => find_ok _ s k 2 (k - 1) (k - 1) x (by omega) (by omega) (by omega) hsk (by omega) (by omega) (lit_wf64 (by omega) (by omega)) (lit_wf64 (by omega) (by omega)) fun z =>
      way2_any _ k (p - 1) (k - 1) (k - 1) z (by omega) (by omega) (by rw [hp]; omega) (by omega) (by omega) (by omega) hqr.1 hqr.2
  have H2 : Hid (∀ x : World, Calls Try.prog 18 #[.int .i64 (8 + k + p), .int .i64 s] x fun e w' => e = .returned (.tuple #[wayV 0 0 0, .int .i64 27]) ∧ Below x.heap.size x w') :=
    Lib.hid fun x => find_big _ s k x (by omega) (by omega) (by omega) hsk fun z => way3_any _ k z (by rw [hp]; omega) (by omega) (by omega) (by omega)
  have H3 : Hid (∀ x : World, Calls Try.prog 18 #[.int .i64 (7 + k), .int .i64 s] x fun e w' => e = .returned (.tuple #[wayV 1 (k - 1) 0, .int .i64 0]) ∧ Below x.heap.size x w') :=
    Lib.hid fun x => by
      have h := find_ok (7 + k) s k 1 (7 + k - 8) 0 x (by omega) (by omega) (by omega) hsk (by omega) (by omega) (lit_wf64 (by omega) (by omega)) (by decide) fun z => way1_any _ k z (by omega) (by omega) (by omega)
      rw [show 7 + k - 8 = k - 1 by omega] at h
      exact h
  have HF := Lib.hid found_any
  have q1 : ∀ z : World, (binOp .eql 45 (.agg #[.int .i64 2, .int .i64 (k - 1), .int .i64 (k - 1)]) (.agg #[.int .i64 2, .int .i64 (k - 1), .int .i64 (k - 1)])).run Try.prog z = .ok (.bool true) z :=
    fun z => eq_way_lit 2 (k - 1) (k - 1) 2 (k - 1) (k - 1) true z (by decide) (lit_wf64 (by omega) (by omega)) (lit_wf64 (by omega) (by omega)) (by decide) (lit_wf64 (by omega) (by omega)) (lit_wf64 (by omega) (by omega)) (by rw [eqW_iff]; omega)
  have q2 : ∀ z : World, (binOp .eql 45 (.agg #[.int .i64 1, .int .i64 (k - 1), .int .i64 0]) (.agg #[.int .i64 1, .int .i64 (k - 1), .int .i64 0])).run Try.prog z = .ok (.bool true) z :=
    fun z => eq_way_lit 1 (k - 1) 0 1 (k - 1) 0 true z (by decide) (lit_wf64 (by omega) (by omega)) (by decide) (by decide) (lit_wf64 (by omega) (by omega)) (by decide) (by rw [eqW_iff]; omega)
  have c1 : IntKind.i64.wrap y = y := by rw [IntKind.wrap_i64]; omega
  have k0 : 64 ≤ k := by omega
  have k1 : k ≤ 256 := by omega
  have s0 : 256 ≤ s := by omega
  have s1 : s ≤ 1024 := by omega
  have u1 := quo4 (by omega) hsk (by omega)
  clear hqr hsk hk
  go_enter Try.func6, Try.ntmps6
  go_wp2_with fail
  ((with_reducible refine (H1.out _).mono ?_))
  rintro e w1 ⟨rfl, hb1⟩
  unfold wayV
  have HB1 := Lib.hid hb1
  clear hb1
  obtain ⟨X1, hX1⟩ : ∃ x, x = w1.alloc (.cells #[.int .i64 2, .int .i64 (k - 1), .int .i64 (k - 1)] 45) := ⟨_, rfl⟩
  obtain ⟨p1, hp1⟩ : ∃ x, x = w1.heap.size := ⟨_, rfl⟩
  have HH1 : Hid (X1.heap[p1]? = some (.cells #[.int .i64 2, .int .i64 (k - 1), .int .i64 (k - 1)] 45 (0, 0))) := Lib.hid (by rw [hX1, hp1]; exact heap_alloc_new _ _)
  have HBX1 : Hid (Below w.heap.size w X1) := Lib.hid (by rw [hX1]; exact bel_alloc HB1.out _)
  go_wp2_with fail
  rw [← hX1, ← hp1]
  clear hX1 hp1
  ((with_reducible refine (H2.out _).mono ?_))
  rintro e w2 ⟨rfl, hb2⟩
  unfold wayV
  have HH2 := Lib.hid ((hb2.block p1 (Array.getElem?_eq_some_iff.1 HH1.out).1).trans HH1.out)
  have HB2 := Lib.hid (bel_trans HBX1.out hb2)
  clear hb2
  obtain ⟨X2, hX2⟩ : ∃ x, x = w2.alloc (.cells #[.int .i64 0, .int .i64 0, .int .i64 0] 45) := ⟨_, rfl⟩
  have HBX2 : Hid (Below w2.heap.size w2 X2) := Lib.hid (by rw [hX2]; exact bel_alloc (Below.refl _ _) _)
  go_wp2_with fail
  rw [← hX2]
  clear hX2
  ((with_reducible refine (H3.out _).mono ?_))
  rintro e w3 ⟨rfl, hb3⟩
  unfold wayV
  have HB23 := Lib.hid (bel_trans HBX2.out hb3)
  have HB3 := Lib.hid (bel_trans HB2.out HB23.out)
  have HH3 := Lib.hid ((HB23.out.block p1 (Array.getElem?_eq_some_iff.1 HH2.out).1).trans HH2.out)
  clear hb3
  obtain ⟨X3, hX3⟩ : ∃ x, x = w3.alloc (.cells #[.int .i64 1, .int .i64 (k - 1), .int .i64 0] 45) := ⟨_, rfl⟩
  obtain ⟨p3, hp3⟩ : ∃ x, x = w3.heap.size := ⟨_, rfl⟩
  have HK3 : Hid (X3.heap[p3]? = some (.cells #[.int .i64 1, .int .i64 (k - 1), .int .i64 0] 45 (0, 0))) := Lib.hid (by rw [hX3, hp3]; exact heap_alloc_new _ _)
  have HBX3 : Hid (Below w3.heap.size w3 X3) := Lib.hid (by rw [hX3]; exact bel_alloc (Below.refl _ _) _)
  go_wp2_with fail
  rw [← hX3, ← hp3]
  clear hX3 hp3
  ((with_reducible refine (HF.out _).mono ?_))
  rintro e w4 ⟨rfl, hb4⟩
  have hb34 := bel_trans HBX3.out hb4
  have HB4 := Lib.hid (bel_trans HB3.out hb34)
  obtain ⟨z0, z1, z2, -⟩ := three_cells ((hb34.block p1 (Array.getElem?_eq_some_iff.1 HH3.out).1).trans HH3.out)
  obtain ⟨y0', y1', y2', -⟩ := three_cells ((hb4.block p3 (Array.getElem?_eq_some_iff.1 HK3.out).1).trans HK3.out)
  clear hb34 hb4
  go_wp2_with fail
  go_ret
  exact ⟨rfl, HB4.out⟩
end Go.Proofs.Ytgfchjchanfcgaa
