/- InodeNexts: the walk. -/
import Derived.Test.YtnnaijeapapehaaInLays
import Derived.Test.YtnnaijeapapehaaStructIn
namespace Go.Proofs.Ytnnaijeapapehaa
open Go.RowKit

theorem divmod_of (x m q r : Int) (h : x = r + m * q) (h0 : 0 ≤ r) (h1 : r < m) : x / m = q ∧ x % m = r := by
  subst h
  rw [Int.add_mul_ediv_left _ _ (by omega), Int.add_mul_emod_self_left, Int.ediv_eq_zero_of_lt h0 h1, Int.emod_eq_of_lt h0 h1]
  omega
theorem divmod_succ (x m q r : Int) (h2 : 1 ≤ m) (hq : x / m = q) (hr : x % m = r) : (r + 1 < m ∧ (x + 1) / m = q ∧ (x + 1) % m = r + 1) ∨ (r + 1 = m ∧ (x + 1) / m = q + 1 ∧ (x + 1) % m = 0) := by
  have e := Int.emod_add_mul_ediv x m
  have a := Int.emod_nonneg x (b := m) (by omega)
  have b := Int.emod_lt_of_pos x (b := m) (by omega)
  rw [hq, hr] at e
  rw [hr] at a b
  by_cases c : r + 1 < m
  · have := divmod_of (x + 1) m q (r + 1) (by omega) (by omega) c
    exact .inl ⟨c, this.1, this.2⟩
  · have hm : r + 1 = m := by omega
    have := divmod_of (x + 1) m (q + 1) 0 (by rw [Int.mul_add, Int.mul_one]; omega) (by omega) (by omega)
    exact .inr ⟨hm, this.1, this.2⟩
theorem blocksI_of (x v y : Int) (hv : IntKind.u64.wrap x = v) (hy : v % 5000 = y) : 0 ≤ y ∧ y ≤ 4999 ∧ 0 ≤ v ∧ v ≤ 18446744073709551615 ∧ IntKind.i64.wrap y = y := by
  rw [← hy, ← hv, IntKind.wrap_u64, IntKind.wrap_i64]; omega
set_option maxRecDepth 100000 in
set_option maxHeartbeats 4000000 in
theorem inodeNexts_walk (xb xs n : Int) (w : World) (_ : (Lit.int .i64 xb).wf = true) (_ : (Lit.int .i64 xs).wf = true) (hn : (Lit.int .u32 n).wf = true) :
    Calls Try.prog 8 #[.int .i64 xb, .int .i64 xs, .int .u32 n] w fun e w' => e = .returned (.bool true) ∧ Below w.heap.size w w' := by
  obtain ⟨nn, rfl, hn2⟩ := wfS_u32 hn
  obtain ⟨v, hv⟩ : ∃ v, IntKind.u64.wrap xs = v := ⟨_, rfl⟩
  obtain ⟨y, hy⟩ : ∃ y, v % 13 = y := ⟨_, rfl⟩
  obtain ⟨y0, y1, hv0, hv1, c1⟩ := sizeI_of xs v y hv hy
  obtain ⟨s, hs⟩ : ∃ s, 256 + 64 * y = s := ⟨_, rfl⟩
  obtain ⟨v2, hv2⟩ : ∃ v, IntKind.u64.wrap xb = v := ⟨_, rfl⟩
  obtain ⟨y2, hy2⟩ : ∃ y, v2 % 5000 = y := ⟨_, rfl⟩
  obtain ⟨y3, y4, hv3, hv4, c2⟩ := blocksI_of xb v2 y2 hv2 hy2
  obtain ⟨b, hb⟩ : ∃ b, 40 + y2 = b := ⟨_, rfl⟩
  have hl : LayIn b s := by unfold LayIn; omega
  have h1 := fun w => lay_any b s w hl
  have HL := Lib.hid laidI_any
  by_cases c : firstI b s + 8 ≤ b
  rotate_left
  · rw [if_neg c] at h1
    unfold layV at h1
    have H1 := Lib.hid h1
    clear h1 c hl
    go_enter Try.func8, Try.ntmps8
    go_wp2_with fail
    ((with_reducible refine (H1.out _).mono ?_))
    rintro e w1 ⟨rfl, hb1⟩
    have HB1 := Lib.hid hb1
    clear hb1
    obtain ⟨X1, hX1⟩ : ∃ x, x = w1.alloc (.cells #[.int .i64 0, .int .i64 0, .int .i64 0, .int .i64 0, .int .i64 0] 49) := ⟨_, rfl⟩
    obtain ⟨p1, hp1⟩ : ∃ x, x = w1.heap.size := ⟨_, rfl⟩
    have HH1 : Hid (X1.heap[p1]? = some (.cells #[.int .i64 0, .int .i64 0, .int .i64 0, .int .i64 0, .int .i64 0] 49 (0, 0))) := Lib.hid (by rw [hX1, hp1]; exact heap_alloc_new _ _)
    have HBX1 : Hid (Below w.heap.size w X1) := Lib.hid (by rw [hX1]; exact bel_alloc HB1.out _)
    go_wp2_with fail
    rw [← hX1, ← hp1]
    clear hX1 hp1
    ((with_reducible refine (HL.out _).mono ?_))
    rintro e w2 ⟨rfl, hb2⟩
    have HH2 := Lib.hid ((hb2.block p1 (Array.getElem?_eq_some_iff.1 HH1.out).1).trans HH1.out)
    have HB2 := Lib.hid (bel_trans HBX1.out hb2)
    clear hb2
    obtain ⟨z0, z1, z2, z3, z4⟩ := layV_box HH2.out
    go_wp2_with fail
    ((with_reducible refine (HL.out _).mono ?_))
    rintro e w3 ⟨rfl, hb3⟩
    have HB3 := Lib.hid (bel_trans HB2.out hb3)
    clear hb3
    go_wp2_with fail
    go_ret
    exact ⟨rfl, HB3.out⟩
  rw [if_pos c] at h1
  obtain ⟨k0, k1, -, -, -, -, -, -⟩ := lay_nums b s hl
  obtain ⟨b0, hb0⟩ : ∃ b0, bitsI b s = b0 := ⟨_, rfl⟩
  obtain ⟨b1, hb1⟩ : ∃ b1, bitsI b s * (s / 64) = b1 := ⟨_, rfl⟩
  obtain ⟨b2, hb2⟩ : ∃ b2, firstI b s = b2 := ⟨_, rfl⟩
  obtain ⟨m, hm⟩ : ∃ m, s / 64 = m := ⟨_, rfl⟩
  rw [hb1, hb0, hb2] at h1
  unfold layV at h1
  have H1 := Lib.hid h1
  have hsm : s = 64 * m := by omega
  obtain ⟨i, hi⟩ : ∃ i, (nn : Int) % 2000 = i := ⟨_, rfl⟩
  have i0 : 0 ≤ i := by omega
  have i1 : i ≤ 1999 := by omega
  rw [hm] at k0 k1
  have s0 : 256 ≤ s := by omega
  have s1 : s ≤ 1024 := by omega
  have n0 : (0 : Int) ≤ (nn : Int) := by omega
  have n1 : (nn : Int) ≤ 4294967295 := by omega
  have a1 : IntKind.u32.wrap (i + 1) = i + 1 := by rw [IntKind.wrap_u32]; omega
  have a2 : IntKind.u32.wrap (i + 2) = i + 2 := by rw [IntKind.wrap_u32]; omega
  clear h1 hb0 hb1 hb2 hl c hn2
  by_cases cA : i + 2 ≤ b1
  · obtain ⟨q, hq⟩ : ∃ q, i / m = q := ⟨_, rfl⟩
    obtain ⟨r, hr⟩ : ∃ r, i % m = r := ⟨_, rfl⟩
    have q0 := quo_bd i m q i0 (by omega) hq
    have r0 := rem_bd i m r (by omega) hr
    have HA := Lib.hid fun w => at_yes b1 b0 b2 b s m (i + 1) i q r w (by omega) (by omega) hm (by omega) (by omega) (by omega) (by omega) hq hr
    rcases divmod_succ i m q r (by omega) hq hr with ⟨d1, d2, d3⟩ | ⟨d1, d2, d3⟩
    · have HC := Lib.hid fun w => at_yes b1 b0 b2 b s m (i + 2) (i + 1) q (r + 1) w (by omega) (by omega) hm (by omega) (by omega) (by omega) (by omega) d2 d3
      have e1 : ((r + 1) * 64 == r * 64 + 64) = true := by simp; omega
      have u1 : IntKind.i64.wrap (r * 64 + 64) = r * 64 + 64 := wi64_id _ (by omega) (by omega)
      have r1 : 0 ≤ r := r0.1
      have r2 : r ≤ 16 := by omega
      clear d1 d2 d3 hq hr q0 r0 hm hsm cA
      go_enter Try.func8, Try.ntmps8
      go_wp2_with fail
      ((with_reducible refine (H1.out _).mono ?_))
      rintro e w1 ⟨rfl, hb1⟩
      have HB1 := Lib.hid hb1
      clear hb1
      obtain ⟨X1, hX1⟩ : ∃ x, x = w1.alloc (.cells #[.int .i64 b1, .int .i64 b0, .int .i64 b2, .int .i64 b, .int .i64 s] 49) := ⟨_, rfl⟩
      obtain ⟨p1, hp1⟩ : ∃ x, x = w1.heap.size := ⟨_, rfl⟩
      have HH1 : Hid (X1.heap[p1]? = some (.cells #[.int .i64 b1, .int .i64 b0, .int .i64 b2, .int .i64 b, .int .i64 s] 49 (0, 0))) := Lib.hid (by rw [hX1, hp1]; exact heap_alloc_new _ _)
      have HBX1 : Hid (Below w.heap.size w X1) := Lib.hid (by rw [hX1]; exact bel_alloc HB1.out _)
      go_wp2_with fail
      rw [← hX1, ← hp1]
      clear hX1 hp1
      ((with_reducible refine (HL.out _).mono ?_))
      rintro e w2 ⟨rfl, hb2⟩
      have HH2 := Lib.hid ((hb2.block p1 (Array.getElem?_eq_some_iff.1 HH1.out).1).trans HH1.out)
      have HB2 := Lib.hid (bel_trans HBX1.out hb2)
      clear hb2
      obtain ⟨z0, z1, z2, z3, z4⟩ := layV_box HH2.out
      go_wp2_with fail
      ((with_reducible refine (HA.out _).mono ?_))
      rintro e w3 ⟨rfl, hb3⟩
      obtain ⟨y0, y1, y2, y3, y4⟩ := layV_box ((hb3.block p1 (Array.getElem?_eq_some_iff.1 HH2.out).1).trans HH2.out)
      have HB3 := Lib.hid (bel_trans HB2.out hb3)
      clear hb3 z0 z1 z2 z3 z4
      go_wp2_with fail
      ((with_reducible refine (HC.out _).mono ?_))
      rintro e w4 ⟨rfl, hb4⟩
      have HB4 := Lib.hid (bel_trans HB3.out hb4)
      clear hb4
      go_wp2_with fail
      go_ret
      exact ⟨rfl, HB4.out⟩
    · have HC := Lib.hid fun w => at_yes b1 b0 b2 b s m (i + 2) (i + 1) (q + 1) 0 w (by omega) (by omega) hm (by omega) (by omega) (by omega) (by omega) d2 d3
      have e0 : (q + 1 == q) = false := by simp; omega
      have e2 : (q + 1 == q + 1) = true := by simp
      have e1 : (r * 64 == s - 64) = true := by simp; omega
      have u1 : IntKind.i64.wrap (q + 1) = q + 1 := wi64_id _ (by omega) (by omega)
      have q1 : 0 ≤ q := q0.1
      have q2 : q ≤ 1999 := by omega
      clear d1 d2 d3 hq hr q0 r0 hm hsm cA
      go_enter Try.func8, Try.ntmps8
      go_wp2_with fail
      ((with_reducible refine (H1.out _).mono ?_))
      rintro e w1 ⟨rfl, hb1⟩
      have HB1 := Lib.hid hb1
      clear hb1
      obtain ⟨X1, hX1⟩ : ∃ x, x = w1.alloc (.cells #[.int .i64 b1, .int .i64 b0, .int .i64 b2, .int .i64 b, .int .i64 s] 49) := ⟨_, rfl⟩
      obtain ⟨p1, hp1⟩ : ∃ x, x = w1.heap.size := ⟨_, rfl⟩
      have HH1 : Hid (X1.heap[p1]? = some (.cells #[.int .i64 b1, .int .i64 b0, .int .i64 b2, .int .i64 b, .int .i64 s] 49 (0, 0))) := Lib.hid (by rw [hX1, hp1]; exact heap_alloc_new _ _)
      have HBX1 : Hid (Below w.heap.size w X1) := Lib.hid (by rw [hX1]; exact bel_alloc HB1.out _)
      go_wp2_with fail
      rw [← hX1, ← hp1]
      clear hX1 hp1
      ((with_reducible refine (HL.out _).mono ?_))
      rintro e w2 ⟨rfl, hb2⟩
      have HH2 := Lib.hid ((hb2.block p1 (Array.getElem?_eq_some_iff.1 HH1.out).1).trans HH1.out)
      have HB2 := Lib.hid (bel_trans HBX1.out hb2)
      clear hb2
      obtain ⟨z0, z1, z2, z3, z4⟩ := layV_box HH2.out
      go_wp2_with fail
      ((with_reducible refine (HA.out _).mono ?_))
      rintro e w3 ⟨rfl, hb3⟩
      obtain ⟨y0, y1, y2, y3, y4⟩ := layV_box ((hb3.block p1 (Array.getElem?_eq_some_iff.1 HH2.out).1).trans HH2.out)
      have HB3 := Lib.hid (bel_trans HB2.out hb3)
      clear hb3 z0 z1 z2 z3 z4
      go_wp2_with fail
      ((with_reducible refine (HC.out _).mono ?_))
      rintro e w4 ⟨rfl, hb4⟩
      have HB4 := Lib.hid (bel_trans HB3.out hb4)
      clear hb4
      go_wp2_with fail
      go_ret
      exact ⟨rfl, HB4.out⟩
  by_cases cB : i + 1 ≤ b1
  · have HA := Lib.hid fun w => at_yes b1 b0 b2 b s m (i + 1) i (i / m) (i % m) w (by omega) (by omega) hm (by omega) (by omega) (by omega) (by omega) rfl rfl
    have HC := Lib.hid fun w => at_no b1 b0 b2 b s m (i + 2) w (by omega) (by omega) hm (by omega) (by omega) (.inr (by omega))
    clear hm hsm cA cB
    go_enter Try.func8, Try.ntmps8
    go_wp2_with fail
    ((with_reducible refine (H1.out _).mono ?_))
    rintro e w1 ⟨rfl, hb1⟩
    have HB1 := Lib.hid hb1
    clear hb1
    obtain ⟨X1, hX1⟩ : ∃ x, x = w1.alloc (.cells #[.int .i64 b1, .int .i64 b0, .int .i64 b2, .int .i64 b, .int .i64 s] 49) := ⟨_, rfl⟩
    obtain ⟨p1, hp1⟩ : ∃ x, x = w1.heap.size := ⟨_, rfl⟩
    have HH1 : Hid (X1.heap[p1]? = some (.cells #[.int .i64 b1, .int .i64 b0, .int .i64 b2, .int .i64 b, .int .i64 s] 49 (0, 0))) := Lib.hid (by rw [hX1, hp1]; exact heap_alloc_new _ _)
    have HBX1 : Hid (Below w.heap.size w X1) := Lib.hid (by rw [hX1]; exact bel_alloc HB1.out _)
    go_wp2_with fail
    rw [← hX1, ← hp1]
    clear hX1 hp1
    ((with_reducible refine (HL.out _).mono ?_))
    rintro e w2 ⟨rfl, hb2⟩
    have HH2 := Lib.hid ((hb2.block p1 (Array.getElem?_eq_some_iff.1 HH1.out).1).trans HH1.out)
    have HB2 := Lib.hid (bel_trans HBX1.out hb2)
    clear hb2
    obtain ⟨z0, z1, z2, z3, z4⟩ := layV_box HH2.out
    go_wp2_with fail
    ((with_reducible refine (HA.out _).mono ?_))
    rintro e w3 ⟨rfl, hb3⟩
    obtain ⟨y0, y1, y2, y3, y4⟩ := layV_box ((hb3.block p1 (Array.getElem?_eq_some_iff.1 HH2.out).1).trans HH2.out)
    have HB3 := Lib.hid (bel_trans HB2.out hb3)
    clear hb3 z0 z1 z2 z3 z4
    go_wp2_with fail
    ((with_reducible refine (HC.out _).mono ?_))
    rintro e w4 ⟨rfl, hb4⟩
    have HB4 := Lib.hid (bel_trans HB3.out hb4)
    clear hb4
    go_wp2_with fail
    go_ret
    exact ⟨rfl, HB4.out⟩
  · have HA := Lib.hid fun w => at_no b1 b0 b2 b s m (i + 1) w (by omega) (by omega) hm (by omega) (by omega) (.inr (by omega))
    have HC := Lib.hid fun w => at_no b1 b0 b2 b s m (i + 2) w (by omega) (by omega) hm (by omega) (by omega) (.inr (by omega))
    clear hm hsm cA cB
    go_enter Try.func8, Try.ntmps8
    go_wp2_with fail
    ((with_reducible refine (H1.out _).mono ?_))
    rintro e w1 ⟨rfl, hb1⟩
    have HB1 := Lib.hid hb1
    clear hb1
    obtain ⟨X1, hX1⟩ : ∃ x, x = w1.alloc (.cells #[.int .i64 b1, .int .i64 b0, .int .i64 b2, .int .i64 b, .int .i64 s] 49) := ⟨_, rfl⟩
    obtain ⟨p1, hp1⟩ : ∃ x, x = w1.heap.size := ⟨_, rfl⟩
    have HH1 : Hid (X1.heap[p1]? = some (.cells #[.int .i64 b1, .int .i64 b0, .int .i64 b2, .int .i64 b, .int .i64 s] 49 (0, 0))) := Lib.hid (by rw [hX1, hp1]; exact heap_alloc_new _ _)
    have HBX1 : Hid (Below w.heap.size w X1) := Lib.hid (by rw [hX1]; exact bel_alloc HB1.out _)
    go_wp2_with fail
    rw [← hX1, ← hp1]
    clear hX1 hp1
    ((with_reducible refine (HL.out _).mono ?_))
    rintro e w2 ⟨rfl, hb2⟩
    have HH2 := Lib.hid ((hb2.block p1 (Array.getElem?_eq_some_iff.1 HH1.out).1).trans HH1.out)
    have HB2 := Lib.hid (bel_trans HBX1.out hb2)
    clear hb2
    obtain ⟨z0, z1, z2, z3, z4⟩ := layV_box HH2.out
    go_wp2_with fail
    ((with_reducible refine (HA.out _).mono ?_))
    rintro e w3 ⟨rfl, hb3⟩
    obtain ⟨y0, y1, y2, y3, y4⟩ := layV_box ((hb3.block p1 (Array.getElem?_eq_some_iff.1 HH2.out).1).trans HH2.out)
    have HB3 := Lib.hid (bel_trans HB2.out hb3)
    clear hb3 z0 z1 z2 z3 z4
    go_wp2_with fail
    ((with_reducible refine (HC.out _).mono ?_))
    rintro e w4 ⟨rfl, hb4⟩
    have HB4 := Lib.hid (bel_trans HB3.out hb4)
    clear hb4
    go_wp2_with fail
    go_ret
    exact ⟨rfl, HB4.out⟩
end Go.Proofs.Ytnnaijeapapehaa
