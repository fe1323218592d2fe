/- The document's Lay. -/
import Derived.Test.YtnnaijeapapehaaInLay
namespace Go.Proofs.Ytnnaijeapapehaa
open Go.RowKit

set_option maxRecDepth 100000 in
set_option maxHeartbeats 1600000 in
theorem refLay_bad (b s : Int) (w : World) (h : ¬ LayIn b s) :
    Calls Try.prog 18 #[.int .i64 b, .int .i64 s] w fun e w' => e = .returned (.tuple #[layV 0 0 0 0 0, .int .i64 34]) ∧ Below w.heap.size w w' := by
  unfold LayIn at h
  by_cases c1 : b < 1
  · have t1 : decide (b < 1) = true := by simpa using c1
    clear h
    go_enter Try.func18, Try.ntmps18
    go_wp2
    exact bodyPost_ret (v := .tuple #[layV 0 0 0 0 0, .int .i64 34]) (by simp [results, Try.results18, go_sem, layV]) rfl ⟨rfl, bel_alloc (Below.refl _ _) _⟩
  have t1 : decide (b < 1) = false := by simpa using c1
  by_cases c2 : 1048576 < b
  · have t2 : decide (1048576 < b) = true := by simpa using c2
    clear h
    go_enter Try.func18, Try.ntmps18
    go_wp2
    exact bodyPost_ret (v := .tuple #[layV 0 0 0 0 0, .int .i64 34]) (by simp [results, Try.results18, go_sem, layV]) rfl ⟨rfl, bel_alloc (Below.refl _ _) _⟩
  have t2 : decide (1048576 < b) = false := by simpa using c2
  by_cases c3 : s < 256
  · have t3 : decide (s < 256) = true := by simpa using c3
    clear h
    go_enter Try.func18, Try.ntmps18
    go_wp2
    exact bodyPost_ret (v := .tuple #[layV 0 0 0 0 0, .int .i64 34]) (by simp [results, Try.results18, go_sem, layV]) rfl ⟨rfl, bel_alloc (Below.refl _ _) _⟩
  have t3 : decide (s < 256) = false := by simpa using c3
  by_cases c4 : 1024 < s
  · have t4 : decide (1024 < s) = true := by simpa using c4
    clear h
    go_enter Try.func18, Try.ntmps18
    go_wp2
    exact bodyPost_ret (v := .tuple #[layV 0 0 0 0 0, .int .i64 34]) (by simp [results, Try.results18, go_sem, layV]) rfl ⟨rfl, bel_alloc (Below.refl _ _) _⟩
  have t4 : decide (1024 < s) = false := by simpa using c4
  have t5 : (s % 64 != 0) = true := by simp; omega
  have s0 : 0 ≤ s := by omega
  clear h
  go_enter Try.func18, Try.ntmps18
  go_wp2
  exact bodyPost_ret (v := .tuple #[layV 0 0 0 0 0, .int .i64 34]) (by simp [results, Try.results18, go_sem, layV]) rfl ⟨rfl, bel_alloc (Below.refl _ _) _⟩
theorem tquo (n m k : Int) (h0 : 0 ≤ n) (h1 : n ≤ 10000000) (h2 : 1 ≤ m) (hk : n / m = k) : IntKind.i64.wrap (n.tdiv m) = k := by
  rw [IntWalk.i64_quo _ _ ⟨by omega, by omega, h2⟩]; exact hk
theorem trem (n m r : Int) (h0 : 0 ≤ n) (hr : n % m = r) : n.tmod m = r := by rw [Int.tmod_eq_emod_of_nonneg h0]; exact hr
theorem quo_bd (n m k : Int) (h0 : 0 ≤ n) (h2 : 1 ≤ m) (hk : n / m = k) : 0 ≤ k ∧ k ≤ n := by
  rw [← hk]; exact ⟨Int.ediv_nonneg h0 (by omega), Int.ediv_le_self _ h0⟩
theorem rem_bd (n m r : Int) (h2 : 1 ≤ m) (hr : n % m = r) : 0 ≤ r ∧ r < m := by
  rw [← hr]; exact ⟨Int.emod_nonneg _ (by omega), Int.emod_lt_of_pos _ (by omega)⟩
set_option maxRecDepth 100000 in
set_option maxHeartbeats 4000000 in
theorem refLay_any (b s : Int) (w : World) (h : LayIn b s) :
    Calls Try.prog 18 #[.int .i64 b, .int .i64 s] w fun e w' => e = .returned (if firstI b s + 8 ≤ b then .tuple #[layV (bitsI b s * (s / 64)) (bitsI b s) (firstI b s) b s, .int .i64 0] else .tuple #[layV 0 0 0 0 0, .int .i64 28]) ∧ Below w.heap.size w w' := by
  obtain ⟨m0, m1, n0, n1, k0, k1, q0, q1⟩ := lay_nums b s h
  obtain ⟨h1, h2, h3, h4, h5⟩ := h
  obtain ⟨m, hm⟩ : ∃ m, s / 64 = m := ⟨_, rfl⟩
  obtain ⟨n, hn⟩ : ∃ n, nodeI b = n := ⟨_, rfl⟩
  obtain ⟨k, hk⟩ : ∃ k, bitsI b s = k := ⟨_, rfl⟩
  obtain ⟨q, hq⟩ : ∃ q, ceilI b (8 * s) = q := ⟨_, rfl⟩
  have hf : firstI b s = k + q := by unfold firstI; rw [hk, hq]
  have hk' : ceilI n m = k := by rw [← hk, ← hm, ← hn]; rfl
  rw [hf, hk, hm]
  rw [hm] at m0 m1
  rw [hn] at n0 n1
  rw [hk] at k0 k1
  rw [hq] at q0 q1
  have hks := ceil_split n m (by omega)
  have hqs := ceil_split b (8 * s) (by omega)
  rw [hk'] at hks
  rw [hq] at hqs
  obtain ⟨kq, hkq⟩ : ∃ x, n / m = x := ⟨_, rfl⟩
  obtain ⟨kr, hkr⟩ : ∃ x, n % m = x := ⟨_, rfl⟩
  obtain ⟨bq, hbq⟩ : ∃ x, b / (8 * s) = x := ⟨_, rfl⟩
  obtain ⟨br, hbr⟩ : ∃ x, b % (8 * s) = x := ⟨_, rfl⟩
  rw [hkq, hkr] at hks
  rw [hbq, hbr] at hqs
  have km : k * m ≤ 262144 * 16 := Int.mul_le_mul k1 m1 (by omega) (by omega)
  have km0 : 0 ≤ k * m := Int.mul_nonneg (by omega) (by omega)
  have t1 : decide (b < 1) = false := by simp; omega
  have t2 : decide (1048576 < b) = false := by simp; omega
  have t3 : decide (s < 256) = false := by simp; omega
  have t4 : decide (1024 < s) = false := by simp; omega
  have t5 : (s % 64 != 0) = false := by simp; omega
  have u1 := tquo s 64 m (by omega) (by omega) (by omega) hm
  have u2 : IntKind.i64.wrap (k * m) = k * m := by rw [IntKind.wrap_i64]; omega
  have u3 := tquo n m kq (by omega) (by omega) (by omega) hkq
  have u4 := trem n m kr (by omega) hkr
  have u5 := tquo b (8 * s) bq (by omega) (by omega) (by omega) hbq
  have u6 := trem b (8 * s) br (by omega) hbr
  have b1 := quo_bd n m kq (by omega) (by omega) hkq
  have b2 := quo_bd b (8 * s) bq (by omega) (by omega) hbq
  have nz1 : m ≠ 0 := by omega
  have nz2 : 8 * s ≠ 0 := by omega
  have nz3 : s ≠ 0 := by omega
  have hn' := hn
  unfold nodeI at hn'
  have HT : Hid (∃ v, v = (if k + q + 8 ≤ b then Value.tuple #[layV (k * m) k (k + q) b s, .int .i64 0] else .tuple #[layV 0 0 0 0 0, .int .i64 28])) := Lib.hid ⟨_, rfl⟩
  clear hf hk hk' hq hkq hkr hbq hbr hn HT
  by_cases c1 : b / 4 < 16
  · rw [if_pos c1] at hn'
    subst hn'
    have t6 : decide (b / 4 < 16) = true := by simpa using c1
    clear c1
    by_cases c2 : 0 < kr
    · rw [if_pos c2] at hks
      have t7 : decide (0 < kr) = true := by simpa using c2
      have e7 : kq + 1 = k := hks.symm
      clear hks c2
      by_cases c3 : 0 < br
      · rw [if_pos c3] at hqs
        have t8 : decide (0 < br) = true := by simpa using c3
        have e8 : bq + 1 = q := hqs.symm
        clear hqs c3
        by_cases c : k + q + 8 ≤ b
        · rw [if_pos c]
          have t9 : decide (b - 8 < k + q) = false := by simp; omega
          clear c km km0
          go_enter Try.func18, Try.ntmps18
          go_wp2
          exact bodyPost_ret (v := .tuple #[layV (k * m) k (k + q) b s, .int .i64 0]) (by simp [results, Try.results18, go_sem, layV]) rfl ⟨rfl, bel_alloc (bel_alloc (Below.refl _ _) _) _⟩
        · rw [if_neg c]
          have t9 : decide (b - 8 < k + q) = true := by simp; omega
          clear c km km0
          go_enter Try.func18, Try.ntmps18
          go_wp2
          exact bodyPost_ret (v := .tuple #[layV 0 0 0 0 0, .int .i64 28]) (by simp [results, Try.results18, go_sem, layV]) rfl ⟨rfl, bel_alloc (bel_alloc (Below.refl _ _) _) _⟩
      · rw [if_neg c3, Int.add_zero] at hqs
        have t8 : decide (0 < br) = false := by simpa using c3
        subst hqs
        clear c3
        by_cases c : k + q + 8 ≤ b
        · rw [if_pos c]
          have t9 : decide (b - 8 < k + q) = false := by simp; omega
          clear c km km0
          go_enter Try.func18, Try.ntmps18
          go_wp2
          exact bodyPost_ret (v := .tuple #[layV (k * m) k (k + q) b s, .int .i64 0]) (by simp [results, Try.results18, go_sem, layV]) rfl ⟨rfl, bel_alloc (bel_alloc (Below.refl _ _) _) _⟩
        · rw [if_neg c]
          have t9 : decide (b - 8 < k + q) = true := by simp; omega
          clear c km km0
          go_enter Try.func18, Try.ntmps18
          go_wp2
          exact bodyPost_ret (v := .tuple #[layV 0 0 0 0 0, .int .i64 28]) (by simp [results, Try.results18, go_sem, layV]) rfl ⟨rfl, bel_alloc (bel_alloc (Below.refl _ _) _) _⟩
    · rw [if_neg c2, Int.add_zero] at hks
      have t7 : decide (0 < kr) = false := by simpa using c2
      subst hks
      clear c2
      by_cases c3 : 0 < br
      · rw [if_pos c3] at hqs
        have t8 : decide (0 < br) = true := by simpa using c3
        have e8 : bq + 1 = q := hqs.symm
        clear hqs c3
        by_cases c : k + q + 8 ≤ b
        · rw [if_pos c]
          have t9 : decide (b - 8 < k + q) = false := by simp; omega
          clear c km km0
          go_enter Try.func18, Try.ntmps18
          go_wp2
          exact bodyPost_ret (v := .tuple #[layV (k * m) k (k + q) b s, .int .i64 0]) (by simp [results, Try.results18, go_sem, layV]) rfl ⟨rfl, bel_alloc (bel_alloc (Below.refl _ _) _) _⟩
        · rw [if_neg c]
          have t9 : decide (b - 8 < k + q) = true := by simp; omega
          clear c km km0
          go_enter Try.func18, Try.ntmps18
          go_wp2
          exact bodyPost_ret (v := .tuple #[layV 0 0 0 0 0, .int .i64 28]) (by simp [results, Try.results18, go_sem, layV]) rfl ⟨rfl, bel_alloc (bel_alloc (Below.refl _ _) _) _⟩
      · rw [if_neg c3, Int.add_zero] at hqs
        have t8 : decide (0 < br) = false := by simpa using c3
        subst hqs
        clear c3
        by_cases c : k + q + 8 ≤ b
        · rw [if_pos c]
          have t9 : decide (b - 8 < k + q) = false := by simp; omega
          clear c km km0
          go_enter Try.func18, Try.ntmps18
          go_wp2
          exact bodyPost_ret (v := .tuple #[layV (k * m) k (k + q) b s, .int .i64 0]) (by simp [results, Try.results18, go_sem, layV]) rfl ⟨rfl, bel_alloc (bel_alloc (Below.refl _ _) _) _⟩
        · rw [if_neg c]
          have t9 : decide (b - 8 < k + q) = true := by simp; omega
          clear c km km0
          go_enter Try.func18, Try.ntmps18
          go_wp2
          exact bodyPost_ret (v := .tuple #[layV 0 0 0 0 0, .int .i64 28]) (by simp [results, Try.results18, go_sem, layV]) rfl ⟨rfl, bel_alloc (bel_alloc (Below.refl _ _) _) _⟩
  · rw [if_neg c1] at hn'
    have t6 : decide (n < 16) = false := by simp; omega
    clear c1
    by_cases c2 : 0 < kr
    · rw [if_pos c2] at hks
      have t7 : decide (0 < kr) = true := by simpa using c2
      have e7 : kq + 1 = k := hks.symm
      clear hks c2
      by_cases c3 : 0 < br
      · rw [if_pos c3] at hqs
        have t8 : decide (0 < br) = true := by simpa using c3
        have e8 : bq + 1 = q := hqs.symm
        clear hqs c3
        by_cases c : k + q + 8 ≤ b
        · rw [if_pos c]
          have t9 : decide (b - 8 < k + q) = false := by simp; omega
          clear c km km0
          go_enter Try.func18, Try.ntmps18
          go_wp2
          exact bodyPost_ret (v := .tuple #[layV (k * m) k (k + q) b s, .int .i64 0]) (by simp [results, Try.results18, go_sem, layV]) rfl ⟨rfl, bel_alloc (bel_alloc (Below.refl _ _) _) _⟩
        · rw [if_neg c]
          have t9 : decide (b - 8 < k + q) = true := by simp; omega
          clear c km km0
          go_enter Try.func18, Try.ntmps18
          go_wp2
          exact bodyPost_ret (v := .tuple #[layV 0 0 0 0 0, .int .i64 28]) (by simp [results, Try.results18, go_sem, layV]) rfl ⟨rfl, bel_alloc (bel_alloc (Below.refl _ _) _) _⟩
      · rw [if_neg c3, Int.add_zero] at hqs
        have t8 : decide (0 < br) = false := by simpa using c3
        subst hqs
        clear c3
        by_cases c : k + q + 8 ≤ b
        · rw [if_pos c]
          have t9 : decide (b - 8 < k + q) = false := by simp; omega
          clear c km km0
          go_enter Try.func18, Try.ntmps18
          go_wp2
          exact bodyPost_ret (v := .tuple #[layV (k * m) k (k + q) b s, .int .i64 0]) (by simp [results, Try.results18, go_sem, layV]) rfl ⟨rfl, bel_alloc (bel_alloc (Below.refl _ _) _) _⟩
        · rw [if_neg c]
          have t9 : decide (b - 8 < k + q) = true := by simp; omega
          clear c km km0
          go_enter Try.func18, Try.ntmps18
          go_wp2
          exact bodyPost_ret (v := .tuple #[layV 0 0 0 0 0, .int .i64 28]) (by simp [results, Try.results18, go_sem, layV]) rfl ⟨rfl, bel_alloc (bel_alloc (Below.refl _ _) _) _⟩
    · rw [if_neg c2, Int.add_zero] at hks
      have t7 : decide (0 < kr) = false := by simpa using c2
      subst hks
      clear c2
      by_cases c3 : 0 < br
      · rw [if_pos c3] at hqs
        have t8 : decide (0 < br) = true := by simpa using c3
        have e8 : bq + 1 = q := hqs.symm
        clear hqs c3
        by_cases c : k + q + 8 ≤ b
        · rw [if_pos c]
          have t9 : decide (b - 8 < k + q) = false := by simp; omega
          clear c km km0
          go_enter Try.func18, Try.ntmps18
          go_wp2
          exact bodyPost_ret (v := .tuple #[layV (k * m) k (k + q) b s, .int .i64 0]) (by simp [results, Try.results18, go_sem, layV]) rfl ⟨rfl, bel_alloc (bel_alloc (Below.refl _ _) _) _⟩
        · rw [if_neg c]
          have t9 : decide (b - 8 < k + q) = true := by simp; omega
          clear c km km0
          go_enter Try.func18, Try.ntmps18
          go_wp2
          exact bodyPost_ret (v := .tuple #[layV 0 0 0 0 0, .int .i64 28]) (by simp [results, Try.results18, go_sem, layV]) rfl ⟨rfl, bel_alloc (bel_alloc (Below.refl _ _) _) _⟩
      · rw [if_neg c3, Int.add_zero] at hqs
        have t8 : decide (0 < br) = false := by simpa using c3
        subst hqs
        clear c3
        by_cases c : k + q + 8 ≤ b
        · rw [if_pos c]
          have t9 : decide (b - 8 < k + q) = false := by simp; omega
          clear c km km0
          go_enter Try.func18, Try.ntmps18
          go_wp2
          exact bodyPost_ret (v := .tuple #[layV (k * m) k (k + q) b s, .int .i64 0]) (by simp [results, Try.results18, go_sem, layV]) rfl ⟨rfl, bel_alloc (bel_alloc (Below.refl _ _) _) _⟩
        · rw [if_neg c]
          have t9 : decide (b - 8 < k + q) = true := by simp; omega
          clear c km km0
          go_enter Try.func18, Try.ntmps18
          go_wp2
          exact bodyPost_ret (v := .tuple #[layV 0 0 0 0 0, .int .i64 28]) (by simp [results, Try.results18, go_sem, layV]) rfl ⟨rfl, bel_alloc (bel_alloc (Below.refl _ _) _) _⟩
end Go.Proofs.Ytnnaijeapapehaa
