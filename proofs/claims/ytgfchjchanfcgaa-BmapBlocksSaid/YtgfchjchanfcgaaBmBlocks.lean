/- BmapBlocks: the walk. -/
import Derived.Test.YtgfchjchanfcgaaBmFind
namespace Go.Proofs.Ytgfchjchanfcgaa
open Go.RowKit

set_option maxHeartbeats 800000 in
theorem blocks_none (n s : Int) (w : World) (h : n < 1 ∨ s < 1) : Calls Try.prog 17 #[.int .i64 n, .int .i64 s] w fun e w' => e = .returned (.int .i64 0) ∧ w' = w := by
  by_cases h1 : n < 1
  · have t1 : decide (n < 1) = true := by simpa using h1
    clear h
    go_enter Try.func17, Try.ntmps17
    go_wp2
    go_ret
    exact ⟨rfl, rfl⟩
  · have t1 : decide (n < 1) = false := by simpa using h1
    have t2 : decide (s < 1) = true := by simp; omega
    clear h
    go_enter Try.func17, Try.ntmps17
    go_wp2
    go_ret
    exact ⟨rfl, rfl⟩
set_option maxHeartbeats 800000 in
theorem blocks_some (n s q : Int) (w : World) (h1 : 1 ≤ n) (h2 : 1 ≤ s) (h3 : n ≤ 9223372036854775807) (hq : (n - 1) / s = q) : Calls Try.prog 17 #[.int .i64 n, .int .i64 s] w fun e w' => e = .returned (.int .i64 (q + 1)) ∧ w' = w := by
  have t1 : decide (n < 1) = false := by simp; omega
  have t2 : decide (s < 1) = false := by simp; omega
  have nz : s ≠ 0 := by omega
  have u3 : IntKind.i64.wrap ((n - 1).tdiv s) = q := by rw [IntWalk.i64_quo _ _ ⟨by omega, by omega, h2⟩]; exact hq
  have q0 : 0 ≤ q := by rw [← hq]; exact Int.ediv_nonneg (by omega) (by omega)
  have q1 : q ≤ n - 1 := by rw [← hq]; exact Int.ediv_le_self _ (by omega)
  clear hq
  go_enter Try.func17, Try.ntmps17
  go_wp2
  go_ret
  exact ⟨rfl, rfl⟩
theorem blocks_facts (n s q : Int) (h1 : 1 ≤ n) (h2 : 1 ≤ s) (hq : (n - 1) / s = q) : 0 ≤ q ∧ q ≤ n - 1 ∧ q * s < n ∧ n ≤ (q + 1) * s := by
  have a := Int.ediv_nonneg (a := n - 1) (b := s) (by omega) (by omega)
  have b := Int.ediv_le_self (a := n - 1) s (by omega)
  have c := Int.emod_add_mul_ediv (n - 1) s
  have d := Int.emod_nonneg (n - 1) (b := s) (by omega)
  have e := Int.emod_lt_of_pos (n - 1) (b := s) (by omega)
  rw [hq] at a b c
  rw [Int.mul_comm] at c
  have g : (q + 1) * s = q * s + s := by rw [Int.add_mul, Int.one_mul]
  omega
set_option maxRecDepth 100000 in
set_option maxHeartbeats 1600000 in
theorem bmapBlocks_walk (n s : Int) (w : World) (hn : (Lit.int .i64 n).wf = true) (hs : (Lit.int .i64 s).wf = true) :
    Calls Try.prog 5 #[.int .i64 n, .int .i64 s] w fun e w' => e = .returned (.bool true) ∧ Below w.heap.size w w' := by
  have hm : IntKind.i64.min = -9223372036854775808 := by decide
  have hM : IntKind.i64.max = 9223372036854775807 := by decide
  simp [Lit.wf, hm, hM] at hn hs
  clear hm hM
  have HF := Lib.hid found_any
  by_cases h : n < 1 ∨ s < 1
  · have HB := Lib.hid fun x : World => blocks_none n s x h
    by_cases h1 : n < 1
    all_goals
      first
        | have t1 : decide (n < 1) = true := by simpa using h1
        | (have t1 : decide (n < 1) = false := by simpa using h1
           have t2 : decide (s < 1) = true := by simp; omega)
      clear h h1
      go_enter Try.func5, Try.ntmps5
      go_wp2_with fail
      ((with_reducible refine (HB.out _).mono ?_))
      rintro e w1 ⟨rfl, rfl⟩
      go_wp2_with fail
      ((with_reducible refine (HF.out _).mono ?_))
      rintro e w2 ⟨rfl, hb⟩
      have HB2 := Lib.hid hb
      clear hb
      go_wp2_with fail
      go_ret
      exact ⟨rfl, HB2.out⟩
  · have h1 : 1 ≤ n := by omega
    have h2 : 1 ≤ s := by omega
    obtain ⟨q, hq⟩ : ∃ q, (n - 1) / s = q := ⟨_, rfl⟩
    have HB := Lib.hid fun x : World => blocks_some n s q x h1 h2 hn.2 hq
    obtain ⟨q0, q1, p0, p1⟩ := blocks_facts n s q h1 h2 hq
    have t1 : decide (n < 1) = false := by simp; omega
    have t2 : decide (s < 1) = false := by simp; omega
    have nz : s ≠ 0 := by omega
    have t3 : decide (1 ≤ q + 1) = true := by simp; omega
    have u3 : IntKind.i64.wrap ((n - 1).tdiv s) = q := by rw [IntWalk.i64_quo _ _ ⟨by omega, by omega, h2⟩]; exact hq
    have u4 : IntKind.i64.wrap (q + 1 - 1) = q := by rw [IntKind.wrap_i64]; omega
    have t4 : decide (q ≤ q) = true := by simp
    clear h hq
    by_cases c1 : 2147483648 < q + 1
    · have k1 : decide (2147483648 < q + 1) = true := by simpa using c1
      clear p0 p1
      go_enter Try.func5, Try.ntmps5
      go_wp2_with fail
      ((with_reducible refine (HB.out _).mono ?_))
      rintro e w1 ⟨rfl, rfl⟩
      go_wp2_with fail
      ((with_reducible refine (HF.out _).mono ?_))
      rintro e w2 ⟨rfl, hb⟩
      have HB2 := Lib.hid hb
      clear hb
      go_wp2_with fail
      go_ret
      exact ⟨rfl, HB2.out⟩
    have k1 : decide (2147483648 < q + 1) = false := by simp; omega
    by_cases c2 : 1099511627776 < n
    · have k2 : decide (1099511627776 < n) = true := by simpa using c2
      clear p0 p1
      go_enter Try.func5, Try.ntmps5
      go_wp2_with fail
      ((with_reducible refine (HB.out _).mono ?_))
      rintro e w1 ⟨rfl, rfl⟩
      go_wp2_with fail
      ((with_reducible refine (HF.out _).mono ?_))
      rintro e w2 ⟨rfl, hb⟩
      have HB2 := Lib.hid hb
      clear hb
      go_wp2_with fail
      go_ret
      exact ⟨rfl, HB2.out⟩
    have k2 : decide (1099511627776 < n) = false := by simp; omega
    by_cases c3 : 1048576 < s
    · have k3 : decide (1048576 < s) = true := by simpa using c3
      clear p0 p1
      go_enter Try.func5, Try.ntmps5
      go_wp2_with fail
      ((with_reducible refine (HB.out _).mono ?_))
      rintro e w1 ⟨rfl, rfl⟩
      go_wp2_with fail
      ((with_reducible refine (HF.out _).mono ?_))
      rintro e w2 ⟨rfl, hb⟩
      have HB2 := Lib.hid hb
      clear hb
      go_wp2_with fail
      go_ret
      exact ⟨rfl, HB2.out⟩
    have k3 : decide (1048576 < s) = false := by simp; omega
    have m1 : q * s ≤ 2147483648 * 1048576 := Int.mul_le_mul (by omega) (by omega) (by omega) (by omega)
    have m2 : 0 ≤ q * s := Int.mul_nonneg (by omega) (by omega)
    have g : (q + 1) * s = q * s + s := by rw [Int.add_mul, Int.one_mul]
    have u5 : IntKind.i64.wrap (q * s) = q * s := by rw [IntKind.wrap_i64]; omega
    have u6 : IntKind.i64.wrap ((q + 1) * s) = (q + 1) * s := by rw [IntKind.wrap_i64]; omega
    have k4 : decide (q * s < n) = true := by simpa using p0
    have k5 : decide (n ≤ (q + 1) * s) = true := by simpa using p1
    clear m1 m2 g p0 p1
    go_enter Try.func5, Try.ntmps5
    go_wp2_with fail
    ((with_reducible refine (HB.out _).mono ?_))
    rintro e w1 ⟨rfl, rfl⟩
    go_wp2_with fail
    ((with_reducible refine (HF.out _).mono ?_))
    rintro e w2 ⟨rfl, hb⟩
    have HB2 := Lib.hid hb
    clear hb
    go_wp2_with fail
    go_ret
    exact ⟨rfl, HB2.out⟩
end Go.Proofs.Ytgfchjchanfcgaa
