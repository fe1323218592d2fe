/- nand: what a nil array answers; New of a shape that is none, or with too much to come. -/
import Derived.Test.YtbfmpcomjmcfjaaNBegun
namespace Go.Proofs.Ytbfmpcomjmcfjaa
open Go.RowKit Go.Deep

set_option maxHeartbeats 400000 in
theorem boot_nil (w : World) : Calls Try.prog 34 #[.pointer none] w fun e w' => e = .returned (.tuple #[]) ∧ w = w' := by
  go_enter Try.func34, Try.ntmps34
  go_wp2
  go_end0
  exact ⟨rfl, rfl⟩
set_option maxHeartbeats 400000 in
theorem kill_nil (c : Int) (w : World) : Calls Try.prog 35 #[.pointer none, .int .i64 c] w fun e w' => e = .returned (.tuple #[]) ∧ w = w' := by
  go_enter Try.func35, Try.ntmps35
  go_wp2_with (go_at_call 80; refine (has_nil c _).mono ?_; rintro e w' ⟨rfl, rfl⟩)
  go_end0
  exact ⟨rfl, rfl⟩
set_option maxHeartbeats 400000 in
theorem dead_nil (c : Int) (w : World) : Calls Try.prog 26 #[.pointer none, .int .i64 c] w fun e w' => e = .returned (.bool true) ∧ w = w' := by
  go_enter Try.func26, Try.ntmps26
  go_wp2_with (go_at_call 80; refine (has_nil c _).mono ?_; rintro e w' ⟨rfl, rfl⟩)
  go_ret
  exact ⟨rfl, rfl⟩
set_option maxHeartbeats 400000 in
theorem erases_nil (c : Int) (w : World) : Calls Try.prog 25 #[.pointer none, .int .i64 c] w fun e w' => e = .returned (.slice none 0 0) ∧ w = w' := by
  go_enter Try.func25, Try.ntmps25
  go_wp2_with (go_at_call 80; refine (has_nil c _).mono ?_; rintro e w' ⟨rfl, rfl⟩)
  go_ret
  exact ⟨rfl, rfl⟩
set_option maxHeartbeats 400000 in
theorem off_nil (w : World) : Calls Try.prog 24 #[.pointer none] w fun e w' => e = .returned (.bool false) ∧ w = w' := by
  go_enter Try.func24, Try.ntmps24
  go_wp2
  go_ret
  exact ⟨rfl, rfl⟩
set_option maxHeartbeats 400000 in
theorem chips_nil (w : World) : Calls Try.prog 38 #[.pointer none] w fun e w' => e = .returned (.int .i64 0) ∧ w = w' := by
  go_enter Try.func38, Try.ntmps38
  go_wp2
  go_ret
  exact ⟨rfl, rfl⟩
set_option maxHeartbeats 400000 in
theorem ops_nil (w : World) : Calls Try.prog 23 #[.pointer none] w fun e w' => e = .returned (.int .i64 0) ∧ w = w' := by
  go_enter Try.func23, Try.ntmps23
  go_wp2
  go_ret
  exact ⟨rfl, rfl⟩
set_option maxHeartbeats 400000 in
theorem dump_nil (w : World) : Calls Try.prog 28 #[.pointer none] w fun e w' => e = .returned (.slice none 0 0) ∧ w = w' := by
  go_enter Try.func28, Try.ntmps28
  go_wp2
  go_ret
  exact ⟨rfl, rfl⟩
set_option maxHeartbeats 400000 in
theorem copy_nil (w : World) : Calls Try.prog 31 #[.pointer none, .slice none 0 0] w fun e w' => e = .returned (.pointer none) ∧ w = w' := by
  go_enter Try.func31, Try.ntmps31
  go_wp2
  go_ret
  exact ⟨rfl, rfl⟩
set_option maxHeartbeats 400000 in
theorem geo_nil (w : World) : Calls Try.prog 39 #[.pointer none] w fun e w' => e = .returned (.agg #[.int .i64 0, .int .i64 0, .int .i64 0, .int .i64 0]) ∧ Below w.heap.size w w' := by
  go_enter Try.func39, Try.ntmps39
  go_wp2
  refine bodyPost_ret (v := .agg #[.int .i64 0, .int .i64 0, .int .i64 0, .int .i64 0]) ?_ rfl ⟨rfl, bel_alloc (Below.refl _ w) _⟩
  simp [results, Try.results39, go_sem]
set_option maxHeartbeats 3200000 in
theorem check_bad (a b c d : Int) (w : World) (h : ¬ GoodG a b c d) : Calls Try.prog 40 #[.agg #[.int .i64 a, .int .i64 b, .int .i64 c, .int .i64 d]] w fun e w' => e = .returned (.int .i64 34) ∧ Below w.heap.size w w' := by
  unfold GoodG at h
  by_cases q0 : a < 3
  · have k0 : decide (a < 3) = true := by simp; omega
    clear h q0
    go_enter Try.func40, Try.ntmps40
    go_wp2
    go_ret
    exact ⟨rfl, bel_alloc (Below.refl _ w) _⟩
  · have k0 : decide (a < 3) = false := by simp; omega
    by_cases q1 : 16 < a
    · have k1 : decide (16 < a) = true := by simp; omega
      clear h q0 q1
      go_enter Try.func40, Try.ntmps40
      go_wp2
      go_ret
      exact ⟨rfl, bel_alloc (Below.refl _ w) _⟩
    · have k1 : decide (16 < a) = false := by simp; omega
      by_cases q2 : b < 16
      · have k2 : decide (b < 16) = true := by simp; omega
        clear h q0 q1 q2
        go_enter Try.func40, Try.ntmps40
        go_wp2
        go_ret
        exact ⟨rfl, bel_alloc (Below.refl _ w) _⟩
      · have k2 : decide (b < 16) = false := by simp; omega
        by_cases q3 : 64 < b
        · have k3 : decide (64 < b) = true := by simp; omega
          clear h q0 q1 q2 q3
          go_enter Try.func40, Try.ntmps40
          go_wp2
          go_ret
          exact ⟨rfl, bel_alloc (Below.refl _ w) _⟩
        · have k3 : decide (64 < b) = false := by simp; omega
          by_cases q4 : c < 4
          · have k4 : decide (c < 4) = true := by simp; omega
            clear h q0 q1 q2 q3 q4
            go_enter Try.func40, Try.ntmps40
            go_wp2
            go_ret
            exact ⟨rfl, bel_alloc (Below.refl _ w) _⟩
          · have k4 : decide (c < 4) = false := by simp; omega
            by_cases q5 : 32 < c
            · have k5 : decide (32 < c) = true := by simp; omega
              clear h q0 q1 q2 q3 q4 q5
              go_enter Try.func40, Try.ntmps40
              go_wp2
              go_ret
              exact ⟨rfl, bel_alloc (Below.refl _ w) _⟩
            · have k5 : decide (32 < c) = false := by simp; omega
              by_cases q6 : d < 256
              · have k6 : decide (d < 256) = true := by simp; omega
                clear h q0 q1 q2 q3 q4 q5 q6
                go_enter Try.func40, Try.ntmps40
                go_wp2
                go_ret
                exact ⟨rfl, bel_alloc (Below.refl _ w) _⟩
              · have k6 : decide (d < 256) = false := by simp; omega
                by_cases q7 : 1024 < d
                · have k7 : decide (1024 < d) = true := by simp; omega
                  clear h q0 q1 q2 q3 q4 q5 q6 q7
                  go_enter Try.func40, Try.ntmps40
                  go_wp2
                  go_ret
                  exact ⟨rfl, bel_alloc (Below.refl _ w) _⟩
                · have k7 : decide (1024 < d) = false := by simp; omega
                  have k8 : (d % 64 != 0) = true := by simp; omega
                  have k9 : (0 : Int) ≤ d := by omega
                  clear h q0 q1 q2 q3 q4 q5 q6 q7
                  go_enter Try.func40, Try.ntmps40
                  go_wp2
                  go_ret
                  exact ⟨rfl, bel_alloc (Below.refl _ w) _⟩

set_option maxHeartbeats 800000 in
theorem new_bad (a b c d : Int) (v : Value) (w : World) (h : ¬ GoodG a b c d) : Calls Try.prog 20 #[.agg #[.int .i64 a, .int .i64 b, .int .i64 c, .int .i64 d], .slice none 0 0, v] w fun e w' => e = .returned (.tuple #[.pointer none, .int .i64 34]) ∧ Below w.heap.size w w' := by
  have HC := Lib.hid (check_bad a b c d (w.alloc (.cells #[.int .i64 a, .int .i64 b, .int .i64 c, .int .i64 d] 32)) h)
  clear h
  go_enter Try.func20, Try.ntmps20
  go_wp2_with fail
  ((with_reducible refine HC.out.mono ?_))
  rintro e w1 ⟨rfl, hb⟩
  have HB := Lib.hid (bel_trans (bel_alloc (Below.refl _ w) _) hb)
  clear hb
  go_wp2
  go_ret2
  exact ⟨rfl, HB.out⟩
set_option maxHeartbeats 800000 in
theorem new_many (a b c d : Int) (ea : Option Addr) (en ec : Nat) (w : World) (h : GoodG a b c d) (hn : 200 < en) : Calls Try.prog 20 #[.agg #[.int .i64 a, .int .i64 b, .int .i64 c, .int .i64 d], .slice none 0 0, .slice ea en ec] w fun e w' => e = .returned (.tuple #[.pointer none, .int .i64 34]) ∧ Below w.heap.size w w' := by
  have HC := Lib.hid (check_good a b c d (w.alloc (.cells #[.int .i64 a, .int .i64 b, .int .i64 c, .int .i64 d] 32)) h)
  have d1 : decide ((200 : Int) < (en : Int)) = true := decide_eq_true (by omega)
  clear h hn
  go_enter Try.func20, Try.ntmps20
  go_wp2_with fail
  ((with_reducible refine HC.out.mono ?_))
  rintro e w1 ⟨rfl, hb⟩
  have HB := Lib.hid (bel_trans (bel_alloc (Below.refl _ w) _) hb)
  clear hb
  go_wp2
  go_ret2
  exact ⟨rfl, HB.out⟩

end Go.Proofs.Ytbfmpcomjmcfjaa
