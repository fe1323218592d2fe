/- geom.Capacity, and the reference's. -/
import Derived.Test.YtallambldbhibaaGeoB
namespace Go.Proofs.Ytallambldbhibaa
open Go.RowKit

set_option maxHeartbeats 3200000 in
theorem check_bad (a b c d : Int) (w : World) (h : ¬ GoodG a b c d) : Calls Try.prog 60 #[.agg #[.int .i64 a, .int .i64 b, .int .i64 c, .int .i64 d]] w fun e w' => e = .returned (.int .i64 34) ∧ Below w.heap.size w w' := by
  unfold GoodG at h
  by_cases q0 : a < 3
  · have k0 : decide (a < 3) = true := by simp; omega
    clear h q0
    go_enter Try.func60, Try.ntmps60
    go_wp2
    go_ret
    exact ⟨rfl, bel_alloc (Below.refl _ w) _⟩
  · have k0 : decide (a < 3) = false := by simp; omega
    by_cases q1 : 16 < a
    · have k1 : decide (16 < a) = true := by simp; omega
      clear h q0 q1
      go_enter Try.func60, Try.ntmps60
      go_wp2
      go_ret
      exact ⟨rfl, bel_alloc (Below.refl _ w) _⟩
    · have k1 : decide (16 < a) = false := by simp; omega
      by_cases q2 : b < 16
      · have k2 : decide (b < 16) = true := by simp; omega
        clear h q0 q1 q2
        go_enter Try.func60, Try.ntmps60
        go_wp2
        go_ret
        exact ⟨rfl, bel_alloc (Below.refl _ w) _⟩
      · have k2 : decide (b < 16) = false := by simp; omega
        by_cases q3 : 64 < b
        · have k3 : decide (64 < b) = true := by simp; omega
          clear h q0 q1 q2 q3
          go_enter Try.func60, Try.ntmps60
          go_wp2
          go_ret
          exact ⟨rfl, bel_alloc (Below.refl _ w) _⟩
        · have k3 : decide (64 < b) = false := by simp; omega
          by_cases q4 : c < 4
          · have k4 : decide (c < 4) = true := by simp; omega
            clear h q0 q1 q2 q3 q4
            go_enter Try.func60, Try.ntmps60
            go_wp2
            go_ret
            exact ⟨rfl, bel_alloc (Below.refl _ w) _⟩
          · have k4 : decide (c < 4) = false := by simp; omega
            by_cases q5 : 32 < c
            · have k5 : decide (32 < c) = true := by simp; omega
              clear h q0 q1 q2 q3 q4 q5
              go_enter Try.func60, Try.ntmps60
              go_wp2
              go_ret
              exact ⟨rfl, bel_alloc (Below.refl _ w) _⟩
            · have k5 : decide (32 < c) = false := by simp; omega
              by_cases q6 : d < 256
              · have k6 : decide (d < 256) = true := by simp; omega
                clear h q0 q1 q2 q3 q4 q5 q6
                go_enter Try.func60, Try.ntmps60
                go_wp2
                go_ret
                exact ⟨rfl, bel_alloc (Below.refl _ w) _⟩
              · have k6 : decide (d < 256) = false := by simp; omega
                by_cases q7 : 1024 < d
                · have k7 : decide (1024 < d) = true := by simp; omega
                  clear h q0 q1 q2 q3 q4 q5 q6 q7
                  go_enter Try.func60, Try.ntmps60
                  go_wp2
                  go_ret
                  exact ⟨rfl, bel_alloc (Below.refl _ w) _⟩
                · have k7 : decide (1024 < d) = false := by simp; omega
                  have k8 : (d % 64 != 0) = true := by simp; omega
                  have k9 : (0 : Int) ≤ d := by omega
                  clear h q0 q1 q2 q3 q4 q5 q6 q7
                  go_enter Try.func60, Try.ntmps60
                  go_wp2
                  go_ret
                  exact ⟨rfl, bel_alloc (Below.refl _ w) _⟩

set_option maxRecDepth 100000 in
set_option maxHeartbeats 1600000 in
theorem member_hi (a b c d seg row sl : Int) (w : World) (hg : GoodG a b c d) (h0 : 0 ≤ seg) (h1 : seg ≤ 2000) (h2 : 0 ≤ row) (h3 : row ≤ 2000) (hl : ParOf a c seg row ≤ sl) (hs0 : 0 ≤ sl) (hs : sl ≤ 2000) :
    Calls Try.prog 71 #[.agg #[.int .i64 a, .int .i64 b, .int .i64 c, .int .i64 d], .agg #[.int .i64 seg, .int .i64 row, .int .i64 sl]] w fun e w' => e = .returned (.int .i64 (sl + 1)) ∧ Below w.heap.size w w' := by
  have HP := Lib.hid fun x : World => parity_any a b c d seg row x hg h0 h1 h2 h3
  have hS0 : GP w w.heap.size a b c d (w.heap.size + 1) seg row sl ((w.alloc (.cells #[.int .i64 a, .int .i64 b, .int .i64 c, .int .i64 d] 54)).alloc (.cells #[.int .i64 seg, .int .i64 row, .int .i64 sl] 82)).drew := (gp_new w a b c d seg row sl).drew
  have k : decide (sl < ParOf a c seg row) = false := by simpa using hl
  obtain ⟨par, hpar⟩ : ∃ par, par = ParOf a c seg row := ⟨_, rfl⟩
  rw [← hpar] at HP k
  clear hpar hl h0 h1 h2 h3 hg
  go_enter Try.func71, Try.ntmps71
  go_wp2
  go_region_held3 (fun x => (x.cell? ⟨w.heap.size, 0, none⟩ = some (.int .i64 a) ∧ x.cell? ⟨w.heap.size, 1, none⟩ = some (.int .i64 b) ∧ x.cell? ⟨w.heap.size, 2, none⟩ = some (.int .i64 c) ∧ x.cell? ⟨w.heap.size, 3, none⟩ = some (.int .i64 d) ∧ Below w.heap.size w x) ∧ x.cell? ⟨w.heap.size + 1, 0, none⟩ = some (.int .i64 seg) ∧ x.cell? ⟨w.heap.size + 1, 1, none⟩ = some (.int .i64 row) ∧ x.cell? ⟨w.heap.size + 1, 2, none⟩ = some (.int .i64 sl))
    (first | exact hS1 | exact hS0)
    (first | (go_simp; go_at_call 110; ((with_reducible refine (HP.out _).mono ?_)); (rintro e w1 ⟨rfl, hb⟩; have hS1 := hS0.step hb; clear hb)))
  all_goals
    go_wp2
    go_ret
    exact ⟨rfl, hS1.1.2.2.2.2⟩

def HalfOf (a b c : Int) : Int := (b - 11 - 4) * (c * (a - 1)) / 2
def RoomOf (a b c d : Int) : Int := (c * (a - 1) * d - 32) / 4 - (b - 5)
def LessOf (a b c d : Int) : Int := if RoomOf a b c d < HalfOf a b c then RoomOf a b c d else HalfOf a b c
def CapOf (a b c d : Int) : Int := if LessOf a b c d < 0 then 0 else LessOf a b c d

/-- What the sums of Capacity are. -/
structure CapF (a b c d P H R M K : Int) : Prop where
  p : P = c * (a - 1)
  pb : 8 ≤ P ∧ P ≤ 480
  w1 : IntKind.i64.wrap (b - 11 - 4) = b - 11 - 4
  w2 : IntKind.i64.wrap ((b - 11 - 4) * P) = (b - 11 - 4) * P
  q1 : ((b - 11 - 4) * P).tdiv 2 = H
  q1' : (b - 11 - 4) * P / 2 = H
  n1 : 0 ≤ (b - 11 - 4) * P ∧ (b - 11 - 4) * P ≤ 30000
  w3 : IntKind.i64.wrap (P * d) = P * d
  w4 : IntKind.i64.wrap (P * d - 32) = P * d - 32
  n2 : 2016 ≤ P * d - 32 ∧ P * d - 32 ≤ 600000
  q2 : (P * d - 32).tdiv 4 = R + (b - 5)
  q2' : (P * d - 32) / 4 = R + (b - 5)
  w5 : IntKind.i64.wrap (R + (b - 5) - (b - 5)) = R
  m : (if R < H then R else H) = M
  k : (if M < 0 then 0 else M) = K
  hb : 0 ≤ H ∧ H ≤ 30000
  rb : -1000 ≤ R ∧ R ≤ 600000
  wh : IntKind.i64.wrap H = H
  wr : IntKind.i64.wrap (R + (b - 5)) = R + (b - 5)
theorem capF (a b c d : Int) (hg : GoodG a b c d) : ∃ P H R M, CapF a b c d P H R M (CapOf a b c d) := by
  obtain ⟨g1, g2, g3, g4, g5, g6, g7, g8, g9⟩ := hg
  have p0 : 4 * 2 ≤ c * (a - 1) := Int.mul_le_mul g5 (by omega) (by omega) (by omega)
  have p1 : c * (a - 1) ≤ 32 * 15 := Int.mul_le_mul g6 (by omega) (by omega) (by omega)
  obtain ⟨P, hP⟩ : ∃ P, P = c * (a - 1) := ⟨_, rfl⟩
  rw [← hP] at p0 p1
  have m1 := mul_bd (show (0 : Int) ≤ b - 11 - 4 by omega) (show b - 11 - 4 ≤ 49 by omega) (show 0 ≤ P by omega) (show P ≤ 480 by omega)
  have m2 : 8 * 256 ≤ P * d := Int.mul_le_mul (by omega) (by omega) (by omega) (by omega)
  have m3 : P * d ≤ 480 * 1024 := Int.mul_le_mul (by omega) (by omega) (by omega) (by omega)
  refine ⟨P, HalfOf a b c, RoomOf a b c d, LessOf a b c d, hP, ⟨by omega, by omega⟩, wrap_of (by omega) (by omega), wrap_of (by omega) (by omega), ?_, ?_, ⟨by omega, by omega⟩, wrap_of (by omega) (by omega), wrap_of (by omega) (by omega), ⟨by omega, by omega⟩, ?_, ?_, ?_, rfl, rfl, ?_, ?_, wrap_of (by unfold HalfOf; rw [← hP]; omega) (by unfold HalfOf; rw [← hP]; omega), wrap_of (by unfold RoomOf; rw [← hP]; omega) (by unfold RoomOf; rw [← hP]; omega)⟩
  · unfold HalfOf; rw [← hP]; exact Int.tdiv_eq_ediv_of_nonneg m1.1
  · unfold HalfOf; rw [← hP]
  · unfold RoomOf; rw [← hP, Int.tdiv_eq_ediv_of_nonneg (by omega)]; omega
  · unfold RoomOf; rw [← hP]; omega
  · rw [Int.add_sub_cancel]; exact wrap_of (by unfold RoomOf; rw [← hP]; omega) (by unfold RoomOf; rw [← hP]; omega)
  · unfold HalfOf; rw [← hP]; omega
  · unfold RoomOf; rw [← hP]; omega

end Go.Proofs.Ytallambldbhibaa
