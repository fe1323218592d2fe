/- The reference's Number; a place's number, and a number's place. -/
import Derived.Test.YtmggjknljbpbgaaGeoNx
namespace Go.Proofs.Ytmggjknljbpbgaa
open Go.RowKit

/-- Is it a place? -/
def InR (a b c p q r : Int) : Prop := (0 ≤ p ∧ p < b - 5) ∧ (0 ≤ q ∧ q < c) ∧ (0 ≤ r ∧ r < a - 1)
instance (a b c p q r : Int) : Decidable (InR a b c p q r) := by unfold InR; infer_instance
theorem number_no (a b c d p q r : Int) (w : World) (hg : GoodG a b c d) (h : ¬ InR a b c p q r) :
    Calls Try.prog 24 #[.agg #[.int .i64 a, .int .i64 b, .int .i64 c, .int .i64 d], .agg #[.int .i64 p, .int .i64 q, .int .i64 r]] w fun e w' => e = .returned (.int .u32 0) ∧ Below w.heap.size w w' := by
  by_cases h1 : 0 ≤ p ∧ p < b - 5
  case neg => exact number_badSeg a b c d p q r w hg h1
  by_cases h2 : 0 ≤ q ∧ q < c
  case neg => exact number_badRow a b c d p q r w hg h1 h2
  by_cases h3 : 0 ≤ r ∧ r < a - 1
  case neg => exact number_badSlot a b c d p q r w hg h1 h2 h3
  exact absurd ⟨h1, h2, h3⟩ h
theorem at_no (a b c d : Int) (n : Nat) (w : World) (hg : GoodG a b c d) (h : ¬ (1 ≤ n ∧ (n : Int) ≤ (b - 5) * (c * (a - 1)))) :
    Calls Try.prog 25 #[.agg #[.int .i64 a, .int .i64 b, .int .i64 c, .int .i64 d], .int .u32 (n : Int)] w fun e w' => e = .returned (.tuple #[.agg #[.int .i64 0, .int .i64 0, .int .i64 0], .bool false]) ∧ Below w.heap.size w w' := by
  by_cases h1 : 1 ≤ n
  · exact at_over a b c d n w hg h1 (by omega)
  · exact at_zero a b c d n w hg (by omega)
theorem at_of_num {a b c p q r : Int} {i : Nat} (ha : 3 ≤ a) (hc : 4 ≤ c) (h : InR a b c p q r) (hi : (i : Int) + 1 = NumOf a c p q r) : AtSeg a c i = p ∧ AtRow a c i = q ∧ AtSlot a i = r := by
  obtain ⟨h1, h2, h3⟩ := h
  unfold NumOf at hi
  have e1 : (i : Int) / (a - 1) = p * c + q ∧ (i : Int) % (a - 1) = r := (Int.ediv_emod_unique (by omega)).2 ⟨by rw [Int.mul_comm (a - 1)]; omega, by omega, by omega⟩
  have e2 : (p * c + q) / c = p ∧ (p * c + q) % c = q := (Int.ediv_emod_unique (by omega)).2 ⟨by rw [Int.mul_comm c]; omega, by omega, by omega⟩
  unfold AtSeg AtRow AtSlot AtSt
  rw [e1.1, e1.2, e2.1, e2.2]
  exact ⟨rfl, rfl, rfl⟩
theorem num_of_at {a b c : Int} {i : Nat} (ha : 3 ≤ a) (hc : 4 ≤ c) (hi : (i : Int) < (b - 5) * (c * (a - 1))) : InR a b c (AtSeg a c i) (AtRow a c i) (AtSlot a i) ∧ NumOf a c (AtSeg a c i) (AtRow a c i) (AtSlot a i) = (i : Int) + 1 := by
  unfold InR NumOf AtSeg AtRow AtSlot AtSt
  have hm : 0 < a - 1 := by omega
  have h0 := Int.emod_add_mul_ediv (i : Int) (a - 1)
  have h1 := Int.emod_nonneg (i : Int) (b := a - 1) (by omega)
  have h2 := Int.emod_lt_of_pos (i : Int) hm
  have h3 : 0 ≤ (i : Int) / (a - 1) := Int.ediv_nonneg (by omega) (by omega)
  have h7 : (i : Int) / (a - 1) < (b - 5) * c := Int.ediv_lt_of_lt_mul hm (by rw [Int.mul_assoc]; exact hi)
  obtain ⟨st, hst⟩ : ∃ st, st = (i : Int) / (a - 1) := ⟨_, rfl⟩
  rw [← hst] at h0 h3 h7 ⊢
  have h4 := Int.emod_add_mul_ediv st c
  have h5 := Int.emod_nonneg st (b := c) (by omega)
  have h6 := Int.emod_lt_of_pos st (show 0 < c by omega)
  have h8 : st / c < b - 5 := Int.ediv_lt_of_lt_mul (by omega) h7
  have h9 : 0 ≤ st / c := Int.ediv_nonneg h3 (by omega)
  refine ⟨⟨⟨h9, h8⟩, ⟨h5, h6⟩, h1, h2⟩, ?_⟩
  have e : st / c * c + st % c = st := by rw [Int.mul_comm]; omega
  rw [e, Int.mul_comm]
  omega

theorem refNum_bd {a b c d p q r : Int} (hg : GoodG a b c d) (h : InR a b c p q r) : p * c * (a - 1) + q * (a - 1) + r + 1 = NumOf a c p q r ∧ (0 ≤ p * c ∧ p * c ≤ 2000) ∧ (0 ≤ p * c * (a - 1) ∧ p * c * (a - 1) ≤ 32000) ∧ (0 ≤ q * (a - 1) ∧ q * (a - 1) ≤ 1000) ∧ 1 ≤ NumOf a c p q r ∧ NumOf a c p q r ≤ 50000 := by
  obtain ⟨h1, h2, h3⟩ := h
  obtain ⟨m1, m2⟩ := num_bd hg h1 h2
  have g1 := hg.1
  have g2 := hg.2.1
  have g6 := hg.2.2.2.2.2.1
  have m3 := mul_bd m1.1 m1.2 (show 0 ≤ a - 1 by omega) (show a - 1 ≤ 15 by omega)
  have m4 := mul_bd h2.1 (show q ≤ 32 by omega) (show 0 ≤ a - 1 by omega) (show a - 1 ≤ 15 by omega)
  have e : p * c * (a - 1) + q * (a - 1) + r + 1 = NumOf a c p q r := by unfold NumOf; rw [Int.add_mul]
  refine ⟨e, m1, ⟨m3.1, by omega⟩, ⟨m4.1, by omega⟩, ?_, ?_⟩ <;> (unfold NumOf; omega)
set_option maxHeartbeats 1600000 in
theorem refNum_ok (a b c d p q r : Int) (w : World) (hg : GoodG a b c d) (h : InR a b c p q r) :
    Calls Try.prog 26 #[.agg #[.int .i64 a, .int .i64 b, .int .i64 c, .int .i64 d], .int .i64 p, .int .i64 q, .int .i64 r] w fun e w' => e = .returned (.int .i64 (NumOf a c p q r)) ∧ Below w.heap.size w w' := by
  obtain ⟨e0, m1, m2, m3, _, _⟩ := refNum_bd hg h
  obtain ⟨⟨h1, h2⟩, ⟨h3, h4⟩, h5, h6⟩ := h
  obtain ⟨x1, x2⟩ := m1
  obtain ⟨x3, x4⟩ := m2
  obtain ⟨x5, x6⟩ := m3
  have g1 := hg.1
  have g2 := hg.2.1
  have g3 := hg.2.2.1
  have g4 := hg.2.2.2.1
  have k1 : decide (p < 0) = false := by simp; omega
  have k2 : decide (b - 5 ≤ p) = false := by simp; omega
  have k3 : decide (q < 0) = false := by simp; omega
  have k4 : decide (c ≤ q) = false := by simp; omega
  have k5 : decide (r < 0) = false := by simp; omega
  have k6 : decide (a - 1 ≤ r) = false := by simp; omega
  have HE := Lib.hid e0
  have hr : r ≤ 16 := by omega
  have g6 := hg.2.2.2.2.2.1
  clear e0 hg
  go_enter Try.func26, Try.ntmps26
  go_wp2
  go_ret
  exact ⟨ret_int HE.out, bel_alloc (Below.refl _ w) _⟩
set_option maxHeartbeats 3200000 in
theorem refNum_no (a b c d p q r : Int) (w : World) (hg : GoodG a b c d) (h : ¬ InR a b c p q r) :
    Calls Try.prog 26 #[.agg #[.int .i64 a, .int .i64 b, .int .i64 c, .int .i64 d], .int .i64 p, .int .i64 q, .int .i64 r] w fun e w' => e = .returned (.int .i64 0) ∧ Below w.heap.size w w' := by
  have g1 := hg.1
  have g2 := hg.2.1
  have g3 := hg.2.2.1
  have g4 := hg.2.2.2.1
  unfold InR at h
  by_cases q0 : p < 0
  · have k0 : decide (p < 0) = true := by simp; omega
    clear h hg q0
    go_enter Try.func26, Try.ntmps26
    go_wp2
    go_ret
    exact ⟨rfl, bel_alloc (Below.refl _ w) _⟩
  have k0 : decide (p < 0) = false := by simp; omega
  by_cases q1 : b - 5 ≤ p
  · have k1 : decide (b - 5 ≤ p) = true := by simp; omega
    clear h hg q0 q1
    go_enter Try.func26, Try.ntmps26
    go_wp2
    go_ret
    exact ⟨rfl, bel_alloc (Below.refl _ w) _⟩
  have k1 : decide (b - 5 ≤ p) = false := by simp; omega
  by_cases q2 : q < 0
  · have k2 : decide (q < 0) = true := by simp; omega
    clear h hg q0 q1 q2
    go_enter Try.func26, Try.ntmps26
    go_wp2
    go_ret
    exact ⟨rfl, bel_alloc (Below.refl _ w) _⟩
  have k2 : decide (q < 0) = false := by simp; omega
  by_cases q3 : c ≤ q
  · have k3 : decide (c ≤ q) = true := by simp; omega
    clear h hg q0 q1 q2 q3
    go_enter Try.func26, Try.ntmps26
    go_wp2
    go_ret
    exact ⟨rfl, bel_alloc (Below.refl _ w) _⟩
  have k3 : decide (c ≤ q) = false := by simp; omega
  by_cases q4 : r < 0
  · have k4 : decide (r < 0) = true := by simp; omega
    clear h hg q0 q1 q2 q3 q4
    go_enter Try.func26, Try.ntmps26
    go_wp2
    go_ret
    exact ⟨rfl, bel_alloc (Below.refl _ w) _⟩
  have k4 : decide (r < 0) = false := by simp; omega
  have q5 : a - 1 ≤ r := by omega
  have k5 : decide (a - 1 ≤ r) = true := by simp; omega
  clear h hg q0 q1 q2 q3 q4 q5
  go_enter Try.func26, Try.ntmps26
  go_wp2
  go_ret
  exact ⟨rfl, bel_alloc (Below.refl _ w) _⟩

end Go.Proofs.Ytmggjknljbpbgaa
