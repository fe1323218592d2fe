/- A number's place, and the next one's; two places held against each other. -/
import Derived.Test.YtmggjknljbpbgaaGeoAt
namespace Go.Proofs.Ytmggjknljbpbgaa
open Go.RowKit

theorem eql_place (p q r : Int) (w : World) : (binOp .eql 33 (.agg #[.int .i64 p, .int .i64 q, .int .i64 r]) (.agg #[.int .i64 p, .int .i64 q, .int .i64 r])).run Try.prog w = .ok (.bool true) w := by
  have hui := Try.underlying3
  have hu := Try.underlying33
  rw [run_eql_struct]
  rw [run_equalIn_agg w 9999 33 #[.int .i64 p, .int .i64 q, .int .i64 r] #[.int .i64 p, .int .i64 q, .int .i64 r] (by kernel_rfl) (by kernel_rfl)]
  simp [go_sem, Program.fieldsOf, hu, hui]
theorem neq_place (p q r : Int) (w : World) : (binOp .neq 33 (.agg #[.int .i64 p, .int .i64 q, .int .i64 r]) (.agg #[.int .i64 p, .int .i64 q, .int .i64 r])).run Try.prog w = .ok (.bool false) w := by
  have hui := Try.underlying3
  have hu := Try.underlying33
  rw [run_neq_struct]
  rw [run_equalIn_agg w 9999 33 #[.int .i64 p, .int .i64 q, .int .i64 r] #[.int .i64 p, .int .i64 q, .int .i64 r] (by kernel_rfl) (by kernel_rfl)]
  simp [go_sem, Program.fieldsOf, hu, hui]

theorem step_no {x m : Int} (hm : 0 < m) (h : x % m + 1 ≠ m) : (x + 1) / m = x / m ∧ (x + 1) % m = x % m + 1 := by
  have h1 := Int.emod_nonneg x (b := m) (by omega)
  have h2 := Int.emod_lt_of_pos x hm
  have h3 := Int.emod_add_mul_ediv x m
  exact (Int.ediv_emod_unique hm).2 ⟨by omega, by omega, by omega⟩
theorem step_yes {x m : Int} (hm : 0 < m) (h : x % m + 1 = m) : (x + 1) / m = x / m + 1 ∧ (x + 1) % m = 0 := by
  have h3 := Int.emod_add_mul_ediv x m
  exact (Int.ediv_emod_unique hm).2 ⟨by rw [Int.mul_add, Int.mul_one]; omega, by omega, hm⟩

theorem at_next (a c : Int) (i : Nat) (ha : 3 ≤ a) (hc : 4 ≤ c) :
    (AtSlot a i + 1 ≠ a - 1 → AtSlot a (i + 1) = AtSlot a i + 1 ∧ AtRow a c (i + 1) = AtRow a c i ∧ AtSeg a c (i + 1) = AtSeg a c i) ∧
    (AtSlot a i + 1 = a - 1 → AtSlot a (i + 1) = 0 ∧ (AtRow a c i + 1 ≠ c → AtRow a c (i + 1) = AtRow a c i + 1 ∧ AtSeg a c (i + 1) = AtSeg a c i) ∧ (AtRow a c i + 1 = c → AtRow a c (i + 1) = 0 ∧ AtSeg a c (i + 1) = AtSeg a c i + 1)) := by
  unfold AtSlot AtRow AtSeg AtSt
  have hm : 0 < a - 1 := by omega
  have hc' : 0 < c := by omega
  have e : ((i + 1 : Nat) : Int) = (i : Int) + 1 := by omega
  rw [e]
  constructor
  · intro h
    obtain ⟨h1, h2⟩ := step_no hm h
    rw [h1, h2]
    exact ⟨rfl, rfl, rfl⟩
  · intro h
    obtain ⟨h1, h2⟩ := step_yes hm h
    rw [h1, h2]
    refine ⟨rfl, fun h3 => ?_, fun h3 => ?_⟩
    · obtain ⟨h4, h5⟩ := step_no hc' h3
      exact ⟨h5, h4⟩
    · obtain ⟨h4, h5⟩ := step_yes hc' h3
      exact ⟨h5, h4⟩

end Go.Proofs.Ytmggjknljbpbgaa
