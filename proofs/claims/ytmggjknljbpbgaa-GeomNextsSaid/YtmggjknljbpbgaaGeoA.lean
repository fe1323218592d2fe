/- geom's functions that call others. -/
import Derived.Test.YtmggjknljbpbgaaGeo
namespace Go.Proofs.Ytmggjknljbpbgaa
open Go.RowKit

theorem mul_bd {x y m n : Int} (h0 : 0 ≤ x) (h1 : x ≤ m) (h2 : 0 ≤ y) (h3 : y ≤ n) : 0 ≤ x * y ∧ x * y ≤ m * n :=
  ⟨Int.mul_nonneg h0 h2, Int.mul_le_mul h1 h3 h2 (Int.le_trans h0 h1)⟩
theorem wrap_of {x : Int} (h0 : -1000000000000 ≤ x) (h1 : x ≤ 1000000000000) : IntKind.i64.wrap x = x := by rw [IntKind.wrap_i64]; omega

set_option maxHeartbeats 800000 in
theorem pages_any (a b c d : Int) (w : World) (h0 : 3 ≤ a) (h1 : a ≤ 1000) (h2 : 0 ≤ c) (h3 : c ≤ 1000) :
    Calls Try.prog 30 #[.agg #[.int .i64 a, .int .i64 b, .int .i64 c, .int .i64 d]] w fun e w' => e = .returned (.int .i64 (c * (a - 1))) ∧ Below w.heap.size w w' := by
  have HW := Lib.hid fun x : World => width_any a b c d x h0 h1
  have hS0 := (gs_new w a b c d).drew
  have hm := mul_bd h2 h3 (show (0 : Int) ≤ a - 1 by omega) (show a - 1 ≤ 1000 by omega)
  have hwr : IntKind.i64.wrap (c * (a - 1)) = c * (a - 1) := wrap_of (by omega) (by omega)
  clear hm
  go_enter Try.func30, Try.ntmps30
  go_wp2
  go_region_held3 (fun x => x.cell? ⟨w.heap.size, 0, none⟩ = some (.int .i64 a) ∧ x.cell? ⟨w.heap.size, 1, none⟩ = some (.int .i64 b) ∧ x.cell? ⟨w.heap.size, 2, none⟩ = some (.int .i64 c) ∧ x.cell? ⟨w.heap.size, 3, none⟩ = some (.int .i64 d) ∧ Below w.heap.size w x)
    (first | exact hS1 | exact hS0)
    (first | (go_simp; go_at_call 21; ((with_reducible refine (HW.out _).mono ?_)); (rintro e w1 ⟨rfl, hb⟩; have hS1 := hS0.step hb; clear hb)))
  all_goals
    go_wp2
    go_ret
    exact ⟨rfl, hS1.2.2.2.2⟩

end Go.Proofs.Ytmggjknljbpbgaa
