/- GeomTurns: what lies out of its reach. -/
import Derived.Test.YtmggjknljbpbgaaGeoC
namespace Go.Proofs.Ytmggjknljbpbgaa
open Go.RowKit

set_option maxRecDepth 100000 in
set_option maxHeartbeats 3200000 in
theorem geomTurns_out (a b c d seg row : Int) (w : World) (h : ¬ (GoodG a b c d ∧ 0 ≤ seg ∧ seg ≤ 1000 ∧ 0 ≤ row ∧ row ≤ 1000)) :
    Calls Try.prog 5 #[.agg #[.int .i64 a, .int .i64 b, .int .i64 c, .int .i64 d], .int .i64 seg, .int .i64 row] w fun e w' => e = .returned (.bool true) ∧ Below w.heap.size w w' := by
  have HS := Lib.hid (gs_new w a b c d)
  have HPl := Lib.hid placed_any
  by_cases hg : GoodG a b c d
  · have h2 : seg < 0 ∨ (0 ≤ seg ∧ 1000 < seg) ∨ (0 ≤ seg ∧ seg ≤ 1000 ∧ row < 0) ∨ (0 ≤ seg ∧ seg ≤ 1000 ∧ 0 ≤ row ∧ 1000 < row) := by
      have h3 : ¬ (0 ≤ seg ∧ seg ≤ 1000 ∧ 0 ≤ row ∧ row ≤ 1000) := fun x => h ⟨hg, x⟩
      omega
    clear h
    rcases h2 with h2 | h2 | h2 | h2
    · have HC := Lib.hid fun x : World => check_good a b c d x hg
      have k0 : decide (seg < 0) = true := by simp; omega
      clear h2 hg
      go_enter Try.func5, Try.ntmps5
      obtain ⟨c0, c1, c2, c3, _⟩ := HS.out
      go_wp2_with fail
      ((with_reducible refine (HC.out _).mono ?_))
      rintro e w0 ⟨rfl, hb⟩
      have HS0 := Lib.hid (HS.out.step hb)
      clear hb c0 c1 c2 c3
      go_wp2_with fail
      ((with_reducible refine (HPl.out _).mono ?_))
      rintro e w1 ⟨rfl, hb⟩
      have HS1 := Lib.hid (HS0.out.step hb)
      clear hb
      go_wp2
      go_ret
      exact ⟨rfl, HS1.out.2.2.2.2⟩
    · have HC := Lib.hid fun x : World => check_good a b c d x hg
      have k0 : decide (seg < 0) = false := by simp; omega
      have k1 : decide (1000 < seg) = true := by simp; omega
      clear h2 hg
      go_enter Try.func5, Try.ntmps5
      obtain ⟨c0, c1, c2, c3, _⟩ := HS.out
      go_wp2_with fail
      ((with_reducible refine (HC.out _).mono ?_))
      rintro e w0 ⟨rfl, hb⟩
      have HS0 := Lib.hid (HS.out.step hb)
      clear hb c0 c1 c2 c3
      go_wp2_with fail
      ((with_reducible refine (HPl.out _).mono ?_))
      rintro e w1 ⟨rfl, hb⟩
      have HS1 := Lib.hid (HS0.out.step hb)
      clear hb
      go_wp2
      go_ret
      exact ⟨rfl, HS1.out.2.2.2.2⟩
    · have HC := Lib.hid fun x : World => check_good a b c d x hg
      have k0 : decide (seg < 0) = false := by simp; omega
      have k1 : decide (1000 < seg) = false := by simp; omega
      have k2 : decide (row < 0) = true := by simp; omega
      clear h2 hg
      go_enter Try.func5, Try.ntmps5
      obtain ⟨c0, c1, c2, c3, _⟩ := HS.out
      go_wp2_with fail
      ((with_reducible refine (HC.out _).mono ?_))
      rintro e w0 ⟨rfl, hb⟩
      have HS0 := Lib.hid (HS.out.step hb)
      clear hb c0 c1 c2 c3
      go_wp2_with fail
      ((with_reducible refine (HPl.out _).mono ?_))
      rintro e w1 ⟨rfl, hb⟩
      have HS1 := Lib.hid (HS0.out.step hb)
      clear hb
      go_wp2
      go_ret
      exact ⟨rfl, HS1.out.2.2.2.2⟩
    · have HC := Lib.hid fun x : World => check_good a b c d x hg
      have k0 : decide (seg < 0) = false := by simp; omega
      have k1 : decide (1000 < seg) = false := by simp; omega
      have k2 : decide (row < 0) = false := by simp; omega
      have k3 : decide (1000 < row) = true := by simp; omega
      clear h2 hg
      go_enter Try.func5, Try.ntmps5
      obtain ⟨c0, c1, c2, c3, _⟩ := HS.out
      go_wp2_with fail
      ((with_reducible refine (HC.out _).mono ?_))
      rintro e w0 ⟨rfl, hb⟩
      have HS0 := Lib.hid (HS.out.step hb)
      clear hb c0 c1 c2 c3
      go_wp2_with fail
      ((with_reducible refine (HPl.out _).mono ?_))
      rintro e w1 ⟨rfl, hb⟩
      have HS1 := Lib.hid (HS0.out.step hb)
      clear hb
      go_wp2
      go_ret
      exact ⟨rfl, HS1.out.2.2.2.2⟩
  · have HC := Lib.hid fun x : World => check_bad a b c d x hg
    clear h hg
    go_enter Try.func5, Try.ntmps5
    obtain ⟨c0, c1, c2, c3, _⟩ := HS.out
    go_wp2_with fail
    ((with_reducible refine (HC.out _).mono ?_))
    rintro e w0 ⟨rfl, hb⟩
    have HS0 := Lib.hid (HS.out.step hb)
    clear hb c0 c1 c2 c3
    go_wp2_with fail
    ((with_reducible refine (HPl.out _).mono ?_))
    rintro e w1 ⟨rfl, hb⟩
    have HS1 := Lib.hid (HS0.out.step hb)
    clear hb
    go_wp2
    go_ret
    exact ⟨rfl, HS1.out.2.2.2.2⟩

end Go.Proofs.Ytmggjknljbpbgaa
