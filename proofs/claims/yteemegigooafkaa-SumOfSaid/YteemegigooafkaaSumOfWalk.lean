/- SumOf: the walk. -/
import Derived.Test.YteemegigooafkaaSumKnown
import Derived.Test.YteemegigooafkaaRefSum
import Derived.Test.YteemegigooafkaaDivided
import Derived.Test.YteemegigooafkaaFrame
namespace Go.Proofs.Yteemegigooafkaa
open Go.RowKit

set_option maxHeartbeats 400000 in
theorem sumOf_walk (a : Option Addr) (len cap : Nat) (bs : List Nat) (w : World) (hin : InB w a len cap bs) :
    Calls Try.prog 10 #[.slice a len cap] w fun e w' => e = .returned (.bool true) ∧ Below w.heap.size w w' := by
  obtain ⟨hr, hlc, hcm, _⟩ := hin
  have hl : len ≤ maxLen := Nat.le_trans hlc hcm
  have hl' := hl
  unfold maxLen at hl'
  by_cases hlen : len ≤ 150
  · go_enter Try.func10, Try.ntmps10
    go_wp2_with fail
    refine (known_any _).mono ?_
    rintro e w1 ⟨rfl, hb1⟩
    have hr1 := row_keep hr hb1 (Nat.le_refl _)
    go_wp2_with fail
    refine (of_one _ 0 _ a len cap bs _ (cell_new1 _ _ _) hl (row_alloc hr1 _)).mono ?_
    rintro e w' ⟨rfl, rfl⟩
    go_wp2_with fail
    refine (divided_any a len cap bs _ (row_alloc hr1 _) hlen).mono ?_
    rintro e w2 ⟨rfl, hb2⟩
    have hr2 := row_keep (row_alloc hr1 _) hb2 (Nat.le_refl _)
    go_wp2_with fail
    refine (refOf_any a len cap bs _ hr2 hl).mono ?_
    rintro e w' ⟨rfl, rfl⟩
    go_wp2_with fail
    refine (divided_any a len cap bs _ hr2 hlen).mono ?_
    rintro e w3 ⟨rfl, hb3⟩
    go_wp2
    go_ret
    exact ⟨rfl, bel_trans (bel_trans (bel_alloc hb1 _) hb2) hb3⟩
  · go_enter Try.func10, Try.ntmps10
    go_wp2_with fail
    refine (known_any _).mono ?_
    rintro e w1 ⟨rfl, hb1⟩
    go_wp2
    go_ret
    exact ⟨rfl, hb1⟩

end Go.Proofs.Yteemegigooafkaa
