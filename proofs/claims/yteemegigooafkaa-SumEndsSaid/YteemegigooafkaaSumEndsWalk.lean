/- SumEnds: the walk. -/
import Derived.Test.YteemegigooafkaaSumKnown
import Derived.Test.YteemegigooafkaaRefBytes
import Derived.Test.YteemegigooafkaaFrame
namespace Go.Proofs.Yteemegigooafkaa
open Go.RowKit

set_option maxHeartbeats 400000 in
theorem sumEnds_walk (a : Option Addr) (len cap : Nat) (bs : List Nat) (w : World) (hin : InB w a len cap bs) :
    Calls Try.prog 14 #[.slice a len cap] w fun e w' => e = .returned (.bool true) ∧ Below w.heap.size w w' := by
  obtain ⟨hr, hlc, hcm, hnone⟩ := hin
  have hl : len ≤ maxLen := Nat.le_trans hlc hcm
  have hl' := hl
  unfold maxLen at hl'
  by_cases hlen : len ≤ 600
  · have HE := Lib.hid (Crc.ends bs hr.2.1)
    have hS := Crc.of_lt bs
    go_enter Try.func14, Try.ntmps14
    go_wp2_with fail
    refine (known_any _).mono ?_
    rintro e w1 ⟨rfl, hb1⟩
    have hr1 := row_keep hr hb1 (Nat.le_refl _)
    go_wp2_with fail
    refine (of_one _ 0 _ a len cap bs _ (cell_new1 _ _ _) hl (row_alloc hr1 _)).mono ?_
    rintro e w' ⟨rfl, rfl⟩
    go_wp2_with fail
    refine (bytes_any (Crc.of bs) 4 _ (by omega) (by omega)).mono ?_
    rintro e w2 ⟨sv, rfl, hown, hb2⟩
    obtain ⟨a2, c2, hsv, hr2, hm2⟩ := row_of_own hown
    subst hsv
    have hr3 := row_keep (row_alloc hr1 _) hb2 (Nat.le_refl _)
    have hz2 := hb2.size
    go_wp2_with fail
    refine (of_two _ _ a a2 len _ cap c2 bs _ _ (cell_new2 _ _ _ _).1 (cell_new2 _ _ _ _).2 hl hm2 (row_alloc hr3 _) (row_alloc hr2 _)).mono ?_
    rintro e w' ⟨rfl, rfl⟩
    go_wp2_with fail
    refine (zeros_any 4 _ (by omega)).mono ?_
    rintro e w3 ⟨sv3, rfl, hown3, hb3⟩
    obtain ⟨a3, c3, hsv, hr3, hm3⟩ := row_of_own hown3
    subst hsv
    have hz3 := hb3.size
    go_wp2_with fail
    refine (of_one _ 0 _ a3 _ c3 _ _ (cell_new1 _ _ _) hm3 (row_alloc hr3 _)).mono ?_
    rintro e w' ⟨rfl, rfl⟩
    go_wp2
    go_ret
    exact ⟨ret_bool (eq_true_of HE.out), bel_alloc (bel_trans (bel_alloc (bel_trans (bel_alloc hb1 _) hb2) _) hb3) _⟩
  · go_enter Try.func14, Try.ntmps14
    go_wp2_with fail
    refine (known_any _).mono ?_
    rintro e w1 ⟨rfl, hb1⟩
    go_wp2_with fail
    refine (known_any _).mono ?_
    rintro e w2 ⟨rfl, hb2⟩
    go_wp2
    go_ret
    exact ⟨rfl, bel_trans hb1 hb2⟩

end Go.Proofs.Yteemegigooafkaa
