/- WearVictims: walked. -/
import Derived.Test.YtjimgbeockfpmaaWearV
namespace Go.Proofs.Ytjimgbeockfpmaa
open Go.RowKit

theorem wearVictims_all (a : Option Addr) (len cap : Nat) (G : List SegV) (w : World) (hr : RowG w a len G ∧ len ≤ cap ∧ cap ≤ maxLen) :
    Calls Try.prog 3 #[.slice a len cap] w fun e w' => e = .returned (.bool true) ∧ Below w.heap.size w w' := by
  obtain ⟨hr, hlc, hcm⟩ := hr
  by_cases hl : 100 < len
  · have t1 : decide ((100 : Int) < (len : Int)) = true := by simp; omega
    have t2 : decide (100 < len) = true := by simpa using hl
    go_enter Try.func3, Try.ntmps3
    go_wp2_with fail
    refine (chosen_any w).mono ?_
    rintro e w1 ⟨rfl, hb1⟩
    go_wp2_with fail
    go_ret
    exact ⟨rfl, hb1⟩
  · have t1 : decide ((100 : Int) < (len : Int)) = false := by simp; omega
    have t2 : decide (100 < len) = false := by simpa using hl
    have hlen := hr.1
    go_enter Try.func3, Try.ntmps3
    go_wp2_with fail
    refine (chosen_any w).mono ?_
    rintro e w1 ⟨rfl, hb1⟩
    go_wp2_with fail
    refine (victim_any a len cap G w1 (hr.step hb1) hlc hcm).mono ?_
    rintro e w2 ⟨r, rfl, hv, hb2⟩
    have hb12 := wbel_trans hb1 hb2
    go_wp2_with fail
    refine (of_any a len cap G w2 (hr.step hb12) (by omega)).mono ?_
    rintro e w3 ⟨v, rfl, ho, hb3⟩
    have hb13 := wbel_trans hb12 hb3
    obtain ⟨a4, c4, hsv, _, _, hrow⟩ := ownH_row hr.2.1 ho
    rw [hlen] at hsv hrow
    subst hsv
    go_wp2_with fail
    refine (refVictim_any a4 len c4 G w3 hrow (by omega)).mono ?_
    rintro e w4 ⟨r', rfl, hv', hb4⟩
    have hb14 := wbel_trans hb13 hb4
    obtain rfl : r = r' := victim_same hv hv'
    have tr : (r == r) = true := by simp
    go_wp2_with fail
    go_ret
    exact ⟨rfl, hb14⟩
end Go.Proofs.Ytjimgbeockfpmaa
