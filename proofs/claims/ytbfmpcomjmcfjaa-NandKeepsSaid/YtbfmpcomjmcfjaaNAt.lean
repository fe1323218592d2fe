/- nand: Geo.Check; has, at. -/
import Derived.Test.YtbfmpcomjmcfjaaNA
namespace Go.Proofs.Ytbfmpcomjmcfjaa
open Go.RowKit

/-- A shape that may be. -/
def GoodG (a b c d : Int) : Prop := 3 ≤ a ∧ a ≤ 16 ∧ 16 ≤ b ∧ b ≤ 64 ∧ 4 ≤ c ∧ c ≤ 32 ∧ 256 ≤ d ∧ d ≤ 1024 ∧ d % 64 = 0

theorem NA.c {B : Nat} {tag : Nat → Option Tag} {L : NL} {S : NS} {w : World} (h : NA B tag L S w) {b o : Nat} {v : Value} (k : Want L S b o v) : w.cell? ⟨b, o, none⟩ = some v := h.want b o v k

set_option maxHeartbeats 400000 in
theorem has_in {B : Nat} {tag : Nat → Option Tag} {L : NL} {S : NS} {w : World} (h : NA B tag L S w) (i : Nat) (hi : i ≤ S.g0) :
    Calls Try.prog 80 #[.pointer (some ⟨L.pa, 0, none⟩), .int .i64 (i : Int)] w fun e w' => e = .returned (.bool true) ∧ w' = w := by
  have c4 := h.c .chips
  have h1 : (0 : Int) ≤ (i : Int) := by omega
  have h2 : decide ((i : Int) < (S.g0 : Int) + 1) = true := by simp; omega
  clear h hi
  go_enter Try.func80, Try.ntmps80
  go_wp2
  go_ret
  exact ⟨rfl, rfl⟩
set_option maxHeartbeats 400000 in
theorem has_neg (pa : Nat) (w : World) (c : Int) (hc : c < 0) :
    Calls Try.prog 80 #[.pointer (some ⟨pa, 0, none⟩), .int .i64 c] w fun e w' => e = .returned (.bool false) ∧ w' = w := by
  have h2 : decide ((0 : Int) ≤ c) = false := by simp; omega
  go_enter Try.func80, Try.ntmps80
  go_wp2
  go_ret
  exact ⟨rfl, rfl⟩
set_option maxHeartbeats 400000 in
theorem has_far {B : Nat} {tag : Nat → Option Tag} {L : NL} {S : NS} {w : World} (h : NA B tag L S w) (c : Int) (hc : (S.g0 : Int) < c) :
    Calls Try.prog 80 #[.pointer (some ⟨L.pa, 0, none⟩), .int .i64 c] w fun e w' => e = .returned (.bool false) ∧ w' = w := by
  have c4 := h.c .chips
  have h1 : (0 : Int) ≤ c := by omega
  have h3 : decide (c < (S.g0 : Int) + 1) = false := by simp; omega
  clear h hc
  go_enter Try.func80, Try.ntmps80
  go_wp2
  go_ret
  exact ⟨rfl, rfl⟩
set_option maxHeartbeats 400000 in
theorem has_nil (c : Int) (w : World) :
    Calls Try.prog 80 #[.pointer none, .int .i64 c] w fun e w' => e = .returned (.bool false) ∧ w' = w := by
  go_enter Try.func80, Try.ntmps80
  go_wp2
  go_ret
  exact ⟨rfl, rfl⟩
set_option maxHeartbeats 800000 in
theorem at_in {B : Nat} {tag : Nat → Option Tag} {L : NL} {S : NS} {w : World} (h : NA B tag L S w) (i j : Nat) (hi : i ≤ S.g0) (hj : j < S.g1) :
    Calls Try.prog 75 #[.pointer (some ⟨L.pa, 0, none⟩), .int .i64 (i : Int), .int .i64 (j : Int)] w fun e w' => e = .returned (.pointer (some ⟨L.bb i, j * 4, none⟩)) ∧ w' = w := by
  have c4 := h.c .chips
  have cb := h.c (.blocks i hi)
  have h1 : decide ((j : Int) < 0) = false := by simp
  have h2 : decide (S.g1 ≤ j) = false := by simp; omega
  have h3 : i < S.g0 + 1 := by omega
  have H := has_in h i hi
  clear h hi
  go_enter Try.func75, Try.ntmps75
  go_wp2_with (go_at_call 80; refine H.mono ?_; rintro e w' ⟨rfl, rfl⟩)
  go_ret
  exact ⟨rfl, rfl⟩
set_option maxHeartbeats 800000 in
theorem at_nochip {B : Nat} {tag : Nat → Option Tag} {L : NL} {S : NS} {w : World} (h : NA B tag L S w) (c d : Int) (hc : c < 0 ∨ (S.g0 : Int) < c) :
    Calls Try.prog 75 #[.pointer (some ⟨L.pa, 0, none⟩), .int .i64 c, .int .i64 d] w fun e w' => e = .returned (.pointer none) ∧ w' = w := by
  have H : Calls Try.prog 80 #[.pointer (some ⟨L.pa, 0, none⟩), .int .i64 c] w fun e w' => e = .returned (.bool false) ∧ w' = w := hc.elim (has_neg L.pa w c) (has_far h c)
  clear h hc
  go_enter Try.func75, Try.ntmps75
  go_wp2_with (go_at_call 80; refine H.mono ?_; rintro e w' ⟨rfl, rfl⟩)
  go_ret
  exact ⟨rfl, rfl⟩
set_option maxHeartbeats 800000 in
theorem at_noblock {B : Nat} {tag : Nat → Option Tag} {L : NL} {S : NS} {w : World} (h : NA B tag L S w) (i : Nat) (d : Int) (hi : i ≤ S.g0) (hd : d < 0 ∨ (S.g1 : Int) ≤ d) :
    Calls Try.prog 75 #[.pointer (some ⟨L.pa, 0, none⟩), .int .i64 (i : Int), .int .i64 d] w fun e w' => e = .returned (.pointer none) ∧ w' = w := by
  have c4 := h.c .chips
  have cb := h.c (.blocks i hi)
  have h3 : i < S.g0 + 1 := by omega
  have H := has_in h i hi
  clear h hi
  rcases hd with hd | hd
  · have h1 : decide ((d : Int) < 0) = true := by simp; omega
    clear hd
    go_enter Try.func75, Try.ntmps75
    go_wp2_with (go_at_call 80; refine H.mono ?_; rintro e w' ⟨rfl, rfl⟩)
    go_ret
    exact ⟨rfl, rfl⟩
  · have h1 : decide ((d : Int) < 0) = false := by simp; omega
    have h2 : decide ((S.g1 : Int) ≤ d) = true := by simp; omega
    clear hd
    go_enter Try.func75, Try.ntmps75
    go_wp2_with (go_at_call 80; refine H.mono ?_; rintro e w' ⟨rfl, rfl⟩)
    go_ret
    exact ⟨rfl, rfl⟩
set_option maxHeartbeats 800000 in
theorem check_good (a b c d : Int) (w : World) (h : GoodG a b c d) : Calls Try.prog 40 #[.agg #[.int .i64 a, .int .i64 b, .int .i64 c, .int .i64 d]] w fun e w' => e = .returned (.int .i64 0) ∧ Below w.heap.size w w' := by
  obtain ⟨h1, h2, h3, h4, h5, h6, h7, h8, h9⟩ := h
  have k1 : decide (a < 3) = false := by simp; omega
  have k2 : decide (16 < a) = false := by simp; omega
  have k3 : decide (b < 16) = false := by simp; omega
  have k4 : decide (64 < b) = false := by simp; omega
  have k5 : decide (c < 4) = false := by simp; omega
  have k6 : decide (32 < c) = false := by simp; omega
  have k7 : decide (d < 256) = false := by simp; omega
  have k8 : decide (1024 < d) = false := by simp; omega
  have k9 : (d % 64 != 0) = false := by simp; omega
  have k0 : (0 : Int) ≤ d := by omega
  clear h1 h2 h3 h4 h5 h6 h7 h8 h9
  go_enter Try.func40, Try.ntmps40
  go_wp2
  go_ret
  exact ⟨rfl, bel_alloc (Below.refl _ w) _⟩

end Go.Proofs.Ytbfmpcomjmcfjaa
