/- gabionlaw10: a case's shape, place, member. -/
import Derived.Test.YtnhklomofebfaaaFPage
namespace Go.Proofs.Ytnhklomofebfaaa
open Go.RowKit Go.Deep

/-- A number of a case, modulo k. -/
def modN (k : Nat) (x : Int) : Nat := ((IntKind.u64.wrap x).tmod (k : Int)).toNat
theorem modN_eq (k : Nat) (x : Int) (h0 : 0 < k) (h1 : k ≤ 1000) : (IntKind.u64.wrap x).tmod (k : Int) = (modN k x : Int) ∧ modN k x < k := by
  have h2 : 0 ≤ IntKind.u64.wrap x := by rw [IntKind.wrap_u64]; omega
  have h3 : 0 ≤ (IntKind.u64.wrap x).tmod (k : Int) := Int.tmod_nonneg _ h2
  have h4 : (IntKind.u64.wrap x).tmod (k : Int) < (k : Int) := Int.tmod_lt_of_pos _ (by omega)
  unfold modN
  omega
/-- How many members. -/
def chipsOf (c : Int) : Nat := 3 + modN 5 c
theorem chips_eq (c : Int) : wrap64 (3 + wrap64 ((IntKind.u64.wrap c).tmod 5)) = (chipsOf c : Int) ∧ 3 ≤ chipsOf c ∧ chipsOf c ≤ 7 := by
  obtain ⟨h1, h2⟩ := modN_eq 5 c (by omega) (by omega)
  rw [show ((5 : Nat) : Int) = 5 from rfl] at h1
  have e1 : wrap64 ((IntKind.u64.wrap c).tmod 5) = (modN 5 c : Int) := by rw [h1]; exact IntWalk.wrap64_in _ (by omega)
  rw [e1]
  refine ⟨?_, by unfold chipsOf; omega, by unfold chipsOf; omega⟩
  rw [IntWalk.wrap64_in _ (by omega)]
  unfold chipsOf
  omega
theorem place_eq (k : Nat) (x : Int) (h0 : 0 < k) (h1 : k ≤ 1000) : wrap64 ((IntKind.u64.wrap x).tmod (k : Int)) = (modN k x : Int) := by
  obtain ⟨h2, h3⟩ := modN_eq k x h0 h1
  rw [h2]
  exact IntWalk.wrap64_in _ (by omega)
theorem case_geo (c : Int) : GoodG (chipsOf c) 20 6 256 := by
  have := chips_eq c
  unfold GoodG
  omega
set_option maxRecDepth 100000 in
theorem caseShape_any (c sg rw : Int) (ha : Option Addr) (hn hc : Nat) (fa : Option Addr) (fn fc : Nat) (dd sp : Int) (ba : Option Addr) (bn bc : Nat) (w : World) :
    Calls Try.prog 5 #[.agg #[.int .i64 c, .int .i64 sg, .int .i64 rw, .slice ha hn hc, .slice fa fn fc, .int .i64 dd, .int .i64 sp, .slice ba bn bc]] w fun e w' => e = .returned (.agg #[.int .i64 (chipsOf c : Int), .int .i64 20, .int .i64 6, .int .i64 256]) ∧ Below w.heap.size w w' := by
  have hq := (chips_eq c).1
  go_enter Try.func5, Try.ntmps5
  go_wp2
  rw [← hq]
  exact bodyPost_ret (v := .agg #[.int .i64 (wrap64 (3 + wrap64 ((IntKind.u64.wrap c).tmod 5))), .int .i64 20, .int .i64 6, .int .i64 256]) (by simp [results, Try.results5, go_sem]) rfl ⟨rfl, bel_alloc (bel_alloc (Below.refl _ w) _) _⟩
/-- Which member a number means; -1: none. -/
def memC (n : Nat) (x : Int) : Int := if x < 0 then -1 else x.tmod (n : Int)
theorem memC_bd (n : Nat) (x : Int) (h : 0 < n) : -1 ≤ memC n x ∧ memC n x < (n : Int) := by
  unfold memC
  split
  · omega
  · have h1 := Int.tmod_nonneg (n : Int) (show 0 ≤ x by omega)
    have h2 := Int.tmod_lt_of_pos x (show 0 < (n : Int) by omega)
    omega
end Go.Proofs.Ytnhklomofebfaaa
