/- gabionlaw10: a case's shape, place, member. -/
import Derived.Test.YtjljikhdhhmfcaaFPage
namespace Go.Proofs.Ytjljikhdhhmfcaa
open Go.RowKit Go.Deep

/-- A number of a case, modulo k. -/
def modN (k : Nat) (x : Int) : Nat := ((IntKind.u64.wrap x).tmod (k : Int)).toNat
theorem modN_eq (k : Nat) (x : Int) (h0 : 0 < k) (h1 : k ≤ 1000) : (IntKind.u64.wrap x).tmod (k : Int) = (modN k x : Int) ∧ modN k x < k := by
  have h2 : 0 ≤ IntKind.u64.wrap x := by rw [IntKind.wrap_u64]; omega
  have h3 : 0 ≤ (IntKind.u64.wrap x).tmod (k : Int) := Int.tmod_nonneg _ h2
  have h4 : (IntKind.u64.wrap x).tmod (k : Int) < (k : Int) := Int.tmod_lt_of_pos _ (by omega)
  unfold modN
  omega
/-- How many members. -/
def chipsOf (c : Int) : Nat := 3 + modN 5 c
theorem chips_eq (c : Int) : wrap64 (3 + wrap64 ((IntKind.u64.wrap c).tmod 5)) = (chipsOf c : Int) ∧ 3 ≤ chipsOf c ∧ chipsOf c ≤ 7 := by
  obtain ⟨h1, h2⟩ := modN_eq 5 c (by omega) (by omega)
  rw [show ((5 : Nat) : Int) = 5 from rfl] at h1
  have e1 : wrap64 ((IntKind.u64.wrap c).tmod 5) = (modN 5 c : Int) := by rw [h1]; exact IntWalk.wrap64_in _ (by omega)
  rw [e1]
  refine ⟨?_, by unfold chipsOf; omega, by unfold chipsOf; omega⟩
  rw [IntWalk.wrap64_in _ (by omega)]
  unfold chipsOf
  omega
theorem place_eq (k : Nat) (x : Int) (h0 : 0 < k) (h1 : k ≤ 1000) : wrap64 ((IntKind.u64.wrap x).tmod (k : Int)) = (modN k x : Int) := by
  obtain ⟨h2, h3⟩ := modN_eq k x h0 h1
  rw [h2]
  exact IntWalk.wrap64_in _ (by omega)
theorem case_geo (c : Int) : GoodG (chipsOf c) 20 6 256 := by
  have := chips_eq c
  unfold GoodG
  omega
set_option maxRecDepth 100000 in
theorem caseShape_any (c sg rw : Int) (ha : Option Addr) (hn hc : Nat) (fa : Option Addr) (fn fc : Nat) (dd sp : Int) (ba : Option Addr) (bn bc : Nat) (w : World) :
    Calls Try.prog 18 #[.agg #[.int .i64 c, .int .i64 sg, .int .i64 rw, .slice ha hn hc, .slice fa fn fc, .int .i64 dd, .int .i64 sp, .slice ba bn bc]] w fun e w' => e = .returned (.agg #[.int .i64 (chipsOf c : Int), .int .i64 20, .int .i64 6, .int .i64 256]) ∧ Below w.heap.size w w' := by
  have hq := (chips_eq c).1
  go_enter Try.func18, Try.ntmps18
  go_wp2
  rw [← hq]
  exact bodyPost_ret (v := .agg #[.int .i64 (wrap64 (3 + wrap64 ((IntKind.u64.wrap c).tmod 5))), .int .i64 20, .int .i64 6, .int .i64 256]) (by simp [results, Try.results18, go_sem]) rfl ⟨rfl, bel_alloc (bel_alloc (Below.refl _ w) _) _⟩
set_option maxRecDepth 100000 in
theorem casePlace_any (c sg rw : Int) (ha : Option Addr) (hn hc : Nat) (fa : Option Addr) (fn fc : Nat) (dd sp : Int) (ba : Option Addr) (bn bc : Nat) (w : World) :
    Calls Try.prog 20 #[.agg #[.int .i64 c, .int .i64 sg, .int .i64 rw, .slice ha hn hc, .slice fa fn fc, .int .i64 dd, .int .i64 sp, .slice ba bn bc]] w fun e w' => e = .returned (.tuple #[.int .i64 (modN 15 sg : Int), .int .i64 (modN 6 rw : Int)]) ∧ Below w.heap.size w w' := by
  have hq := place_eq 15 sg (by omega) (by omega)
  have hr := place_eq 6 rw (by omega) (by omega)
  rw [show ((15 : Nat) : Int) = 15 from rfl] at hq
  rw [show ((6 : Nat) : Int) = 6 from rfl] at hr
  have hq' : IntKind.i64.wrap ((IntKind.u64.wrap sg).tmod 15) = (modN 15 sg : Int) := (IntWalk.i64_left _).trans hq
  have hr' : IntKind.i64.wrap ((IntKind.u64.wrap rw).tmod 6) = (modN 6 rw : Int) := (IntWalk.i64_left _).trans hr
  go_enter Try.func20, Try.ntmps20
  have l0 := heap_alloc_new w (.cells #[.int .i64 c, .int .i64 sg, .int .i64 rw, .slice ha hn hc, .slice fa fn fc, .int .i64 dd, .int .i64 sp, .slice ba bn bc] 52)
  have hb := bel_alloc (Below.refl _ w) (.cells #[.int .i64 c, .int .i64 sg, .int .i64 rw, .slice ha hn hc, .slice fa fn fc, .int .i64 dd, .int .i64 sp, .slice ba bn bc] 52)
  go_upto_region 1 with fail
  obtain ⟨xb, hxb⟩ : ∃ x, x = w.heap.size := ⟨_, rfl⟩
  obtain ⟨w1, hw1⟩ : ∃ x, x = w.alloc (.cells #[.int .i64 c, .int .i64 sg, .int .i64 rw, .slice ha hn hc, .slice fa fn fc, .int .i64 dd, .int .i64 sp, .slice ba bn bc] 52) := ⟨_, rfl⟩
  rw [← hw1, ← hxb] at l0
  rw [← hw1] at hb
  rw [← hw1, ← hxb]
  have HB := Lib.hid hb
  obtain ⟨z0, z1, z2, z3, z4, z5, z6, z7⟩ := eight_at l0
  clear hw1 hxb hb l0
  have hS0 : w1.drew.cell? ⟨xb, 1, none⟩ = some (.int .i64 sg) ∧ w1.drew.cell? ⟨xb, 2, none⟩ = some (.int .i64 rw) := ⟨z1, z2⟩
  go_wp2_with fail
  go_region_held3 (fun x => x.cell? ⟨xb, 1, none⟩ = some (.int .i64 sg) ∧ x.cell? ⟨xb, 2, none⟩ = some (.int .i64 rw))
    (first | with_reducible exact hS0 | go_keep) (fail)
  all_goals
    clear hS0
    go_wp2
    exact bodyPost_ret (v := .tuple #[.int .i64 (modN 15 sg : Int), .int .i64 (modN 6 rw : Int)]) (by simp [results, Try.results20, go_sem]) rfl ⟨rfl, HB.out.drew⟩
/-- Which member a number means; -1: none. -/
def memC (n : Nat) (x : Int) : Int := if x < 0 then -1 else x.tmod (n : Int)
theorem memC_bd (n : Nat) (x : Int) (h : 0 < n) : -1 ≤ memC n x ∧ memC n x < (n : Int) := by
  unfold memC
  split
  · omega
  · have h1 := Int.tmod_nonneg (n : Int) (show 0 ≤ x by omega)
    have h2 := Int.tmod_lt_of_pos x (show 0 < (n : Int) by omega)
    omega
set_option maxRecDepth 100000 in
theorem caseMember_any (c sg rw : Int) (ha : Option Addr) (hn hc : Nat) (fa : Option Addr) (fn fc : Nat) (dd sp : Int) (ba : Option Addr) (bn bc : Nat) (n : Int) (w : World) :
    Calls Try.prog 22 #[.agg #[.int .i64 c, .int .i64 sg, .int .i64 rw, .slice ha hn hc, .slice fa fn fc, .int .i64 dd, .int .i64 sp, .slice ba bn bc], .int .i64 n] w fun e w' => e = .returned (.int .i64 (memC (chipsOf c) n)) ∧ Below w.heap.size w w' := by
  have HS := Lib.hid fun (x : World) => caseShape_any c sg rw ha hn hc fa fn fc dd sp ba bn bc x
  by_cases hneg : n < 0
  · have q1 : decide (n < 0) = true := by simpa using hneg
    have e1 : memC (chipsOf c) n = -1 := by unfold memC; rw [if_pos hneg]
    rw [e1]
    go_enter Try.func22, Try.ntmps22
    go_wp2
    go_ret
    exact ⟨rfl, bel_alloc (Below.refl _ w) _⟩
  · have q1 : decide (n < 0) = false := by simpa using hneg
    have e1 : memC (chipsOf c) n = n.tmod (chipsOf c : Int) := by unfold memC; rw [if_neg hneg]
    have hb := memC_bd (chipsOf c) n (by have := chips_eq c; omega)
    rw [e1] at hb ⊢
    have hch := (chips_eq c).2
    go_enter Try.func22, Try.ntmps22
    go_wp2_with fail
    ((with_reducible refine (HS.out _).mono ?_))
    rintro e w1 ⟨rfl, hb1⟩
    have HB := Lib.hid (bel_trans (bel_alloc (Below.refl _ w) _) hb1)
    have q2 : ((chipsOf c : Int) == 0) = false := by simp; omega
    have q3 : ¬ ((chipsOf c : Int) = 0) := by omega
    have q4 : wrap64 (n.tmod (chipsOf c : Int)) = n.tmod (chipsOf c : Int) := IntWalk.wrap64_in _ (by omega)
    have hfd : ∀ w : World, (Instr.field 54 (.agg #[.int .i64 (chipsOf c : Int), .int .i64 20, .int .i64 6, .int .i64 256]) 0).run Try.prog w = .ok (.int .i64 (chipsOf c : Int)) w := fun _ => by kernel_rfl
    clear hb1 e1
    go_wp2
    go_ret
    exact ⟨by rw [Int.tmod_eq_emod_of_nonneg (show 0 ≤ n by omega)]; rfl, HB.out⟩
end Go.Proofs.Ytjljikhdhhmfcaa
