/- inode.Layout: At, Bit, Most. -/
import Derived.Test.YtnnaijeapapehaaInRefLay
namespace Go.Proofs.Ytnnaijeapapehaa
open Go.RowKit

theorem w64_id (x : Int) (h0 : 0 ≤ x) (h1 : x ≤ 10000000000) : wrap64 x = x := by unfold wrap64; omega
theorem wi64_id (x : Int) (h0 : 0 ≤ x) (h1 : x ≤ 10000000000) : IntKind.i64.wrap x = x := by rw [IntKind.wrap_i64]; omega
theorem layV_box {W : World} {b : Nat} {v0 v1 v2 v3 v4 : Value} {t : TypeId} (h : W.heap[b]? = some (.cells #[v0, v1, v2, v3, v4] t (0, 0))) :
    W.cell? ⟨b, 0, none⟩ = some v0 ∧ W.cell? ⟨b, 1, none⟩ = some v1 ∧ W.cell? ⟨b, 2, none⟩ = some v2 ∧ W.cell? ⟨b, 3, none⟩ = some v3 ∧ W.cell? ⟨b, 4, none⟩ = some v4 := by
  obtain ⟨h0, h1, h2, h3, h4, _⟩ := five_lay h
  exact ⟨h0, h1, h2, h3, h4⟩
theorem at_nums (i m q r : Int) (h0 : 0 ≤ i) (h1 : i ≤ 4294967295) (h2 : 1 ≤ m) (h3 : m ≤ 16) (hq : i / m = q) (hr : i % m = r) :
    IntKind.i64.wrap (i.tdiv m) = q ∧ i.tmod m = r ∧ wrap64 (i / m) = q ∧ i % m = r ∧ IntKind.i64.wrap (r * 64) = r * 64 ∧ m ≠ 0 ∧ 0 ≤ q ∧ 0 ≤ r ∧ r < m ∧ IntKind.i64.wrap r = r ∧ q ≤ 4294967295 := by
  have a := quo_bd i m q h0 h2 hq
  have b := rem_bd i m r h2 hr
  refine ⟨?_, trem i m r h0 hr, ?_, hr, ?_, by omega, a.1, b.1, b.2, ?_, by omega⟩
  · rw [IntWalk.i64_quo _ _ ⟨by omega, by omega, h2⟩]; exact hq
  · rw [hq]; exact w64_id q a.1 (by omega)
  · exact wi64_id _ (by omega) (by omega)
  · exact wi64_id _ (by omega) (by omega)
set_option maxRecDepth 100000 in
set_option maxHeartbeats 800000 in
theorem at_no (nd bt fi b s m : Int) (n : Int) (w : World) (hs0 : 64 ≤ s) (hs1 : s ≤ 1024) (hm : s / 64 = m) (hn0 : 0 ≤ n) (hn1 : n ≤ 4294967295) (h : n < 1 ∨ nd < n) :
    Calls Try.prog 19 #[.agg #[.int .i64 nd, .int .i64 bt, .int .i64 fi, .int .i64 b, .int .i64 s], .int .u32 n] w fun e w' => e = .returned (.tuple #[.int .i64 0, .int .i64 0, .bool false]) ∧ Below w.heap.size w w' := by
  have u1 := tquo s 64 m (by omega) (by omega) (by omega) hm
  obtain ⟨z0, z1, z2, z3, z4⟩ := layV_box (heap_alloc_new w (.cells #[.int .i64 nd, .int .i64 bt, .int .i64 fi, .int .i64 b, .int .i64 s] 49))
  have u2 : IntKind.i64.wrap n = n := wi64_id n hn0 (by omega)
  by_cases c : n < 1
  · have t1 : decide (n < 1) = true := by simpa using c
    clear h hm
    go_enter Try.func19, Try.ntmps19
    go_wp2
    go_ret3
    exact ⟨rfl, bel_alloc (Below.refl _ _) _⟩
  · have t1 : decide (n < 1) = false := by simpa using c
    have t2 : decide (nd < n) = true := by simp; omega
    clear h hm
    go_enter Try.func19, Try.ntmps19
    go_wp2
    go_ret3
    exact ⟨rfl, bel_alloc (Below.refl _ _) _⟩
set_option maxRecDepth 100000 in
set_option maxHeartbeats 1600000 in
theorem at_yes (nd bt fi b s m : Int) (n i q r : Int) (w : World) (hs0 : 64 ≤ s) (hs1 : s ≤ 1024) (hm : s / 64 = m) (hn0 : 1 ≤ n) (hn1 : n ≤ 4294967295) (hn : n ≤ nd) (hi : n - 1 = i) (hq : i / m = q) (hr : i % m = r) :
    Calls Try.prog 19 #[.agg #[.int .i64 nd, .int .i64 bt, .int .i64 fi, .int .i64 b, .int .i64 s], .int .u32 n] w fun e w' => e = .returned (.tuple #[.int .i64 q, .int .i64 (r * 64), .bool true]) ∧ Below w.heap.size w w' := by
  have u1 := tquo s 64 m (by omega) (by omega) (by omega) hm
  have m0 : 1 ≤ m := by omega
  have HU := Lib.hid (at_nums i m q r (by omega) (by omega) m0 (by omega) hq hr)
  obtain ⟨z0, z1, z2, z3, z4⟩ := layV_box (heap_alloc_new w (.cells #[.int .i64 nd, .int .i64 bt, .int .i64 fi, .int .i64 b, .int .i64 s] 49))
  have u2 : IntKind.i64.wrap n = n := wi64_id n (by omega) (by omega)
  have u3 : IntKind.i64.wrap i = i := wi64_id i (by omega) (by omega)
  have t1 : decide (n < 1) = false := by simp; omega
  have t2 : decide (nd < n) = false := by simp; omega
  have t3 : decide (m < 1) = false := by simp; omega
  have i0 : 0 ≤ i := by omega
  have i1 : i ≤ 4294967294 := by omega
  clear hm hq hr
  go_enter Try.func19, Try.ntmps19
  go_wp2_with fail
  obtain ⟨a1, a2, a3, a4, a5, a6, a7, a8, a9, a10, a11⟩ := HU.out
  go_quiet (fail)
  all_goals
    go_wp2_with fail
    go_ret3
    exact ⟨rfl, (bel_alloc (Below.refl _ _) _).trans ⟨rfl, rfl, rfl, by simp, fun _ _ => rfl⟩⟩
set_option maxRecDepth 100000 in
set_option maxHeartbeats 1600000 in
theorem bit_any (nd bt fi b s : Int) (n i q r d : Int) (w : World) (hs0 : 1 ≤ s) (hs1 : s ≤ 1024) (hb0 : 0 ≤ bt) (hb1 : bt ≤ 1000000000) (hn0 : 0 ≤ n) (hn1 : n ≤ 4294967295) (hi : n / 8 = i) (hq : i / s = q) (hr : i % s = r) (hd : n % 8 = d) :
    Calls Try.prog 20 #[.agg #[.int .i64 nd, .int .i64 bt, .int .i64 fi, .int .i64 b, .int .i64 s], .int .u32 n] w fun e w' => e = .returned (.tuple #[.int .i64 (bt + q), .int .i64 r, .int .u64 d]) ∧ Below w.heap.size w w' := by
  have i0 : 0 ≤ i ∧ i ≤ 536870912 := by omega
  have q0 := quo_bd i s q i0.1 hs0 hq
  have r0 := rem_bd i s r hs0 hr
  have d0 : 0 ≤ d ∧ d ≤ 7 := by omega
  have HU : Hid (IntKind.i64.wrap (i.tdiv s) = q ∧ i.tmod s = r ∧ wrap64 (i / s) = q ∧ i % s = r ∧ IntKind.i64.wrap (bt + q) = bt + q ∧ wrap64 (bt + q) = bt + q ∧ IntKind.u64.wrap d = d ∧ IntKind.i64.wrap r = r ∧ s ≠ 0 ∧ wrap64 q = q ∧ IntKind.i64.wrap q = q) := Lib.hid ⟨by
    rw [IntWalk.i64_quo _ _ ⟨i0.1, by omega, hs0⟩]; exact hq, trem i s r i0.1 hr, by rw [hq]; exact w64_id q q0.1 (by omega), hr, wi64_id _ (by omega) (by omega), w64_id _ (by omega) (by omega), by rw [IntKind.wrap_u64]; omega, wi64_id _ (by omega) (by omega), by omega, w64_id _ (by omega) (by omega), wi64_id _ (by omega) (by omega)⟩
  have u1 : IntKind.i64.wrap i = i := wi64_id i i0.1 (by omega)
  obtain ⟨i1, i2⟩ := i0
  obtain ⟨z0, z1, z2, z3, z4⟩ := layV_box (heap_alloc_new w (.cells #[.int .i64 nd, .int .i64 bt, .int .i64 fi, .int .i64 b, .int .i64 s] 49))
  have t1 : decide (s < 1) = false := by simp; omega
  clear hq hr r0 d0 q0
  go_enter Try.func20, Try.ntmps20
  go_wp2_with fail
  obtain ⟨a1, a2, a3, a4, a5, a6, a7, a8, a9, a10, a11⟩ := HU.out
  go_quiet (fail)
  all_goals
    go_wp2_with fail
    go_ret3
    exact ⟨rfl, (bel_alloc (Below.refl _ _) _).trans ⟨rfl, rfl, rfl, by simp, fun _ _ => rfl⟩⟩
theorem most_bd (k s p v : Int) (hk0 : 0 ≤ k) (hk1 : k ≤ 256) (hs0 : 1 ≤ s) (hs1 : s ≤ 1024) (hp : k * k = p) (hv : (8 + k + p) * s = v) : 0 ≤ p ∧ p ≤ 65536 ∧ 0 ≤ v ∧ v ≤ 67379200 := by
  have a : k * k ≤ 256 * 256 := Int.mul_le_mul hk1 hk1 hk0 (by omega)
  have b : 0 ≤ k * k := Int.mul_nonneg hk0 hk0
  rw [hp] at a b
  have c : (8 + k + p) * s ≤ 65800 * 1024 := Int.mul_le_mul (by omega) hs1 (by omega) (by omega)
  have d : 0 ≤ (8 + k + p) * s := Int.mul_nonneg (by omega) (by omega)
  rw [hv] at c d
  omega
set_option maxRecDepth 100000 in
set_option maxHeartbeats 1600000 in
theorem most_any (nd bt fi b s : Int) (k p v : Int) (w : World) (hs0 : 1 ≤ s) (hs1 : s ≤ 1024) (hk : s / 4 = k) (hp : k * k = p) (hv : (8 + k + p) * s = v) :
    Calls Try.prog 21 #[.agg #[.int .i64 nd, .int .i64 bt, .int .i64 fi, .int .i64 b, .int .i64 s]] w fun e w' => e = .returned (.int .i64 v) ∧ Below w.heap.size w w' := by
  obtain ⟨p0, p1, v0, v1⟩ := most_bd k s p v (by omega) (by omega) hs0 hs1 hp hv
  have u1 := tquo s 4 k (by omega) (by omega) (by omega) hk
  obtain ⟨z0, z1, z2, z3, z4⟩ := layV_box (heap_alloc_new w (.cells #[.int .i64 nd, .int .i64 bt, .int .i64 fi, .int .i64 b, .int .i64 s] 49))
  have k0 : 0 ≤ k := by omega
  have k1 : k ≤ 256 := by omega
  have m1 : (if (2147483648 : Int) < v then 2147483648 else v) = v := by rw [if_neg (by omega)]
  have u2 : IntKind.i64.wrap v = v := wi64_id v v0 (by omega)
  clear hk
  go_enter Try.func21, Try.ntmps21
  go_wp2_with fail
  go_ret
  exact ⟨rfl, bel_alloc (Below.refl _ _) _⟩
end Go.Proofs.Ytnnaijeapapehaa
