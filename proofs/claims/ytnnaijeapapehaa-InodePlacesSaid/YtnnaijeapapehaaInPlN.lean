/- InodePlaces: numbers. -/
import Derived.Test.YtnnaijeapapehaaInNexts
namespace Go.Proofs.Ytnnaijeapapehaa
open Go.RowKit

theorem caseP_box {W : World} {b : Nat} {v0 v1 v2 v3 : Value} {t : TypeId} (h : W.heap[b]? = some (.cells #[v0, v1, v2, v3] t (0, 0))) :
    W.cell? ⟨b, 0, none⟩ = some v0 ∧ W.cell? ⟨b, 1, none⟩ = some v1 ∧ W.cell? ⟨b, 2, none⟩ = some v2 ∧ W.cell? ⟨b, 3, none⟩ = some v3 := by
  simp [World.cell?, h]
/-- Two places are one only if the numbers are. -/
theorem place_inj (x y m : Int) (hq : x / m = y / m) (hr : x % m = y % m) : x = y := by
  have a := Int.emod_add_mul_ediv x m
  have b := Int.emod_add_mul_ediv y m
  rw [hq, hr] at a
  omega
/-- A bit's place, told in two ways; it stands ahead of files' blocks. -/
theorem bit_place (x b s i q r d : Int) (h0 : 0 ≤ x) (h1 : x < b) (hs : 1 ≤ s) (hi : x / 8 = i) (hq : i / s = q) (hr : i % s = r) (hd : x % 8 = d) : x / (8 * s) = q ∧ q < ceilI b (8 * s) ∧ 0 ≤ i ∧ i ≤ x ∧ 0 ≤ q ∧ q ≤ x ∧ 0 ≤ r ∧ r < s ∧ 0 ≤ d ∧ d ≤ 7 := by
  have e1 : x / (8 * s) = q := by rw [← hq, ← hi, Int.ediv_ediv_of_nonneg (by omega)]
  have i0 : 0 ≤ i ∧ i ≤ x := by omega
  have q0 := quo_bd i s q i0.1 hs hq
  have r0 := rem_bd i s r hs hr
  refine ⟨e1, ?_, i0.1, i0.2, q0.1, by omega, r0.1, r0.2, by omega, by omega⟩
  have e2 : x / (8 * s) ≤ (b - 1) / (8 * s) := Int.ediv_le_ediv (by omega) (by omega)
  have e3 : ceilI b (8 * s) = (b - 1) / (8 * s) + 1 := by
    unfold ceilI
    rw [show b + 8 * s - 1 = (b - 1) + 1 * (8 * s) by omega, Int.add_mul_ediv_right _ _ (by omega)]
  omega
theorem bit_forms (x b s i q r d fi bt : Int) (h0 : 0 ≤ x) (h1 : x < b) (hb : b ≤ 100000) (hs : 1 ≤ s) (hs1 : s ≤ 1024) (hi : x / 8 = i) (hq : i / s = q) (hr : i % s = r) (hd : x % 8 = d) (hb0 : 0 ≤ bt) (hb1 : bt ≤ 1000000) (hf : fi = bt + ceilI b (8 * s)) :
    IntKind.i64.wrap (x.tdiv (8 * s)) = q ∧ wrap64 (x / (8 * s)) = q ∧ IntKind.i64.wrap (bt + q) = bt + q ∧ wrap64 (bt + q) = bt + q ∧ i.tmod s = r ∧ i % s = r ∧ IntKind.u64.wrap d = d ∧ decide (bt + q < fi) = true ∧ IntKind.i64.wrap x = x ∧ wrap64 x = x ∧ IntKind.i64.wrap i = i ∧ wrap64 i = i ∧ IntKind.i64.wrap r = r ∧ wrap64 r = r ∧ 8 * s ≠ 0 ∧ s ≠ 0 ∧ wrap64 q = q ∧ IntKind.i64.wrap q = q := by
  obtain ⟨e1, e2, i0, i1, q0, q1, r0, r1, d0, d1⟩ := bit_place x b s i q r d h0 h1 hs hi hq hr hd
  refine ⟨tquo x (8 * s) q h0 (by omega) (by omega) e1, by rw [e1]; exact w64_id q q0 (by omega), wi64_id _ (by omega) (by omega), w64_id _ (by omega) (by omega), trem i s r i0 hr, hr, by rw [IntKind.wrap_u64]; omega, by simp; omega, wi64_id _ (by omega) (by omega), w64_id _ (by omega) (by omega), wi64_id _ (by omega) (by omega), w64_id _ (by omega) (by omega), wi64_id _ (by omega) (by omega), w64_id _ (by omega) (by omega), by omega, by omega, w64_id _ (by omega) (by omega), wi64_id _ (by omega) (by omega)⟩
theorem bit_inj (x y s : Int) (h1 : x / 8 / s = y / 8 / s) (h2 : x / 8 % s = y / 8 % s) (h3 : x % 8 = y % 8) : x = y := by
  have := place_inj (x / 8) (y / 8) s h1 h2
  omega
theorem q_lt (i m b0 b1 q : Int) (h : b0 * m = b1) (hq : i / m = q) (h1 : i < b1) (hm : 1 ≤ m) : q < b0 := by
  rw [← hq]; exact Int.ediv_lt_of_lt_mul (by omega) (by rw [h]; exact h1)
end Go.Proofs.Ytnnaijeapapehaa
