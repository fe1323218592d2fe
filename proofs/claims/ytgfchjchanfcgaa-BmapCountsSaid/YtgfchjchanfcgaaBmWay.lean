/- bmap.way, bmap.Find; the law's small example. -/
import Derived.Test.YtgfchjchanfcgaaAppend
import Derived.StillTailTactics
import Derived.Deep.DeepCutAuto
import Derived.DeepKeys
namespace Go.Proofs.Ytgfchjchanfcgaa
open Go.RowKit

theorem three_cells {W : World} {b : Nat} {v0 v1 v2 : Value} {t : TypeId} (h : W.heap[b]? = some (.cells #[v0, v1, v2] t (0, 0))) :
    W.cell? ⟨b, 0, none⟩ = some v0 ∧ W.cell? ⟨b, 1, none⟩ = some v1 ∧ W.cell? ⟨b, 2, none⟩ = some v2 ∧ (∀ o, W.frozen? ⟨b, o, none⟩ = false) := by
  simp [World.cell?, World.frozen?, h]
def wayV (d a b : Int) : Value := .agg #[.int .i64 d, .int .i64 a, .int .i64 b]
set_option maxHeartbeats 800000 in
theorem way0_any (n k : Int) (w : World) (h1 : n < 8) :
    Calls Try.prog 26 #[.int .i64 n, .int .i64 k] w fun e w' => e = .returned (wayV 0 n 0) ∧ Below w.heap.size w w' := by
  have t1 : decide (n < 8) = true := by simpa using h1
  go_enter Try.func26, Try.ntmps26
  go_wp2
  exact bodyPost_ret (v := wayV 0 n 0) (by simp [results, Try.results26, go_sem, wayV]) rfl ⟨rfl, (Below.refl _ _).alloc (Nat.le_refl _) _⟩
set_option maxHeartbeats 800000 in
theorem way1_any (n k : Int) (w : World) (h0 : 8 ≤ n) (h1 : n < 8 + k) (hk : k ≤ 1000) :
    Calls Try.prog 26 #[.int .i64 n, .int .i64 k] w fun e w' => e = .returned (wayV 1 (n - 8) 0) ∧ Below w.heap.size w w' := by
  have t1 : decide (n < 8) = false := by simp; omega
  have t2 : decide (n - 8 < k) = true := by simp; omega
  go_enter Try.func26, Try.ntmps26
  go_wp2
  exact bodyPost_ret (v := wayV 1 (n - 8) 0) (by simp [results, Try.results26, go_sem, wayV]) rfl ⟨rfl, (Below.refl _ _).alloc (Nat.le_refl _) _⟩
set_option maxHeartbeats 800000 in
theorem way2_any (n k m q r : Int) (w : World) (h0 : 8 + k ≤ n) (hm : n - 8 - k = m) (h1 : m < k * k) (hk0 : 1 ≤ k) (hk : k ≤ 1000) (hn : n ≤ 9223372036854775807) (hq : m / k = q) (hr : m % k = r) :
    Calls Try.prog 26 #[.int .i64 n, .int .i64 k] w fun e w' => e = .returned (wayV 2 q r) ∧ Below w.heap.size w w' := by
  have hkk : k * k ≤ 1000 * 1000 := Int.mul_le_mul hk hk (by omega) (by omega)
  have hkk0 : 0 ≤ k * k := Int.mul_nonneg (by omega) (by omega)
  have t1 : decide (n < 8) = false := by simp; omega
  have t2 : decide (n - 8 < k) = false := by simp; omega
  have t3 : decide (m < k * k) = true := by simp; omega
  have u1 : IntKind.i64.wrap (n - 8 - k) = m := by rw [IntKind.wrap_i64]; omega
  have u2 : IntKind.i64.wrap (k * k) = k * k := by rw [IntKind.wrap_i64]; omega
  have hm0 : 0 ≤ m := by omega
  have hm1 : m ≤ 1000000 := by omega
  have nz : k ≠ 0 := by omega
  have u3 : IntKind.i64.wrap (m.tdiv k) = q := by rw [IntWalk.i64_quo _ _ ⟨hm0, by omega, hk0⟩]; exact hq
  have u4 : m.tmod k = r := by rw [Int.tmod_eq_emod_of_nonneg hm0]; exact hr
  have hr0 : 0 ≤ r := by rw [← hr]; exact Int.emod_nonneg _ nz
  have hr1 : r < k := by rw [← hr]; exact Int.emod_lt_of_pos _ (by omega)
  have u6 : IntKind.i64.wrap r = r := by rw [IntKind.wrap_i64]; omega
  have hq0 : 0 ≤ q := by rw [← hq]; exact Int.ediv_nonneg (by omega) (by omega)
  have hq1 : q ≤ m := by rw [← hq]; exact Int.ediv_le_self _ (by omega)
  have u5 : IntKind.i64.wrap q = q := by rw [IntKind.wrap_i64]; omega
  clear hkk hkk0 hq hr
  go_enter Try.func26, Try.ntmps26
  go_upto_region 8 with fail
  obtain ⟨W, hW⟩ : ∃ x, x = w.alloc (.cells #[.int .i64 0, .int .i64 0, .int .i64 0] 45) := ⟨_, rfl⟩
  obtain ⟨b, hb⟩ : ∃ x, x = w.heap.size := ⟨_, rfl⟩
  have hB : Below w.heap.size w W := by rw [hW]; exact bel_alloc (Below.refl _ _) _
  have hh : W.heap[b]? = some (.cells #[.int .i64 0, .int .i64 0, .int .i64 0] 45 (0, 0)) := by rw [hW, hb]; exact heap_alloc_new _ _
  obtain ⟨z0, z1, z2, zf⟩ := three_cells hh
  have f0 := zf 0
  have f1 := zf 1
  have f2 := zf 2
  have HB := Lib.hid hB
  rw [← hW, ← hb]
  have HBE := Lib.hid hb
  clear hW hh zf hB hb
  go_still_tail 8, (by kernel_rfl)
  all_goals go_wp2
  have hle : w.heap.size ≤ b := by rw [HBE.out]; exact Nat.le_refl _
  exact bodyPost_ret (v := wayV 2 q r) (by simp [results, Try.results26, go_sem, wayV, z0, z1, z2]) rfl ⟨rfl, (((HB.out.setCell (p := ⟨b, 0, none⟩) hle _).setCell (p := ⟨b, 1, none⟩) hle _).setCell (p := ⟨b, 2, none⟩) hle _).drew⟩
set_option maxHeartbeats 800000 in
theorem way3_any (n k : Int) (w : World) (h1 : 8 + k + k * k ≤ n) (hk0 : 1 ≤ k) (hk : k ≤ 1000) (hn : n ≤ 9223372036854775807) :
    Calls Try.prog 26 #[.int .i64 n, .int .i64 k] w fun e w' => e = .returned (wayV (-1) 0 0) ∧ Below w.heap.size w w' := by
  have hkk : k * k ≤ 1000 * 1000 := Int.mul_le_mul hk hk (by omega) (by omega)
  have hkk0 : 0 ≤ k * k := Int.mul_nonneg (by omega) (by omega)
  have h0 : 8 + k ≤ n := by omega
  have t1 : decide (n < 8) = false := by simp; omega
  have t2 : decide (n - 8 < k) = false := by simp; omega
  have t3 : decide (n - 8 - k < k * k) = false := by simp; omega
  have u1 : IntKind.i64.wrap (n - 8 - k) = n - 8 - k := by rw [IntKind.wrap_i64]; omega
  have u2 : IntKind.i64.wrap (k * k) = k * k := by rw [IntKind.wrap_i64]; omega
  clear hkk hkk0
  go_enter Try.func26, Try.ntmps26
  go_wp2
  exact bodyPost_ret (v := wayV (-1) 0 0) (by simp [results, Try.results26, go_sem, wayV]) rfl ⟨rfl, (Below.refl _ _).alloc (Nat.le_refl _) _⟩

/-- Are two ways one? -/
def eqW (d a b d' a' b' : Int) : Bool := decide (d = d') && (decide (a = a') && decide (b = b'))
theorem eqW_iff (d a b d' a' b' : Int) : eqW d a b d' a' b' = true ↔ (d = d' ∧ a = a' ∧ b = b') := by
  unfold eqW; simp
theorem lit_wf64 {x : Int} (h0 : -9223372036854775808 ≤ x) (h1 : x ≤ 9223372036854775807) : (Lit.int .i64 x).wf = true := by
  have hm : IntKind.i64.min = -9223372036854775808 := by decide
  have hM : IntKind.i64.max = 9223372036854775807 := by decide
  simp [Lit.wf, hm, hM]; omega
theorem lits_way (d a b : Int) (hd : (Lit.int .i64 d).wf = true) (ha : (Lit.int .i64 a).wf = true) (hb : (Lit.int .i64 b).wf = true) : Try.prog.keyLits 3 45 [.int .i64 d, .int .i64 a, .int .i64 b] = some [.int .i64 d, .int .i64 a, .int .i64 b] := by
  have hi := Try.underlying3
  have hr := Try.underlying43
  have hu := Try.underlying45
  have c1 : Try.prog.cellsOf 3 = 1 := by kernel_rfl
  have c2 : Try.prog.cellsOf 43 = 2 := by kernel_rfl
  have c3 : Try.prog.cellsOf 45 = 3 := by kernel_rfl
  have hrg : List.range 2 = [0, 1] := rfl
  simp [Program.keyLits, hu, hr, hi, c1, c2, c3, hd, ha, hb, hrg]
/-- Two structs of plain cells held against each other. -/
theorem eql_deep {t : TypeId} (m : Nat) (hk : Try.prog.keyTypeAt m t = true) (hm : m ≤ 10000) {xs ys : Array Value} {lx ly : List Lit} {D : Nat} (fx : (Value.agg xs).formed Try.prog t = true) (fy : (Value.agg ys).formed Try.prog t = true)
    (hx : Try.prog.keyLits D t xs.toList = some lx) (hy : Try.prog.keyLits D t ys.toList = some ly) (b : Bool) (hb : b = true ↔ lx = ly) (w : World) : (binOp .eql t (.agg xs) (.agg ys)).run Try.prog w = .ok (.bool b) w := by
  have h := run_equalIn_deep (P := Try.prog) (10000 - m) m t hk w D D (.agg xs) (.agg ys) lx ly fx fy hx hy
  rw [show 10000 - m + m = 10000 by omega] at h
  obtain ⟨r, h1, h2⟩ := h
  rw [run_eql_struct, h1]
  have : r = b := by rw [Bool.eq_iff_iff, h2, hb]
  rw [this]
  rfl
theorem eql_way (d a b d' a' b' : Int) (w : World) (hd : (Lit.int .i64 d).wf = true) (ha : (Lit.int .i64 a).wf = true) (hb : (Lit.int .i64 b).wf = true) (hd' : (Lit.int .i64 d').wf = true) (ha' : (Lit.int .i64 a').wf = true) (hb' : (Lit.int .i64 b').wf = true) :
    (binOp .eql 45 (wayV d a b) (wayV d' a' b')).run Try.prog w = .ok (.bool (eqW d a b d' a' b')) w :=
  eql_deep 3 (by kernel_rfl) (by omega) (by kernel_rfl) (by kernel_rfl) (lits_way d a b hd ha hb) (lits_way d' a' b' hd' ha' hb') _ (by rw [eqW_iff]; simp) w
end Go.Proofs.Ytgfchjchanfcgaa
