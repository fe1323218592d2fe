/- inode.Lay and the document's Lay. -/
import Derived.Test.YtnnaijeapapehaaAppend
import Derived.Deep.DeepCutAuto
import Derived.StillTailTactics
namespace Go.Proofs.Ytnnaijeapapehaa
open Go.RowKit

def layV (a b c d e : Int) : Value := .agg #[.int .i64 a, .int .i64 b, .int .i64 c, .int .i64 d, .int .i64 e]
/-- May there be a layout of so many blocks of a size? -/
def LayIn (b s : Int) : Prop := 1 ≤ b ∧ b ≤ 1048576 ∧ 256 ≤ s ∧ s ≤ 1024 ∧ s % 64 = 0
instance (b s : Int) : Decidable (LayIn b s) := by unfold LayIn; infer_instance
def ceilI (t m : Int) : Int := (t + m - 1) / m
def nodeI (b : Int) : Int := if b / 4 < 16 then 16 else b / 4
def bitsI (b s : Int) : Int := ceilI (nodeI b) (s / 64)
def firstI (b s : Int) : Int := bitsI b s + ceilI b (8 * s)
theorem five_lay {W : World} {b : Nat} {v0 v1 v2 v3 v4 : Value} {t : TypeId} (h : W.heap[b]? = some (.cells #[v0, v1, v2, v3, v4] t (0, 0))) :
    W.cell? ⟨b, 0, none⟩ = some v0 ∧ W.cell? ⟨b, 1, none⟩ = some v1 ∧ W.cell? ⟨b, 2, none⟩ = some v2 ∧ W.cell? ⟨b, 3, none⟩ = some v3 ∧ W.cell? ⟨b, 4, none⟩ = some v4 ∧ (∀ o, W.frozen? ⟨b, o, none⟩ = false) := by
  simp [World.cell?, World.frozen?, h]
set_option maxHeartbeats 400000 in
theorem holders_any (t m q : Int) (w : World) (h0 : 0 ≤ t) (h1 : t ≤ 10000000) (h2 : 1 ≤ m) (h3 : m ≤ 100000) (hq : ceilI t m = q) :
    Calls Try.prog 38 #[.int .i64 t, .int .i64 m] w fun e w' => e = .returned (.int .i64 q) ∧ w' = w := by
  have nz : m ≠ 0 := by omega
  have u1 : IntKind.i64.wrap ((t + m - 1).tdiv m) = q := by rw [IntWalk.i64_quo _ _ ⟨by omega, by omega, h2⟩]; exact hq
  clear hq
  go_enter Try.func38, Try.ntmps38
  go_wp2
  go_ret
  exact ⟨rfl, rfl⟩
theorem ceil_bd (t m : Int) (h0 : 1 ≤ t) (h2 : 1 ≤ m) : 1 ≤ ceilI t m ∧ ceilI t m ≤ t := by
  unfold ceilI
  constructor
  · exact (Int.le_ediv_iff_mul_le (by omega)).2 (by omega)
  · have h : (t + m - 1) / m < t + 1 := by
      apply Int.ediv_lt_of_lt_mul (by omega)
      have : t * 1 ≤ t * m := Int.mul_le_mul_of_nonneg_left h2 (by omega)
      rw [Int.add_mul]
      omega
    omega
theorem ceil_split (t m : Int) (h2 : 1 ≤ m) : ceilI t m = t / m + (if 0 < t % m then 1 else 0) := by
  unfold ceilI
  have e := Int.emod_add_mul_ediv t m
  have a := Int.emod_nonneg t (b := m) (by omega)
  have b := Int.emod_lt_of_pos t (b := m) (by omega)
  have hx : t + m - 1 = (t % m + m - 1) + (t / m) * m := by rw [Int.mul_comm] at e; omega
  rw [hx, Int.add_mul_ediv_right _ _ (by omega)]
  split
  · rename_i h
    have : (t % m + m - 1) / m = 1 := by
      apply Int.le_antisymm
      · have : (t % m + m - 1) / m < 2 := Int.ediv_lt_of_lt_mul (by omega) (by omega)
        omega
      · exact (Int.le_ediv_iff_mul_le (by omega)).2 (by omega)
    omega
  · rename_i h
    have : (t % m + m - 1) / m = 0 := Int.ediv_eq_zero_of_lt (by omega) (by omega)
    omega
theorem lay_nums (b s : Int) (h : LayIn b s) : 4 ≤ s / 64 ∧ s / 64 ≤ 16 ∧ 16 ≤ nodeI b ∧ nodeI b ≤ 262144 ∧ 1 ≤ bitsI b s ∧ bitsI b s ≤ 262144 ∧ 1 ≤ ceilI b (8 * s) ∧ ceilI b (8 * s) ≤ 1048576 := by
  obtain ⟨h1, h2, h3, h4, h5⟩ := h
  have a : 16 ≤ nodeI b ∧ nodeI b ≤ 262144 := by unfold nodeI; split <;> omega
  have c := ceil_bd (nodeI b) (s / 64) (by omega) (by omega)
  have d := ceil_bd b (8 * s) (by omega) (by omega)
  unfold bitsI
  omega
set_option maxRecDepth 100000 in
set_option maxHeartbeats 1600000 in
theorem lay_bad (b s : Int) (w : World) (h : ¬ LayIn b s) :
    Calls Try.prog 17 #[.int .i64 b, .int .i64 s] w fun e w' => e = .returned (.tuple #[layV 0 0 0 0 0, .int .i64 34]) ∧ Below w.heap.size w w' := by
  unfold LayIn at h
  by_cases c1 : b < 1
  · have t1 : decide (b < 1) = true := by simpa using c1
    clear h
    go_enter Try.func17, Try.ntmps17
    go_wp2
    exact bodyPost_ret (v := .tuple #[layV 0 0 0 0 0, .int .i64 34]) (by simp [results, Try.results17, go_sem, layV]) rfl ⟨rfl, bel_alloc (Below.refl _ _) _⟩
  have t1 : decide (b < 1) = false := by simpa using c1
  by_cases c2 : 1048576 < b
  · have t2 : decide (1048576 < b) = true := by simpa using c2
    clear h
    go_enter Try.func17, Try.ntmps17
    go_wp2
    exact bodyPost_ret (v := .tuple #[layV 0 0 0 0 0, .int .i64 34]) (by simp [results, Try.results17, go_sem, layV]) rfl ⟨rfl, bel_alloc (Below.refl _ _) _⟩
  have t2 : decide (1048576 < b) = false := by simpa using c2
  by_cases c3 : s < 256
  · have t3 : decide (s < 256) = true := by simpa using c3
    clear h
    go_enter Try.func17, Try.ntmps17
    go_wp2
    exact bodyPost_ret (v := .tuple #[layV 0 0 0 0 0, .int .i64 34]) (by simp [results, Try.results17, go_sem, layV]) rfl ⟨rfl, bel_alloc (Below.refl _ _) _⟩
  have t3 : decide (s < 256) = false := by simpa using c3
  by_cases c4 : 1024 < s
  · have t4 : decide (1024 < s) = true := by simpa using c4
    clear h
    go_enter Try.func17, Try.ntmps17
    go_wp2
    exact bodyPost_ret (v := .tuple #[layV 0 0 0 0 0, .int .i64 34]) (by simp [results, Try.results17, go_sem, layV]) rfl ⟨rfl, bel_alloc (Below.refl _ _) _⟩
  have t4 : decide (1024 < s) = false := by simpa using c4
  have t5 : (s % 64 != 0) = true := by simp; omega
  have s0 : 0 ≤ s := by omega
  clear h
  go_enter Try.func17, Try.ntmps17
  go_wp2
  exact bodyPost_ret (v := .tuple #[layV 0 0 0 0 0, .int .i64 34]) (by simp [results, Try.results17, go_sem, layV]) rfl ⟨rfl, bel_alloc (Below.refl _ _) _⟩
set_option maxRecDepth 100000 in
set_option maxHeartbeats 1600000 in
theorem lay_any (b s : Int) (w : World) (h : LayIn b s) :
    Calls Try.prog 17 #[.int .i64 b, .int .i64 s] w fun e w' => e = .returned (if firstI b s + 8 ≤ b then .tuple #[layV (bitsI b s * (s / 64)) (bitsI b s) (firstI b s) b s, .int .i64 0] else .tuple #[layV 0 0 0 0 0, .int .i64 28]) ∧ Below w.heap.size w w' := by
  obtain ⟨m0, m1, n0, n1, k0, k1, q0, q1⟩ := lay_nums b s h
  obtain ⟨h1, h2, h3, h4, h5⟩ := h
  obtain ⟨m, hm⟩ : ∃ m, s / 64 = m := ⟨_, rfl⟩
  obtain ⟨n, hn⟩ : ∃ n, nodeI b = n := ⟨_, rfl⟩
  obtain ⟨k, hk⟩ : ∃ k, bitsI b s = k := ⟨_, rfl⟩
  obtain ⟨q, hq⟩ : ∃ q, ceilI b (8 * s) = q := ⟨_, rfl⟩
  have hf : firstI b s = k + q := by unfold firstI; rw [hk, hq]
  have hk' : ceilI n m = k := by rw [← hk, ← hm, ← hn]; rfl
  rw [hf, hk, hm]
  rw [hm] at m0 m1
  rw [hn] at n0 n1
  rw [hk] at k0 k1
  rw [hq] at q0 q1
  have km : k * m ≤ 262144 * 16 := Int.mul_le_mul k1 m1 (by omega) (by omega)
  have km0 : 0 ≤ k * m := Int.mul_nonneg (by omega) (by omega)
  have t1 : decide (b < 1) = false := by simp; omega
  have t2 : decide (1048576 < b) = false := by simp; omega
  have t3 : decide (s < 256) = false := by simp; omega
  have t4 : decide (1024 < s) = false := by simp; omega
  have t5 : (s % 64 != 0) = false := by simp; omega
  have u1 : IntKind.i64.wrap (s.tdiv 64) = m := by rw [IntWalk.i64_quo _ _ ⟨by omega, by omega, by omega⟩]; exact hm
  have hnn : (if b / 4 < 16 then (16 : Int) else b / 4) = n := hn
  have hnn' : (if 16 < b / 4 then b / 4 else (16 : Int)) = n := by rw [← hnn]; split <;> split <;> omega
  have u2 : IntKind.i64.wrap (k * m) = k * m := by rw [IntKind.wrap_i64]; omega
  have HH1 := Lib.hid fun x : World => holders_any n m k x (by omega) (by omega) (by omega) (by omega) hk'
  have HH2 := Lib.hid fun x : World => holders_any b (8 * s) q x (by omega) (by omega) (by omega) (by omega) hq
  clear hf hk hk' hq hn
  by_cases c : k + q + 8 ≤ b
  · rw [if_pos c]
    have t6 : decide (b < k + q + 8) = false := by simp; omega
    clear c km km0
    go_enter Try.func17, Try.ntmps17
    go_wp2_with fail
    ((with_reducible refine (HH1.out _).mono ?_))
    rintro e w1 ⟨rfl, rfl⟩
    go_wp2_with fail
    ((with_reducible refine (HH2.out _).mono ?_))
    rintro e w1 ⟨rfl, rfl⟩
    go_wp2_with fail
    exact bodyPost_ret (v := .tuple #[layV (k * m) k (k + q) b s, .int .i64 0]) (by simp [results, Try.results17, go_sem, layV]) rfl ⟨rfl, bel_alloc (Below.refl _ _) _⟩
  · rw [if_neg c]
    have t6 : decide (b < k + q + 8) = true := by simp; omega
    clear c km km0
    go_enter Try.func17, Try.ntmps17
    go_wp2_with fail
    ((with_reducible refine (HH1.out _).mono ?_))
    rintro e w1 ⟨rfl, rfl⟩
    go_wp2_with fail
    ((with_reducible refine (HH2.out _).mono ?_))
    rintro e w1 ⟨rfl, rfl⟩
    go_wp2_with fail
    exact bodyPost_ret (v := .tuple #[layV 0 0 0 0 0, .int .i64 28]) (by simp [results, Try.results17, go_sem, layV]) rfl ⟨rfl, bel_alloc (Below.refl _ _) _⟩
end Go.Proofs.Ytnnaijeapapehaa
