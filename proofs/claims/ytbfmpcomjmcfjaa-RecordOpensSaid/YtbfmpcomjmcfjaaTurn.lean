import Derived.Test.YtbfmpcomjmcfjaaCrc
/- Bits turned in bytes: plain. -/
namespace Go.Proofs.Ytbfmpcomjmcfjaa.Crc

theorem mul_xor (j a b : Nat) : 2 ^ j * (a ^^^ b) = (2 ^ j * a) ^^^ (2 ^ j * b) := by
  have h1 := Nat.shiftLeft_xor_distrib (a := a) (b := b) (i := j)
  rw [Nat.shiftLeft_eq, Nat.shiftLeft_eq, Nat.shiftLeft_eq] at h1
  rw [Nat.mul_comm (2 ^ j), Nat.mul_comm (2 ^ j), Nat.mul_comm (2 ^ j)]
  exact h1
theorem val_set (l : List Nat) (j y : Nat) (hj : j < l.length) (h : ∀ x ∈ l, x < 256) (hy : y < 256) : val (l.set j (l.getD j 0 ^^^ y)) = val l ^^^ (2 ^ (8 * j) * y) := by
  induction l generalizing j with
  | nil => simp at hj
  | cons x l ih =>
    have hx := h x (by simp)
    cases j with
    | zero =>
      rw [List.set_cons_zero, show (x :: l).getD 0 0 = x from rfl, val_cons_xor _ _ (Nat.xor_lt_two_pow (n := 8) hx hy), val_cons_xor _ _ hx, Nat.mul_zero, Nat.pow_zero, Nat.one_mul, Nat.xor_assoc, Nat.xor_assoc, Nat.xor_comm y]
    | succ j =>
      have e : (x :: l).getD (j + 1) 0 = l.getD j 0 := by simp [List.getD]
      have e2 : 256 * (val l ^^^ 2 ^ (8 * j) * y) = (256 * val l) ^^^ (2 ^ (8 * (j + 1)) * y) := by
        have h3 := mul_xor 8 (val l) (2 ^ (8 * j) * y)
        rw [show 8 * (j + 1) = 8 + 8 * j by omega, Nat.pow_add, Nat.mul_assoc]
        simpa using h3
      rw [List.set_cons_succ, e, val_cons_xor _ _ hx, val_cons_xor _ _ hx, ih j (by simpa using hj) (fun z hz => h z (List.mem_cons_of_mem _ hz)), e2, Nat.xor_assoc]
theorem set_lt (l : List Nat) (j x : Nat) (h : ∀ y ∈ l, y < 256) (hx : x < 256) : ∀ y ∈ l.set j x, y < 256 := by
  intro y hy
  rcases List.mem_or_eq_of_mem_set hy with hy | rfl
  · exact h y hy
  · exact hx
theorem place (n : Nat) : 2 ^ (8 * (n / 8)) * 2 ^ (n % 8) = 2 ^ n := by
  rw [← Nat.pow_add, show 8 * (n / 8) + n % 8 = n by omega]
/-- The bits up to k are turned: then those up to k + 1. -/
theorem turn_step {l : List Nat} {v r bits k : Nat} (h : ∀ x ∈ l, x < 256) (hl : r + k < 8 * l.length) (hv : val l = v ^^^ (2 ^ r * (bits % 2 ^ k))) (hb : bits / 2 ^ k % 2 = 1) :
    val (l.set ((r + k) / 8) (l.getD ((r + k) / 8) 0 ^^^ 2 ^ ((r + k) % 8))) = v ^^^ (2 ^ r * (bits % 2 ^ (k + 1))) := by
  have hy : 2 ^ ((r + k) % 8) < 256 := by
    have h1 : 2 ^ ((r + k) % 8) ≤ 2 ^ 7 := Nat.pow_le_pow_right (by omega) (by omega)
    omega
  have h2 : bits % 2 ^ (k + 1) = bits % 2 ^ k ^^^ 2 ^ k := by
    have h3 := low_add k (bits % 2 ^ k) 1 (Nat.mod_lt _ (Nat.two_pow_pos k))
    rw [Nat.pow_succ, Nat.mod_mul, hb]
    simpa using h3
  rw [val_set l _ _ (by omega) h hy, place, hv, h2, mul_xor, Nat.xor_assoc, ← Nat.pow_add]
theorem stay_step {v r bits k : Nat} {x : Nat} (hv : x = v ^^^ (2 ^ r * (bits % 2 ^ k))) (hb : ¬ bits / 2 ^ k % 2 = 1) : x = v ^^^ (2 ^ r * (bits % 2 ^ (k + 1))) := by
  rw [Nat.pow_succ, Nat.mod_mul, show bits / 2 ^ k % 2 = 0 by omega]
  simpa using hv
end Go.Proofs.Ytbfmpcomjmcfjaa.Crc
