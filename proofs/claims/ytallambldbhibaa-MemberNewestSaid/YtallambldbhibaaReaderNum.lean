/- The reader's numbers. -/
import Derived.Test.YtallambldbhibaaReaderZero
namespace Go.Proofs.Ytallambldbhibaa
open Go.RowKit

/-- The number of some bytes, the lowest ahead. -/
def leVal : List Nat → Nat
  | [] => 0
  | x :: xs => x + 256 * leVal xs
theorem leVal_snoc (xs : List Nat) (x : Nat) : leVal (xs ++ [x]) = leVal xs + x * 256 ^ xs.length := by
  induction xs with
  | nil => simp [leVal]
  | cons y ys ih =>
    simp only [List.cons_append, leVal, ih, List.length_cons, Nat.pow_succ]
    rw [Nat.mul_add, ← Nat.add_assoc, Nat.mul_comm (256 ^ ys.length) 256, Nat.mul_left_comm]
theorem leVal_lt (xs : List Nat) (h : ∀ x ∈ xs, x < 256) : leVal xs < 256 ^ xs.length := by
  induction xs with
  | nil => simp [leVal]
  | cons y ys ih =>
    have h1 := h y (by simp)
    have h2 := ih (fun x hx => h x (by simp [hx]))
    simp only [leVal, List.length_cons, Nat.pow_succ]
    omega
theorem num_step (A x k : Nat) (hA : A < 256 ^ k) (hx : x < 256) (hk : k < 8) : bits BinOp.or .u64 (A : Int) (IntKind.u64.wrap ((x : Int) * 2 ^ (8 * k))) = ((A + x * 256 ^ k : Nat) : Int) := by
  have e256 : 256 ^ k = 2 ^ (8 * k) := by rw [Nat.pow_mul]
  have hp : x * 2 ^ (8 * k) < 18446744073709551616 := by
    have h2 : 2 ^ (8 * k) ≤ 2 ^ 56 := Nat.pow_le_pow_right (by omega) (by omega)
    have h3 : x * 2 ^ (8 * k) ≤ 255 * 2 ^ 56 := Nat.mul_le_mul (by omega) h2
    omega
  have hA2 : A < 18446744073709551616 := by
    have h2 : 2 ^ (8 * k) ≤ 2 ^ 56 := Nat.pow_le_pow_right (by omega) (by omega)
    rw [e256] at hA; omega
  have h4 : (x : Int) * 2 ^ (8 * k) = ((x * 2 ^ (8 * k) : Nat) : Int) := by push_cast; rfl
  rw [h4, IntKind.wrap_u64, show (((x * 2 ^ (8 * k) : Nat) : Int) % 18446744073709551616) = ((x * 2 ^ (8 * k) : Nat) : Int) by omega, u64_or_nat _ _ hA2 hp]
  congr 1
  rw [e256] at hA ⊢
  rw [Nat.or_comm, Nat.mul_comm x, ← Nat.two_pow_add_eq_or_of_lt hA, Nat.add_comm]
/-- What the reader's numbers end with. -/
def NumRet (w : World) (pr pg : Nat) (c : Nat) (bs : List Nat) (n : Nat) (v : Value) (e : Ending) (w' : World) : Prop :=
  ∃ a2, e = .returned v ∧ w' = w.setCell ⟨pr, 0, none⟩ (.slice a2 (bs.length - n) (c - n)) ∧ RD w' pr pg a2 (c - n) (bs.drop n)
set_option maxHeartbeats 400000 in
theorem number_ok {w : World} {pr pg c : Nat} {a : Option Addr} {bs : List Nat} (n : Nat) (h : RD w pr pg a c bs) (hn : n ≤ bs.length) (h8 : n ≤ 8) :
    Calls Try.prog 147 #[.pointer (some ⟨pr, 0, none⟩), .int .i64 (n : Int)] w (NumRet w pr pg c bs n (.int .u64 (leVal (bs.take n) : Int))) := by
  have HH := Lib.hid h
  have HN := Lib.hid hn
  clear h hn
  go_enter Try.func147, Try.ntmps147
  go_wp2_with fail
  refine (take_ok n HH.out HN.out).mono ?_
  rintro e w1 ⟨a2, rfl, hw1, hrd, hrow⟩
  have HW := Lib.hid hw1
  clear hw1
  go_wp2
  go_loop [5, 12] (fun v i => ∃ k : Nat, k ≤ n ∧ i = .int .i64 k ∧ v = .int .u64 ((leVal ((bs.take n).take k) : Nat) : Int)) (fun _ i => n - (intOf i).toNat)
  case atStart => exact ⟨0, by omega, rfl, by simp [leVal]⟩
  case round =>
    obtain ⟨k, hk, rfl, rfl⟩ := hrel
    by_cases hlt : k < n
    · obtain ⟨b, off, rfl, hcl⟩ := hrow.2.2 (by omega)
      have hkl : k < (bs.take n).length := by rw [hrow.1]; exact hlt
      obtain ⟨x, hxe⟩ : ∃ x, x = (bs.take n)[k] := ⟨_, rfl⟩
      have hx : x < 256 := by rw [hxe]; exact hrow.2.1 _ (List.getElem_mem hkl)
      have hck : w1.cell? ⟨b, off + k, none⟩ = some (.int .u8 (x : Int)) := by rw [hcl k hlt, getD_in _ _ hkl, hxe]
      have hle : leVal ((bs.take n).take (k + 1)) = leVal ((bs.take n).take k) + x * 256 ^ k := by
        rw [← List.take_append_getElem hkl, leVal_snoc, ← hxe, List.length_take, Nat.min_eq_left (by omega)]
      have hlow : leVal ((bs.take n).take k) < 256 ^ k := by
        have h1 := leVal_lt ((bs.take n).take k) (fun y hy => hrow.2.1 y (List.mem_of_mem_take hy))
        rw [List.length_take, Nat.min_eq_left (by omega)] at h1
        exact h1
      have hst := Lib.hid (num_step _ x k hlow hx (by omega))
      have HLE := Lib.hid hle
      clear hcl hlow hle hxe
      go_wp2
      go_round
      case rel => exact ⟨k + 1, by omega, by go_num, by rw [hst.out, HLE.out]⟩
      case measure => simp [intOf]; omega
    · obtain rfl : k = n := by omega
      go_wp2
      go_ret
      exact ⟨a2, by simp [List.take_take], HW.out, hrd⟩
theorem leVal_one (bs : List Nat) (h : 1 ≤ bs.length) : leVal (bs.take 1) = bs.getD 0 0 := by
  cases bs with
  | nil => simp at h
  | cons x xs => simp [leVal]
set_option maxHeartbeats 400000 in
theorem rU8_ok {w : World} {pr pg c : Nat} {a : Option Addr} {bs : List Nat} (h : RD w pr pg a c bs) (hn : 1 ≤ bs.length) :
    Calls Try.prog 130 #[.pointer (some ⟨pr, 0, none⟩)] w (NumRet w pr pg c bs 1 (.int .u8 ((bs.getD 0 0 : Nat) : Int))) := by
  have hx : bs.getD 0 0 < 256 := by rw [getD_in _ _ (by omega)]; exact h.2.1.2.1 _ (List.getElem_mem _)
  obtain ⟨m, hm⟩ : ∃ m, m = bs.getD 0 0 := ⟨_, rfl⟩
  rw [← hm] at hx ⊢
  have H1 : Hid (leVal (bs.take 1) = m) := by rw [hm]; exact leVal_one bs hn
  have hmod : (m : Int) % 256 = (m : Int) := by omega
  clear hm
  have HH := Lib.hid h
  clear h
  go_enter Try.func130, Try.ntmps130
  go_wp2_with fail
  refine (number_ok 1 HH.out hn (by omega)).mono ?_
  rintro e w1 ⟨a2, rfl, hw1, hrd⟩
  rw [H1.out]
  have HW := Lib.hid hw1
  clear hw1
  go_wp2
  go_ret
  exact ⟨a2, rfl, HW.out, hrd⟩

end Go.Proofs.Ytallambldbhibaa
