/- The reader's wider numbers. -/
import Derived.Test.YtallambldbhibaaReaderText
namespace Go.Proofs.Ytallambldbhibaa
open Go.RowKit

theorem leVal_les (k v : Nat) : leVal (Crc.les k v) = v % 256 ^ k := by
  induction k generalizing v with
  | zero => simp [Crc.les, leVal, Nat.mod_one]
  | succ k ih =>
    rw [Crc.les, leVal, ih, Nat.pow_succ, Nat.mul_comm (256 ^ k) 256, Nat.mod_mul]
set_option maxHeartbeats 400000 in
theorem rU16_ok {w : World} {pr pg c : Nat} {a : Option Addr} {bs : List Nat} (h : RD w pr pg a c bs) (hn : 2 ≤ bs.length) :
    Calls Try.prog 129 #[.pointer (some ⟨pr, 0, none⟩)] w (NumRet w pr pg c bs 2 (.int .u16 ((leVal (bs.take 2) : Nat) : Int))) := by
  have hx : leVal (bs.take 2) < 256 ^ 2 := by
    have h1 := leVal_lt (bs.take 2) (fun y hy => h.2.1.2.1 y (List.mem_of_mem_take hy))
    rw [List.length_take, Nat.min_eq_left hn] at h1
    exact h1
  obtain ⟨m, hm⟩ : ∃ m, m = leVal (bs.take 2) := ⟨_, rfl⟩
  rw [← hm] at hx ⊢
  have H1 : Hid (leVal (bs.take 2) = m) := hm.symm
  have hx' : m < 65536 := hx
  have hmod : (m : Int) % 65536 = (m : Int) := by omega
  clear hm hx
  have HH := Lib.hid h
  clear h
  go_enter Try.func129, Try.ntmps129
  go_wp2_with fail
  refine (number_ok 2 HH.out hn (by omega)).mono ?_
  rintro e w1 ⟨a2, rfl, hw1, hrd⟩
  rw [H1.out]
  have HW := Lib.hid hw1
  clear hw1
  go_wp2
  go_ret
  exact ⟨a2, rfl, HW.out, hrd⟩
set_option maxHeartbeats 400000 in
theorem rU32_ok {w : World} {pr pg c : Nat} {a : Option Addr} {bs : List Nat} (h : RD w pr pg a c bs) (hn : 4 ≤ bs.length) :
    Calls Try.prog 131 #[.pointer (some ⟨pr, 0, none⟩)] w (NumRet w pr pg c bs 4 (.int .u32 ((leVal (bs.take 4) : Nat) : Int))) := by
  have hx : leVal (bs.take 4) < 256 ^ 4 := by
    have h1 := leVal_lt (bs.take 4) (fun y hy => h.2.1.2.1 y (List.mem_of_mem_take hy))
    rw [List.length_take, Nat.min_eq_left hn] at h1
    exact h1
  obtain ⟨m, hm⟩ : ∃ m, m = leVal (bs.take 4) := ⟨_, rfl⟩
  rw [← hm] at hx ⊢
  have H1 : Hid (leVal (bs.take 4) = m) := hm.symm
  have hx' : m < 4294967296 := hx
  have hmod : (m : Int) % 4294967296 = (m : Int) := by omega
  clear hm hx
  have HH := Lib.hid h
  clear h
  go_enter Try.func131, Try.ntmps131
  go_wp2_with fail
  refine (number_ok 4 HH.out hn (by omega)).mono ?_
  rintro e w1 ⟨a2, rfl, hw1, hrd⟩
  rw [H1.out]
  have HW := Lib.hid hw1
  clear hw1
  go_wp2
  go_ret
  exact ⟨a2, rfl, HW.out, hrd⟩
end Go.Proofs.Ytallambldbhibaa
