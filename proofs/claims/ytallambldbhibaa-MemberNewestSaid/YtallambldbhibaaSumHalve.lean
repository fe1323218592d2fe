/- The contract of sum.halve: a number is halved eight times. -/
import Derived.Test.YtallambldbhibaaBase
import Derived.Test.YtallambldbhibaaCrc
namespace Go.Proofs.Ytallambldbhibaa
open Go.RowKit

theorem odd_test (m : Nat) (hm : m < 4294967296) : (bits BinOp.and IntKind.u32 (m : Int) 1 == 1) = decide (m % 2 = 1) := by
  have h := u32_and_nat m 1 hm (by omega)
  rw [nat_mask1] at h
  have h' : bits BinOp.and IntKind.u32 (m : Int) 1 = ((m % 2 : Nat) : Int) := h
  rw [h', Bool.eq_iff_iff]; simp; omega
theorem xor_poly (m : Nat) (hm : m < 4294967296) : bits BinOp.xor IntKind.u32 ((m : Int) / 2) 2197175160 = ((m / 2 ^^^ 2197175160 : Nat) : Int) :=
  u32_xor_nat (m / 2) 2197175160 (by omega) (by omega)
theorem step_odd {k m n : Nat} (hk : (k : Int) < 8) (hm : m < 4294967296) (hs : Crc.stps (8 - k) m = Crc.stps 8 n) (ht : (bits BinOp.and IntKind.u32 (m : Int) 1 == 1) = true) :
    Crc.stps (8 - (k + 1)) (m / 2 ^^^ 2197175160) = Crc.stps 8 n ∧ m / 2 ^^^ 2197175160 < 4294967296 := by
  rw [odd_test m hm] at ht
  have h1 : m % 2 = 1 := of_decide_eq_true ht
  have h2 : Crc.stp m = m / 2 ^^^ 2197175160 := by unfold Crc.stp; rw [if_pos h1]
  rw [show 8 - k = (8 - (k + 1)) + 1 by omega] at hs
  exact ⟨by rw [← h2]; exact hs, by rw [← h2]; exact Crc.stp_lt hm⟩
theorem step_even {k m n : Nat} (hk : (k : Int) < 8) (hm : m < 4294967296) (hs : Crc.stps (8 - k) m = Crc.stps 8 n) (ht : (bits BinOp.and IntKind.u32 (m : Int) 1 == 1) = false) :
    Crc.stps (8 - (k + 1)) (m / 2) = Crc.stps 8 n ∧ m / 2 < 4294967296 := by
  rw [odd_test m hm] at ht
  have h1 : ¬ m % 2 = 1 := of_decide_eq_false ht
  have h2 : Crc.stp m = m / 2 := by unfold Crc.stp; rw [if_neg h1]
  rw [show 8 - k = (8 - (k + 1)) + 1 by omega] at hs
  exact ⟨by rw [← h2]; exact hs, by omega⟩

set_option maxHeartbeats 400000 in
theorem halve_any (n : Nat) (w : World) (hn : n < 4294967296) :
    Calls Try.prog 137 #[.int .u32 (n : Int)] w fun e w' => e = .returned (.int .u32 ((Crc.stps 8 n : Nat) : Int)) ∧ w = w' := by
  go_enter Try.func137, Try.ntmps137
  go_wp2
  go_loop [0, 3, 4] (fun a b i => ∃ k m : Nat, k ≤ 8 ∧ m < 4294967296 ∧ Crc.stps (8 - k) m = Crc.stps 8 n ∧ i = .int .i64 k ∧ a = .int .u32 (m : Int)) (fun _ _ i => 8 - (intOf i).toNat)
  case atStart => exact ⟨0, n, by omega, hn, rfl, rfl, rfl⟩
  case round =>
    obtain ⟨k, m, hk, hm, hs, rfl, rfl⟩ := hrel
    go_wp2
    · have hlt : (k : Int) < 8 := by assumption
      have ht : (bits BinOp.and IntKind.u32 (m : Int) 1 == 1) = true := by assumption
      have hx := step_odd hlt hm hs ht
      go_round
      case rel => exact ⟨k + 1, m / 2 ^^^ 2197175160, by omega, hx.2, hx.1, by go_num, by rw [xor_poly m hm]⟩
      case measure => simp [intOf]; omega
    · have hlt : (k : Int) < 8 := by assumption
      have ht : (bits BinOp.and IntKind.u32 (m : Int) 1 == 1) = false := by assumption
      have hx := step_even hlt hm hs ht
      go_round
      case rel => exact ⟨k + 1, m / 2, by omega, hx.2, hx.1, by go_num, by go_num⟩
      case measure => simp [intOf]; omega
    · have hge : (8 : Int) ≤ k := by assumption
      obtain rfl : k = 8 := by omega
      go_ret
      have hs' : m = Crc.stps 8 n := hs
      exact ⟨ret_int (by rw [hs']), rfl⟩

end Go.Proofs.Ytallambldbhibaa
