/- The contract of gabionref02.Of. -/
import Derived.Test.YtnkkeffjnamcgaaSumHalve
import Derived.Test.YtnkkeffjnamcgaaSumOf
namespace Go.Proofs.Ytnkkeffjnamcgaa
open Go.RowKit

theorem step_odd' {k m S : Nat} (hk : k < 8) (hm : m < 4294967296) (hs : Crc.stps (8 - k) m = S) (h1 : m % 2 = 1) :
    Crc.stps (8 - (k + 1)) (m / 2 ^^^ 2197175160) = S ∧ m / 2 ^^^ 2197175160 < 4294967296 := by
  have h2 : Crc.stp m = m / 2 ^^^ 2197175160 := by unfold Crc.stp; rw [if_pos h1]
  rw [show 8 - k = (8 - (k + 1)) + 1 by omega] at hs
  exact ⟨by rw [← h2]; exact hs, by rw [← h2]; exact Crc.stp_lt hm⟩
theorem step_even' {k m S : Nat} (hk : k < 8) (hs : Crc.stps (8 - k) m = S) (h1 : ¬ m % 2 = 1) (hm : m < 4294967296) :
    Crc.stps (8 - (k + 1)) (m / 2) = S ∧ m / 2 < 4294967296 := by
  have h2 : Crc.stp m = m / 2 := by unfold Crc.stp; rw [if_neg h1]
  rw [show 8 - k = (8 - (k + 1)) + 1 by omega] at hs
  exact ⟨by rw [← h2]; exact hs, by omega⟩

set_option maxHeartbeats 400000 in
theorem refOf_any (a : Option Addr) (len cap : Nat) (bs : List Nat) (w : World) (hr : Row w a len bs) (hl : len ≤ maxLen) :
    Calls Try.prog 54 #[.slice a len cap] w fun e w' => e = .returned (.int .u32 ((Crc.of bs : Nat) : Int)) ∧ w = w' := by
  unfold maxLen at hl
  obtain ⟨hlen, hby, hrow⟩ := hr
  go_enter Try.func54, Try.ntmps54
  go_wp2
  go_loop [3, 4] (fun s i => ∃ k : Nat, k ≤ len ∧ i = .int .i64 k ∧ s = .int .u32 ((Crc.run 4294967295 (bs.take k) : Nat) : Int)) (fun _ i => len - (intOf i).toNat)
  case atStart => exact ⟨0, by omega, rfl, rfl⟩
  case round =>
    obtain ⟨k, hk, rfl, rfl⟩ := hrel
    have hsl := Crc.run_lt (s := 4294967295) (bs.take k) (by omega) (fun x hx => hby x (List.mem_of_mem_take hx))
    by_cases hlt : k < len
    · obtain ⟨b, off, ha, hc⟩ := hrow (by omega)
      have hck := hc k hlt
      have hbl := getD_lt hby k
      have HT := Lib.hid (take_snoc_getD bs k (by omega))
      obtain ⟨x, hx⟩ : ∃ x, x = bs.getD k 0 := ⟨_, rfl⟩
      rw [← hx] at hck hbl
      have HX := Lib.hid hx
      have HA := Lib.hid ha
      clear hx ha hc hrow
      have hlt2 := xor_byte_lt _ _ hsl hbl
      have HXB := Lib.hid (xor_byte _ _ hsl hbl)
      have HR := Lib.hid (show Crc.run 4294967295 (bs.take (k + 1)) = Crc.stps 8 (Crc.run 4294967295 (bs.take k) ^^^ x) by rw [HT.out, ← HX.out, Crc.run_append]; rfl)
      obtain ⟨S, hS⟩ : ∃ S, S = Crc.run 4294967295 (bs.take k) := ⟨_, rfl⟩
      rw [← hS] at HXB HR hlt2 hsl ⊢
      clear hS
      rw [HA.out]
      go_wp2
      go_loop [3, 5] (fun s i => ∃ j m : Nat, j ≤ 8 ∧ m < 4294967296 ∧ Crc.stps (8 - j) m = Crc.stps 8 (S ^^^ x) ∧ i = .int .i64 j ∧ s = .int .u32 (m : Int)) (fun _ i => 8 - (intOf i).toNat)
      case atStart => exact ⟨0, S ^^^ x, by omega, hlt2, rfl, rfl, by rw [HXB.out]⟩
      case round =>
        obtain ⟨j, m, hj, hm, hs, rfl, rfl⟩ := hrel
        have Hs := Lib.hid hs
        clear hs
        by_cases hlj : j < 8
        · by_cases hodd : m % 2 = 1
          · have hst := Lib.hid (step_odd' hlj hm Hs.out hodd)
            have ht : ((m : Int) % 2 == 1) = true := by simp; omega
            have HP := Lib.hid (xor_poly m hm)
            clear hodd
            go_wp2
            go_round
            case rel => exact ⟨j + 1, _, by omega, hst.out.2, hst.out.1, by go_num, by rw [HP.out]⟩
            case measure => simp [intOf]; omega
          · have hst := Lib.hid (step_even' hlj Hs.out hodd hm)
            have ht : ((m : Int) % 2 == 1) = false := by simp; omega
            clear hodd
            go_wp2
            go_round
            case rel => exact ⟨j + 1, _, by omega, hst.out.2, hst.out.1, by go_num, by go_num⟩
            case measure => simp [intOf]; omega
        · obtain rfl : j = 8 := by omega
          go_wp2
          go_round
          case rel => exact ⟨k + 1, by omega, by go_num, by rw [HR.out, ← Hs.out]; rfl⟩
          case measure => simp [intOf]; omega
    · obtain rfl : k = len := by omega
      have HF := Lib.hid (show Crc.run 4294967295 (bs.take k) = Crc.run 4294967295 bs by rw [← hlen, List.take_length])
      obtain ⟨S, hS⟩ : ∃ S, S = Crc.run 4294967295 (bs.take k) := ⟨_, rfl⟩
      rw [← hS] at HF hsl ⊢
      clear hS
      go_wp2
      go_ret
      refine ⟨ret_int ?_, rfl⟩
      unfold Crc.of
      rw [← HF.out]
      omega

end Go.Proofs.Ytnkkeffjnamcgaa
