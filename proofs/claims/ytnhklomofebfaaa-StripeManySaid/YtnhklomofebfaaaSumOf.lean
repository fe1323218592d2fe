/- The contract of sum.halve: a number is halved eight times. -/
import Derived.Test.YtnhklomofebfaaaBase
import Derived.Test.YtnhklomofebfaaaRefPart
namespace Go.Proofs.Ytnhklomofebfaaa
open Go.RowKit

theorem odd_test (m : Nat) (hm : m < 4294967296) : (bits BinOp.and IntKind.u32 (m : Int) 1 == 1) = decide (m % 2 = 1) := by
  have h := u32_and_nat m 1 hm (by omega)
  rw [nat_mask1] at h
  have h' : bits BinOp.and IntKind.u32 (m : Int) 1 = ((m % 2 : Nat) : Int) := h
  rw [h', Bool.eq_iff_iff]; simp; omega
theorem xor_poly (m : Nat) (hm : m < 4294967296) : bits BinOp.xor IntKind.u32 ((m : Int) / 2) 2197175160 = ((m / 2 ^^^ 2197175160 : Nat) : Int) :=
  u32_xor_nat (m / 2) 2197175160 (by omega) (by omega)
theorem step_odd {k m n : Nat} (hk : (k : Int) < 8) (hm : m < 4294967296) (hs : Crc.stps (8 - k) m = Crc.stps 8 n) (ht : (bits BinOp.and IntKind.u32 (m : Int) 1 == 1) = true) :
    Crc.stps (8 - (k + 1)) (m / 2 ^^^ 2197175160) = Crc.stps 8 n ∧ m / 2 ^^^ 2197175160 < 4294967296 := by
  rw [odd_test m hm] at ht
  have h1 : m % 2 = 1 := of_decide_eq_true ht
  have h2 : Crc.stp m = m / 2 ^^^ 2197175160 := by unfold Crc.stp; rw [if_pos h1]
  rw [show 8 - k = (8 - (k + 1)) + 1 by omega] at hs
  exact ⟨by rw [← h2]; exact hs, by rw [← h2]; exact Crc.stp_lt hm⟩
theorem step_even {k m n : Nat} (hk : (k : Int) < 8) (hm : m < 4294967296) (hs : Crc.stps (8 - k) m = Crc.stps 8 n) (ht : (bits BinOp.and IntKind.u32 (m : Int) 1 == 1) = false) :
    Crc.stps (8 - (k + 1)) (m / 2) = Crc.stps 8 n ∧ m / 2 < 4294967296 := by
  rw [odd_test m hm] at ht
  have h1 : ¬ m % 2 = 1 := of_decide_eq_false ht
  have h2 : Crc.stp m = m / 2 := by unfold Crc.stp; rw [if_neg h1]
  rw [show 8 - k = (8 - (k + 1)) + 1 by omega] at hs
  exact ⟨by rw [← h2]; exact hs, by omega⟩

set_option maxHeartbeats 400000 in
theorem halve_any (n : Nat) (w : World) (hn : n < 4294967296) :
    Calls Try.prog 69 #[.int .u32 (n : Int)] w fun e w' => e = .returned (.int .u32 ((Crc.stps 8 n : Nat) : Int)) ∧ w = w' := by
  go_enter Try.func69, Try.ntmps69
  go_wp2
  go_loop [0, 3, 4] (fun a b i => ∃ k m : Nat, k ≤ 8 ∧ m < 4294967296 ∧ Crc.stps (8 - k) m = Crc.stps 8 n ∧ i = .int .i64 k ∧ a = .int .u32 (m : Int)) (fun _ _ i => 8 - (intOf i).toNat)
  case atStart => exact ⟨0, n, by omega, hn, rfl, rfl, rfl⟩
  case round =>
    obtain ⟨k, m, hk, hm, hs, rfl, rfl⟩ := hrel
    go_wp2
    · have hlt : (k : Int) < 8 := by assumption
      have ht : (bits BinOp.and IntKind.u32 (m : Int) 1 == 1) = true := by assumption
      have hx := step_odd hlt hm hs ht
      go_round
      case rel => exact ⟨k + 1, m / 2 ^^^ 2197175160, by omega, hx.2, hx.1, by go_num, by rw [xor_poly m hm]⟩
      case measure => simp [intOf]; omega
    · have hlt : (k : Int) < 8 := by assumption
      have ht : (bits BinOp.and IntKind.u32 (m : Int) 1 == 1) = false := by assumption
      have hx := step_even hlt hm hs ht
      go_round
      case rel => exact ⟨k + 1, m / 2, by omega, hx.2, hx.1, by go_num, by go_num⟩
      case measure => simp [intOf]; omega
    · have hge : (8 : Int) ≤ k := by assumption
      obtain rfl : k = 8 := by omega
      go_ret
      have hs' : m = Crc.stps 8 n := hs
      exact ⟨ret_int (by rw [hs']), rfl⟩

end Go.Proofs.Ytnhklomofebfaaa

namespace Go.Proofs.Ytnhklomofebfaaa
open Go.RowKit

/-- The first n of some parts, one behind the other. -/
def flat (B : Nat → List Nat) : Nat → List Nat
  | 0 => []
  | n + 1 => flat B n ++ B n

theorem u8_to_u32 (x : Nat) (hx : x < 256) : IntKind.u32.wrap (x : Int) = (x : Int) := by rw [IntKind.wrap_u32]; omega
theorem xor_byte (s x : Nat) (hs : s < 4294967296) (hx : x < 256) : bits BinOp.xor IntKind.u32 (s : Int) (x : Int) = ((s ^^^ x : Nat) : Int) :=
  u32_xor_nat s x hs (by omega)
theorem xor_byte_lt (s x : Nat) (hs : s < 4294967296) (hx : x < 256) : s ^^^ x < 4294967296 := Nat.xor_lt_two_pow (n := 32) hs (by omega)

theorem not_u32 (s : Nat) (hs : s < 4294967296) : bits BinOp.xor IntKind.u32 4294967295 (s : Int) = ((4294967295 - s : Nat) : Int) := by
  rw [Crc.ones_sub s hs]; exact u32_xor_nat 4294967295 s (by omega) hs
theorem flat_lt (B : Nat → List Nat) (n : Nat) (h : ∀ i, i < n → ∀ x ∈ B i, x < 256) (k : Nat) (hk : k ≤ n) : ∀ x ∈ flat B k, x < 256 := by
  induction k with
  | zero => intro x hx; cases hx
  | succ k ih =>
    intro x hx
    simp only [flat, List.mem_append] at hx
    rcases hx with hx | hx
    · exact ih (by omega) x hx
    · exact h k (by omega) x hx
theorem flat_lt2 (B : Nat → List Nat) (k j n : Nat) (hk : k < n) (h : ∀ i, i < n → ∀ x ∈ B i, x < 256) : ∀ x ∈ flat B k ++ (B k).take j, x < 256 := by
  intro x hx
  rw [List.mem_append] at hx
  rcases hx with hx | hx
  · exact flat_lt B n h k (by omega) x hx
  · exact h k hk x (List.mem_of_mem_take hx)

set_option maxHeartbeats 400000 in
theorem of_any (n : Nat) (a0 : Option Addr) (cap : Nat) (A : Nat → Option Addr) (L C : Nat → Nat) (B : Nat → List Nat) (w : World) (hn : n ≤ maxLen)
    (hp : 0 < n → ∃ b off, a0 = some ⟨b, off, none⟩ ∧ ∀ i, i < n → w.cell? ⟨b, off + i, none⟩ = some (.slice (A i) (L i) (C i)))
    (hr : ∀ i, i < n → L i ≤ maxLen ∧ Row w (A i) (L i) (B i)) :
    Calls Try.prog 60 #[.slice a0 n cap] w fun e w' => e = .returned (.int .u32 ((Crc.of (flat B n) : Nat) : Int)) ∧ w = w' := by
  unfold maxLen at hn hr
  go_enter Try.func60, Try.ntmps60
  go_wp2
  go_loop [3, 10] (fun s i => ∃ k : Nat, k ≤ n ∧ i = .int .i64 k ∧ s = .int .u32 ((Crc.run 4294967295 (flat B k) : Nat) : Int)) (fun _ i => n - (intOf i).toNat)
  case atStart => exact ⟨0, by omega, rfl, rfl⟩
  case round =>
    obtain ⟨k, hk, rfl, rfl⟩ := hrel
    by_cases hlt : k < n
    · obtain ⟨b, off, ha0, hcell⟩ := hp (by omega)
      subst ha0
      have hck := hcell k hlt
      obtain ⟨hLk, hlen, hby, hrow⟩ := hr k hlt
      go_wp2
      go_loop [3, 16] (fun s i => ∃ j : Nat, j ≤ L k ∧ i = .int .i64 j ∧ s = .int .u32 ((Crc.run 4294967295 (flat B k ++ (B k).take j) : Nat) : Int)) (fun _ i => L k - (intOf i).toNat)
      case atStart => exact ⟨0, by omega, rfl, by simp⟩
      case round =>
        obtain ⟨j, hj, rfl, rfl⟩ := hrel
        by_cases hlj : j < L k
        · obtain ⟨b1, off1, ha1, hc1⟩ := hrow (by omega)
          have hcj := hc1 j hlj
          have hbl := getD_lt hby j
          have hsl := Crc.run_lt (s := 4294967295) (flat B k ++ (B k).take j) (by omega) (flat_lt2 B k j n hlt (fun i hi => (hr i hi).2.2.1))
          have HT := Lib.hid (take_snoc_getD (B k) j (by omega))
          obtain ⟨x, hx⟩ : ∃ x, x = (B k).getD j 0 := ⟨_, rfl⟩
          rw [← hx] at hcj hbl
          have HX := Lib.hid hx
          have HA := Lib.hid ha1
          clear hx ha1 hc1 hck hcell hrow
          rw [HA.out]
          go_wp2_with fail
          rw [xor_byte _ _ hsl hbl]
          refine (halve_any _ _ (xor_byte_lt _ _ hsl hbl)).mono ?_
          rintro e w' ⟨rfl, rfl⟩
          go_wp2
          go_round
          case rel => exact ⟨j + 1, by omega, by go_num, by rw [HT.out, ← HX.out, ← List.append_assoc, Crc.run_append _ (flat B k ++ List.take j (B k))]; rfl⟩
          case measure => simp [intOf]; omega
        · obtain rfl : j = L k := by omega
          have HF := Lib.hid (show flat B k ++ (B k).take (L k) = flat B (k + 1) by rw [← hlen, List.take_length]; rfl)
          go_wp2
          go_round
          case rel => exact ⟨k + 1, by omega, by go_num, by rw [HF.out]⟩
          case measure => simp [intOf]; omega
    · obtain rfl : k = n := by omega
      have hsl := Crc.run_lt (s := 4294967295) (flat B k) (by omega) (flat_lt B k (fun i hi => (hr i hi).2.2.1) k (by omega))
      have HE := Lib.hid (not_u32 _ hsl)
      go_wp2
      go_ret
      exact ⟨ret_int HE.out, rfl⟩

end Go.Proofs.Ytnhklomofebfaaa
