/- The contracts of gabionref01's Bytes and Zeros. -/
import Derived.Test.YtallambldbhibaaAppend
import Derived.Test.YtallambldbhibaaCrc
namespace Go.Proofs.Ytallambldbhibaa
open Go.RowKit

theorem les_snoc (k v : Nat) : Crc.les (k + 1) v = Crc.les k v ++ [v / 256 ^ k % 256] := by
  induction k generalizing v with
  | zero => simp [Crc.les]
  | succ k ih =>
    rw [Crc.les, ih, Crc.les, List.cons_append, Nat.div_div_eq_div_mul, Nat.pow_succ, Nat.mul_comm 256]
set_option maxHeartbeats 400000 in
theorem bytes_any (v n : Nat) (w : World) (hv : v < 18446744073709551616) (hn : n ≤ 1000) :
    Calls Try.prog 101 #[.int .u64 (v : Int), .int .i64 (n : Int)] w (RetOwn w (Crc.les n v)) := by
  obtain ⟨i0, hi, hz0, hz1, hz2⟩ := info_parts info_u8
  go_enter Try.func101, Try.ntmps101
  go_wp2
  go_loopw [0, 5, 6] (fun x out i wr => ∃ k : Nat, k ≤ n ∧ i = .int .i64 k ∧ x = .int .u64 ((v / 256 ^ k : Nat) : Int) ∧ Own w.heap.size wr out (Crc.les k v) ∧ Below w.heap.size w wr) (fun _ _ i _ => n - (intOf i).toNat)
  case atStart => exact ⟨0, by omega, rfl, by simp, own_nil _ _, Below.refl _ _⟩
  case round =>
    obtain ⟨k, hk, rfl, rfl, hown, hbel⟩ := hrel
    by_cases hlt : k < n
    · have hq : v / 256 ^ k < 18446744073709551616 := Nat.lt_of_le_of_lt (Nat.div_le_self _ _) hv
      have HD := Lib.hid (Nat.div_div_eq_div_mul v (256 ^ k) 256)
      have HS := Lib.hid (les_snoc k v)
      generalize hqq : v / 256 ^ k = q at *
      have HQ := Lib.hid hqq
      clear hqq
      have hlk : (Crc.les k v).length ≤ k := by rw [Crc.les_len]; omega
      have hq2 : q % 256 < 256 := Nat.mod_lt _ (by omega)
      have HE : Hid ((q : Int) % 256 = ((q % 256 : Nat) : Int)) := by unfold Hid; omega
      go_wp2_with (at_builtin; refine wpList_app rfl _ _ rfl w.heap.size _ _ rfl (own_alloc hown _) _ _ _ [q % 256] rfl ?c1 ?c2 ?c3 ?c4 ?_)
      case c1 => exact row_one _ _ hq2
      case c2 => intro h; cases h
      case c3 => have := hbel.size; simp; omega
      case c4 => omega
      intro v1 w1 hap
      clear hown
      go_wp2
      go_roundw
      case rel => exact ⟨k + 1, by omega, by go_num, by rw [Nat.pow_succ, ← HD.out]; go_num, by rw [HS.out]; exact hap.own, (hbel.alloc hbel.size _).trans hap.below⟩
      case measure => simp [intOf]; omega
    · obtain rfl : k = n := by omega
      go_wp2
      go_ret
      exact ⟨_, rfl, hown, hbel⟩

theorem own_zeros {B : Nat} {w : World} {sv : Value} {n : Nat} (h : w.ownsRow B 5 1 sv n (madeCells #[Value.int .u8 0] n).toList) : Own B w sv (List.replicate n 0) := by
  refine ⟨?_, fun x hx => by rw [List.eq_of_mem_replicate hx]; omega⟩
  have e : (madeCells #[Value.int .u8 0] n).toList = (List.replicate n 0).map u8v := by
    rw [toList_madeCells_one, List.map_replicate]; rfl
  rw [e] at h
  rw [List.length_replicate]
  exact h

set_option maxHeartbeats 400000 in
theorem zeros_any (n : Nat) (w : World) (hn : n ≤ 100000) :
    Calls Try.prog 70 #[.int .i64 (n : Int)] w (RetOwn w (List.replicate n 0)) := by
  obtain ⟨i0, hi, hz0, hz1, hz2⟩ := info_parts info_u8
  go_enter Try.func70, Try.ntmps70
  go_wp2_with (refine wpList_make_full w rfl _ _ 37 rfl w.heap.size 5 i0 (.int .u8 0) 1 Try.underlying37 hi hz0 hz1 .i64 .i64 _ _ n rfl rfl rfl rfl ?c1 ?c2 ?c3 ?_)
  case c1 => rw [hz2]; omega
  case c2 => unfold maxLen; omega
  case c3 => exact Nat.le_refl _
  intro w1 hown hg
  go_wp2
  go_ret
  exact ⟨_, rfl, own_zeros hown, (Below.refl _ w).grown hg (Nat.le_refl _) (fun k hk => by cases hk)⟩

end Go.Proofs.Ytallambldbhibaa
