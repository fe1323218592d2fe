/- lay[uint16]: numbers of 2 bytes are laid, the lowest byte first. -/
import Derived.Test.YtallambldbhibaaWriterMore
import Derived.Deep.RegionLaw
import Derived.Deep.AppendLies
namespace Go.Proofs.Ytallambldbhibaa
open Go.RowKit

set_option maxRecDepth 100000 in
set_option maxHeartbeats 800000 in
theorem lay16_any (pw B : Nat) (sv : Value) (bs : List Nat) (w : World) (hw : WR B w pw sv bs) (hB : B ≤ w.heap.size) (xa : Option Addr) (m c : Nat) (ns : List Nat)
    (hr : RowK .u16 65536 w xa m ns) (hfar : 0 < m → ∀ x, xa = some x → x.block ≠ pw ∧ some x.block ≠ sv.ownBlock) (hm : m ≤ 100000) (hlen : bs.length ≤ 1000000) :
    Calls Try.prog 133 #[.pointer (some ⟨pw, 0, none⟩), .int .i64 2, .slice xa m c] w (WRet w pw B sv (bs ++ ns.flatMap (Crc.les 2))) := by
  obtain ⟨i0, hi, hz0, hz1, hz2⟩ := info_parts info_u8
  go_enter Try.func133, Try.ntmps133
  go_wp2
  go_loopw [14] (fun i wr => ∃ (k : Nat) (sv1 : Value), k ≤ m ∧ i = .int .i64 k ∧ WR B wr pw sv1 (bs ++ (ns.take k).flatMap (Crc.les 2)) ∧ Moved w pw sv sv1 wr) (fun i _ => m - (intOf i).toNat)
  case atStart => exact ⟨0, sv, by omega, rfl, by simpa using hw, Moved.refl _ _ _⟩
  case round =>
    obtain ⟨k, sv1, hk, rfl, hw1, hmv⟩ := hrel
    by_cases hlt : k < m
    · obtain ⟨b, off, n, ha, hcn, hn, HN⟩ := rowK_cell (rowK_moved hr hmv hfar) hlt
      have HT := Lib.hid (flat_snoc 2 ns k (by have := hr.1; omega))
      have HL := Lib.hid (lay_len 2 bs ns k (by omega))
      have HA := Lib.hid ha
      clear ha
      rw [HA.out]
      go_wp2
      obtain ⟨wo, hwo⟩ : ∃ wo : World, wo = wr := ⟨_, rfl⟩
      rw [← hwo] at hw1 hmv hcn ⊢
      clear hwo
      obtain ⟨X, hX⟩ : ∃ X, X = bs ++ (ns.take k).flatMap (Crc.les 2) := ⟨_, rfl⟩
      rw [← hX] at hw1 HL
      have HX := Lib.hid hX
      clear hX
      go_loopw [19] (fun i wr => ∃ (j : Nat) (sv2 : Value), j ≤ 2 ∧ i = .int .i64 j ∧ WR B wr pw sv2 (X ++ Crc.les j n) ∧ Moved w pw sv sv2 wr) (fun i _ => 2 - (intOf i).toNat)
      case atStart => exact ⟨0, sv1, by omega, rfl, by simpa [Crc.les] using hw1, hmv⟩
      case round =>
        obtain ⟨j, sv2, hj, rfl, hw2, hmv2⟩ := hrel
        clear hw1 hmv hcn
        by_cases hlj : j < 2
        · obtain ⟨a1, c1, hv1, _, hnil1, hm1⟩ := wr_shape hw2
          have hrow := hw2.2.2.1.1
          have hcell := wr_cell hw2
          have hfr := wr_frozen hw2
          have hlt2 := wr_lt hw2
          have hob := hw2.2.2.2
          have hBw : B ≤ wr.heap.size := Nat.le_trans hB hmv2.size
          have hll := HL.out
          have hle : (X ++ Crc.les j n).length ≤ 2000000 := by rw [List.length_append, Crc.les_len]; omega
          obtain ⟨L, hL⟩ : ∃ L, L = (X ++ Crc.les j n).length := ⟨_, rfl⟩
          rw [← hL] at hle hv1 hm1 hrow
          have HLL := Lib.hid hL
          clear hL hll
          subst hv1
          have e1 := mul8_wrap (show j < 8 by omega)
          have hy := byte_lt n j
          have e3 := byte_at n j
          have HY := Lib.hid (les_byte j n)
          obtain ⟨s, hs⟩ : ∃ s, s = 8 * j := ⟨_, rfl⟩
          obtain ⟨y, hyy⟩ : ∃ y, y = n / 256 ^ j % 256 := ⟨_, rfl⟩
          rw [← hs] at e1 e3
          rw [← hyy] at e3 hy HY
          have hs0 : (0 : Int) ≤ (s : Int) := by omega
          have e2 : min s 16 = s := by omega
          clear hs hyy
          go_wp2
          have hcA := cell_alloc_drew hcell (.cells #[.int .u8 (y : Int)] 5)
          have hfA := frozen_alloc_drew hlt2 hfr (.cells #[.int .u8 (y : Int)] 5)
          go_region_law (first
            | (refine step_append_lies _ (by rfl) _ _ _ (by rfl) B 5 i0 _ 1 1 Try.underlying37 hi hz0 hz1 hz2 rfl (by omega) (.slice a1 L c1) L _ (by rfl) ((hrow.alloc _).drew) ⟨wr.heap.size, 0, none⟩ 1 1 [.int .u8 (y : Int)] (by rfl) (by rfl) (World.news_of_block (cs := #[.int .u8 (y : Int)]) (t := 5) (fr := (0, 0)) (heap_alloc_new wr _)) (by simp [Value.oneCell']) (by omega) (by unfold maxLen; omega) (by omega) (by simp; omega) (wr.heap.size + 1) (by simp) ?_; intro gg gcap w2 hown1 hgrow hat hlt3; have hc2 := far_cell hgrow hlt2 hob hcA; have hf2 := far_frozen hgrow hlt2 hob hfA))
          all_goals
            have hst := wr_lies hw2 hown1 HLL.out hy hgrow hat hBw
            rw [List.append_assoc, ← HY.out] at hst
            clear hown1 hgrow hat hlt3 hc2 hf2 hrow hcell hfr hcA hfA hw2 hob e1 e2 e3
            go_wp2
            go_roundw
            case rel => exact ⟨j + 1, _, by omega, by go_num, hst.1, hmv2.trans hst.2⟩
            case measure => simp [intOf]; omega
        · obtain rfl : j = 2 := by omega
          have HF : Hid (bs ++ (ns.take (k + 1)).flatMap (Crc.les 2) = X ++ Crc.les 2 n) := by
            unfold Hid
            rw [HT.out, HX.out, HN.out, List.append_assoc]
          go_wp2
          go_roundw
          case rel => exact ⟨k + 1, sv2, by omega, by go_num, by rw [HF.out]; exact hw2, hmv2⟩
          case measure => simp [intOf]; omega
    · obtain rfl : k = m := by omega
      have hk2 : ns.take k = ns := by rw [← hr.1, List.take_length]
      rw [hk2] at hw1
      clear hk2
      go_wp2
      go_ret
      exact ⟨rfl, sv1, hw1, hmv⟩

end Go.Proofs.Ytallambldbhibaa

namespace Go.Proofs.Ytallambldbhibaa
open Go.RowKit

set_option maxRecDepth 100000 in
set_option maxHeartbeats 800000 in
theorem lay32_any (pw B : Nat) (sv : Value) (bs : List Nat) (w : World) (hw : WR B w pw sv bs) (hB : B ≤ w.heap.size) (xa : Option Addr) (m c : Nat) (ns : List Nat)
    (hr : RowK .u32 4294967296 w xa m ns) (hfar : 0 < m → ∀ x, xa = some x → x.block ≠ pw ∧ some x.block ≠ sv.ownBlock) (hm : m ≤ 100000) (hlen : bs.length ≤ 1000000) :
    Calls Try.prog 132 #[.pointer (some ⟨pw, 0, none⟩), .int .i64 4, .slice xa m c] w (WRet w pw B sv (bs ++ ns.flatMap (Crc.les 4))) := by
  obtain ⟨i0, hi, hz0, hz1, hz2⟩ := info_parts info_u8
  go_enter Try.func132, Try.ntmps132
  go_wp2
  go_loopw [14] (fun i wr => ∃ (k : Nat) (sv1 : Value), k ≤ m ∧ i = .int .i64 k ∧ WR B wr pw sv1 (bs ++ (ns.take k).flatMap (Crc.les 4)) ∧ Moved w pw sv sv1 wr) (fun i _ => m - (intOf i).toNat)
  case atStart => exact ⟨0, sv, by omega, rfl, by simpa using hw, Moved.refl _ _ _⟩
  case round =>
    obtain ⟨k, sv1, hk, rfl, hw1, hmv⟩ := hrel
    by_cases hlt : k < m
    · obtain ⟨b, off, n, ha, hcn, hn, HN⟩ := rowK_cell (rowK_moved hr hmv hfar) hlt
      have HT := Lib.hid (flat_snoc 4 ns k (by have := hr.1; omega))
      have HL := Lib.hid (lay_len 4 bs ns k (by omega))
      have HA := Lib.hid ha
      clear ha
      rw [HA.out]
      go_wp2
      obtain ⟨wo, hwo⟩ : ∃ wo : World, wo = wr := ⟨_, rfl⟩
      rw [← hwo] at hw1 hmv hcn ⊢
      clear hwo
      obtain ⟨X, hX⟩ : ∃ X, X = bs ++ (ns.take k).flatMap (Crc.les 4) := ⟨_, rfl⟩
      rw [← hX] at hw1 HL
      have HX := Lib.hid hX
      clear hX
      go_loopw [19] (fun i wr => ∃ (j : Nat) (sv2 : Value), j ≤ 4 ∧ i = .int .i64 j ∧ WR B wr pw sv2 (X ++ Crc.les j n) ∧ Moved w pw sv sv2 wr) (fun i _ => 4 - (intOf i).toNat)
      case atStart => exact ⟨0, sv1, by omega, rfl, by simpa [Crc.les] using hw1, hmv⟩
      case round =>
        obtain ⟨j, sv2, hj, rfl, hw2, hmv2⟩ := hrel
        clear hw1 hmv hcn
        by_cases hlj : j < 4
        · obtain ⟨a1, c1, hv1, _, hnil1, hm1⟩ := wr_shape hw2
          have hrow := hw2.2.2.1.1
          have hcell := wr_cell hw2
          have hfr := wr_frozen hw2
          have hlt2 := wr_lt hw2
          have hob := hw2.2.2.2
          have hBw : B ≤ wr.heap.size := Nat.le_trans hB hmv2.size
          have hll := HL.out
          have hle : (X ++ Crc.les j n).length ≤ 2000000 := by rw [List.length_append, Crc.les_len]; omega
          obtain ⟨L, hL⟩ : ∃ L, L = (X ++ Crc.les j n).length := ⟨_, rfl⟩
          rw [← hL] at hle hv1 hm1 hrow
          have HLL := Lib.hid hL
          clear hL hll
          subst hv1
          have e1 := mul8_wrap (show j < 8 by omega)
          have hy := byte_lt n j
          have e3 := byte_at n j
          have HY := Lib.hid (les_byte j n)
          obtain ⟨s, hs⟩ : ∃ s, s = 8 * j := ⟨_, rfl⟩
          obtain ⟨y, hyy⟩ : ∃ y, y = n / 256 ^ j % 256 := ⟨_, rfl⟩
          rw [← hs] at e1 e3
          rw [← hyy] at e3 hy HY
          have hs0 : (0 : Int) ≤ (s : Int) := by omega
          have e2 : min s 32 = s := by omega
          clear hs hyy
          go_wp2
          have hcA := cell_alloc_drew hcell (.cells #[.int .u8 (y : Int)] 5)
          have hfA := frozen_alloc_drew hlt2 hfr (.cells #[.int .u8 (y : Int)] 5)
          go_region_law (first
            | (refine step_append_lies _ (by rfl) _ _ _ (by rfl) B 5 i0 _ 1 1 Try.underlying37 hi hz0 hz1 hz2 rfl (by omega) (.slice a1 L c1) L _ (by rfl) ((hrow.alloc _).drew) ⟨wr.heap.size, 0, none⟩ 1 1 [.int .u8 (y : Int)] (by rfl) (by rfl) (World.news_of_block (cs := #[.int .u8 (y : Int)]) (t := 5) (fr := (0, 0)) (heap_alloc_new wr _)) (by simp [Value.oneCell']) (by omega) (by unfold maxLen; omega) (by omega) (by simp; omega) (wr.heap.size + 1) (by simp) ?_; intro gg gcap w2 hown1 hgrow hat hlt3; have hc2 := far_cell hgrow hlt2 hob hcA; have hf2 := far_frozen hgrow hlt2 hob hfA))
          all_goals
            have hst := wr_lies hw2 hown1 HLL.out hy hgrow hat hBw
            rw [List.append_assoc, ← HY.out] at hst
            clear hown1 hgrow hat hlt3 hc2 hf2 hrow hcell hfr hcA hfA hw2 hob e1 e2 e3
            go_wp2
            go_roundw
            case rel => exact ⟨j + 1, _, by omega, by go_num, hst.1, hmv2.trans hst.2⟩
            case measure => simp [intOf]; omega
        · obtain rfl : j = 4 := by omega
          have HF : Hid (bs ++ (ns.take (k + 1)).flatMap (Crc.les 4) = X ++ Crc.les 4 n) := by
            unfold Hid
            rw [HT.out, HX.out, HN.out, List.append_assoc]
          go_wp2
          go_roundw
          case rel => exact ⟨k + 1, sv2, by omega, by go_num, by rw [HF.out]; exact hw2, hmv2⟩
          case measure => simp [intOf]; omega
    · obtain rfl : k = m := by omega
      have hk2 : ns.take k = ns := by rw [← hr.1, List.take_length]
      rw [hk2] at hw1
      clear hk2
      go_wp2
      go_ret
      exact ⟨rfl, sv1, hw1, hmv⟩

end Go.Proofs.Ytallambldbhibaa

namespace Go.Proofs.Ytallambldbhibaa
open Go.RowKit

end Go.Proofs.Ytallambldbhibaa
