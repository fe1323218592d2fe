/- gabionref01.With and Num, of many bytes. -/
import Derived.Test.YtdpkinppkhnjkaaDoorReaderMore
import Derived.Deep.DeepCutAuto
namespace Go.Proofs.YtdpkinppkhnjkaaDoor
open Go.RowKit

theorem rowR_front {w : World} {b off n : Nat} {bs : List Nat} (h : Row w (some ⟨b, off, none⟩) n bs) (k : Nat) (hk : k ≤ n) : Row w (some ⟨b, off, none⟩) k (bs.take k) := by
  obtain ⟨h1, h2, h3⟩ := h
  refine ⟨by rw [List.length_take, h1]; omega, fun x hx => h2 x (List.mem_of_mem_take hx), fun h0 => ?_⟩
  obtain ⟨b', off', e, hc⟩ := h3 (by omega)
  refine ⟨b', off', e, fun i hi => ?_⟩
  rw [hc i (by omega)]
  simp [List.getD, hi]
theorem rowR_suffix {w : World} {b off n : Nat} {bs : List Nat} (h : Row w (some ⟨b, off, none⟩) n bs) (k : Nat) (hk : k ≤ n) : Row w (some ⟨b, off + k, none⟩) (n - k) (bs.drop k) := by
  obtain ⟨h1, h2, h3⟩ := h
  refine ⟨by rw [List.length_drop, h1], fun x hx => h2 x (List.mem_of_mem_drop hx), fun h0 => ?_⟩
  obtain ⟨b', off', e, hc⟩ := h3 (by omega)
  cases e
  refine ⟨b, off + k, rfl, fun i hi => ?_⟩
  rw [Nat.add_assoc, hc (k + i) (by omega)]
  simp [List.getD_eq_getElem?_getD, List.getElem?_drop]

theorem numR_next (l : List Nat) (k : Nat) (hk : k < l.length) : leVal (l.take (k + 1)) = leVal (l.take k) + l.getD k 0 * 256 ^ k := by
  rw [take_snoc_getD l k hk, leVal_snoc, List.length_take, Nat.min_eq_left (by omega)]
set_option maxRecDepth 100000 in
set_option maxHeartbeats 800000 in
theorem numR_any (a : Option Addr) (len cap : Nat) (bs : List Nat) (at_ n : Nat) (w : World) (hr : Row w a len bs) (hl : at_ + n ≤ len) (hlen : len ≤ 100000) (hn : n ≤ 4) :
    Calls Tryd.prog 14 #[.slice a len cap, .int .i64 (at_ : Int), .int .i64 (n : Int)] w fun e w' => e = .returned (.int .u64 ((leVal ((bs.drop at_).take n) : Nat) : Int)) ∧ w' = w := by
  obtain ⟨L, hL⟩ : ∃ L, (bs.drop at_).take n = L := ⟨_, rfl⟩
  have hLl : L.length = n := by rw [← hL, List.length_take, List.length_drop, hr.1]; omega
  have hLb : ∀ x ∈ L, x < 256 := fun x hx => hr.2.1 x (List.mem_of_mem_drop (List.mem_of_mem_take (hL ▸ hx)))
  have hg : ∀ k, k < n → L.getD k 0 = bs.getD (at_ + k) 0 := fun k hk => by
    rw [← hL]
    simp only [List.getD_eq_getElem?_getD, List.getElem?_take_of_lt hk, List.getElem?_drop]
  rw [hL]
  have HR := Lib.hid hr
  have HG := Lib.hid hg
  have HLB := Lib.hid hLb
  have HLL := Lib.hid hLl
  clear hr hg hLb hLl hL
  go_enter Tryd.func14, Tryd.ntmps14
  go_wp2
  go_loop [7, 8, 9] (fun v p i => ∃ k : Nat, k ≤ n ∧ i = .int .i64 (k : Int) ∧ v = .int .u64 ((leVal (L.take k) : Nat) : Int) ∧ p = .int .u64 ((256 ^ k : Nat) : Int)) (fun _ _ i => n - (intOf i).toNat)
  case atStart => exact ⟨0, by omega, rfl, by simp [leVal], by simp⟩
  case round =>
    obtain ⟨k, hk, rfl, rfl, rfl⟩ := hrel
    by_cases hlt : k < n
    · obtain ⟨b, off, x, rfl, hc, hx, HX⟩ := row_cell HR.out (show at_ + k < len by omega)
      have HN := Lib.hid (numR_next L k (by rw [HLL.out]; exact hlt))
      have hv : leVal (L.take k) < 256 ^ k := by
        have h1 := leVal_lt (L.take k) (fun y hy => HLB.out y (List.mem_of_mem_take hy))
        rw [List.length_take, HLL.out, Nat.min_eq_left (by omega)] at h1
        exact h1
      have hp : 256 ^ k ≤ 16777216 := by
        have h1 : 256 ^ k ≤ 256 ^ 3 := Nat.pow_le_pow_right (by omega) (by omega)
        omega
      have HXG : Hid (L.getD k 0 = x) := Lib.hid (by rw [HG.out k hlt, ← HX.out])
      have HP1 : Hid (256 ^ (k + 1) = 256 ^ k * 256) := Lib.hid (Nat.pow_succ 256 k)
      obtain ⟨p, hpp⟩ : ∃ p, 256 ^ k = p := ⟨_, rfl⟩
      obtain ⟨v, hvv⟩ : ∃ v, leVal (L.take k) = v := ⟨_, rfl⟩
      rw [hpp] at hv hp HN HP1 ⊢
      rw [hvv] at hv HN ⊢
      have hxp : x * p ≤ 255 * 16777216 := Nat.mul_le_mul (by omega) hp
      obtain ⟨q, hq⟩ : ∃ q, at_ + k = q := ⟨_, rfl⟩
      obtain ⟨xp, hxpe⟩ : ∃ xp, x * p = xp := ⟨_, rfl⟩
      obtain ⟨vv, hv2⟩ : ∃ vv, v + xp = vv := ⟨_, rfl⟩
      obtain ⟨pp, hpe⟩ : ∃ pp, p * 256 = pp := ⟨_, rfl⟩
      rw [hq] at hc
      rw [hxpe] at hxp
      have HV2 : Hid (v + L.getD k 0 * p = vv) := Lib.hid (by rw [HXG.out, hxpe, hv2])
      have HPE := Lib.hid hpe
      have e1 : (at_ : Int) + (k : Int) = (q : Int) := by omega
      have e2 : IntKind.i64.wrap (q : Int) = (q : Int) := by rw [IntKind.wrap_i64]; omega
      have e3 : (x : Int) * (p : Int) = (xp : Int) := by rw [← hxpe]; push_cast; rfl
      have e4 : IntKind.u64.wrap (xp : Int) = (xp : Int) := by rw [IntKind.wrap_u64]; omega
      have e5 : (v : Int) + (xp : Int) = (vv : Int) := by omega
      have e6 : IntKind.u64.wrap (vv : Int) = (vv : Int) := by rw [IntKind.wrap_u64]; omega
      have e7 : (p : Int) * 256 = (pp : Int) := by omega
      have e8 : IntKind.u64.wrap (pp : Int) = (pp : Int) := by rw [IntKind.wrap_u64]; omega
      have i1 : (0 : Int) ≤ (q : Int) := by omega
      have i2 : (q : Int) < (len : Int) := by omega
      clear hpp hvv hq hxpe hv2 hpe hv hp hxp
      go_wp2
      go_round
      case rel => exact ⟨k + 1, by omega, by go_num, by rw [HN.out, HV2.out], by rw [HP1.out, HPE.out]⟩
      case measure => simp [intOf]; omega
    · obtain rfl : k = n := by omega
      have HK : Hid (L.take k = L) := Lib.hid (List.take_of_length_le (by rw [HLL.out]; omega))
      rw [HK.out]
      go_wp2
      go_ret
      exact ⟨rfl, rfl⟩

end Go.Proofs.YtdpkinppkhnjkaaDoor
