/- gabionref01.With and Num, of many bytes. -/
import Derived.Test.YthgcjiocelcblaaGreatK03
import Derived.Deep.DeepCutAuto
namespace Go.Proofs.YthgcjiocelcblaaGreat
open Go.RowKit

theorem rowR_front {w : World} {b off n : Nat} {bs : List Nat} (h : Row w (some ⟨b, off, none⟩) n bs) (k : Nat) (hk : k ≤ n) : Row w (some ⟨b, off, none⟩) k (bs.take k) := by
  obtain ⟨h1, h2, h3⟩ := h
  refine ⟨by rw [List.length_take, h1]; omega, fun x hx => h2 x (List.mem_of_mem_take hx), fun h0 => ?_⟩
  obtain ⟨b', off', e, hc⟩ := h3 (by omega)
  refine ⟨b', off', e, fun i hi => ?_⟩
  rw [hc i (by omega)]
  simp [List.getD, hi]
theorem rowR_suffix {w : World} {b off n : Nat} {bs : List Nat} (h : Row w (some ⟨b, off, none⟩) n bs) (k : Nat) (hk : k ≤ n) : Row w (some ⟨b, off + k, none⟩) (n - k) (bs.drop k) := by
  obtain ⟨h1, h2, h3⟩ := h
  refine ⟨by rw [List.length_drop, h1], fun x hx => h2 x (List.mem_of_mem_drop hx), fun h0 => ?_⟩
  obtain ⟨b', off', e, hc⟩ := h3 (by omega)
  cases e
  refine ⟨b, off + k, rfl, fun i hi => ?_⟩
  rw [Nat.add_assoc, hc (k + i) (by omega)]
  simp [List.getD_eq_getElem?_getD, List.getElem?_drop]

theorem numR_next (l : List Nat) (k : Nat) (hk : k < l.length) : leVal (l.take (k + 1)) = leVal (l.take k) + l.getD k 0 * 256 ^ k := by
  rw [take_snoc_getD l k hk, leVal_snoc, List.length_take, Nat.min_eq_left (by omega)]
set_option maxRecDepth 100000 in
set_option maxHeartbeats 1000000 in
theorem withR_any (b off n c : Nat) (bs : List Nat) (k : Nat) (pa : Option Addr) (m pc : Nat) (p : List Nat) (w : World) (hr : Row w (some ⟨b, off, none⟩) n bs) (hnc : n ≤ c) (hc : c ≤ 2 ^ 63 - 1) (hk : k + m ≤ n) (hn : n ≤ 100000) (hx : Row w pa m p) (hpn : pa = none → pc = 0) :
    Calls Tryz.prog 24 #[.slice (some ⟨b, off, none⟩) n c, .int .i64 (k : Int), .slice pa m pc] w (RetOwn w (bs.take k ++ p ++ bs.drop (k + m))) := by
  have HR := Lib.hid hr
  have HX := Lib.hid hx
  have HPN := Lib.hid hpn
  have HF := Lib.hid (rowR_front hr k (by omega))
  have HL : Hid (bs.length = n) := Lib.hid hr.1
  have HM : Hid (p.length = m) := Lib.hid hx.1
  obtain ⟨res, hres⟩ : ∃ r, r = bs.take k ++ p ++ bs.drop (k + m) := ⟨_, rfl⟩
  rw [← hres]
  have HRES := Lib.hid hres
  clear hr hx hres hpn
  have h1 : k ≤ c := by omega
  have h2 : (k : Int) ≤ (c : Int) := by omega
  have h3 : (0 : Int) ≤ (k : Int) := by omega
  have h4 : k + m ≤ n := by omega
  have h5 : (k : Int) + (m : Int) ≤ (n : Int) := by omega
  have h6 : (n : Int) ≤ (c : Int) := by omega
  have h7 : (0 : Int) ≤ (k : Int) + (m : Int) := by omega
  go_enter Tryz.func24, Tryz.ntmps24
  go_wp2_with (at_builtin; refine wpList_app rfl _ _ rfl w.heap.size _ _ rfl (own_nil _ _) _ _ _ (bs.take k) rfl HF.out (fun h => by cases h) (Nat.le_refl _) (by simp; omega) ?_)
  intro v1 w1 hap
  have HO1 : Hid (Own w.heap.size w1 v1 (bs.take k)) := Lib.hid hap.own
  have HB1 : Hid (Below w.heap.size w w1) := Lib.hid hap.below
  clear hap
  have HX1 := Lib.hid (row_keep HX.out HB1.out (Nat.le_refl _))
  have HR1 := Lib.hid (row_keep HR.out HB1.out (Nat.le_refl _))
  have hl1 : (bs.take k).length ≤ 100000 := by rw [List.length_take]; omega
  obtain ⟨l1, hl1e⟩ : ∃ l1, l1 = bs.take k := ⟨_, rfl⟩
  rw [← hl1e] at HO1 hl1 HRES
  clear hl1e
  go_wp2_with (at_builtin; refine wpList_app rfl _ _ rfl w.heap.size _ _ rfl HO1.out _ _ _ p rfl HX1.out HPN.out HB1.out.size (by omega) ?_)
  intro v2 w2 hap
  have HO2 : Hid (Own w.heap.size w2 v2 (l1 ++ p)) := Lib.hid hap.own
  have HB2 : Hid (Below w.heap.size w w2) := Lib.hid (HB1.out.trans hap.below)
  clear hap
  have HS2 := Lib.hid (rowR_suffix (row_keep HR.out HB2.out (Nat.le_refl _)) (k + m) (by omega))
  have hl2 : (l1 ++ p).length ≤ 200000 := by rw [List.length_append, HM.out]; omega
  obtain ⟨l2, hl2e⟩ : ∃ l2, l2 = l1 ++ p := ⟨_, rfl⟩
  rw [← hl2e] at HO2 hl2 HRES
  clear hl2e
  go_upto_region 4 with fail
  by_cases hce : c = k + m
  · have hnk : n = k + m := by omega
    have HE : Hid (bs.drop (k + m) = []) := Lib.hid (List.drop_eq_nil_of_le (by rw [HL.out, hnk]; exact Nat.le_refl _))
    rw [HE.out, List.append_nil] at HRES
    subst hce hnk
    have HR0 : Hid (∀ q : Addr, Row w2 (some q) 0 []) := Lib.hid fun q => ⟨rfl, (fun x hx => by cases hx), fun h => absurd h (Nat.lt_irrefl 0)⟩
    go_wp2_with (at_builtin; refine wpList_app rfl _ _ rfl w.heap.size _ _ rfl HO2.out _ 0 _ [] rfl (HR0.out _) (fun h => by cases h) HB2.out.size (by omega) ?_; intro v3 w3 hap; have HO3 := Lib.hid hap.own; have HB3 := Lib.hid (HB2.out.trans hap.below); clear hap)
    rw [List.append_nil, ← HRES.out] at HO3
    go_wp2
    go_ret
    exact ⟨_, rfl, HO3.out, HB3.out⟩
  · go_wp2_with (at_builtin; refine wpList_app rfl _ _ rfl w.heap.size _ _ rfl HO2.out _ _ _ _ rfl HS2.out (fun h => by cases h) HB2.out.size (by omega) ?_; intro v3 w3 hap; have HO3 := Lib.hid hap.own; have HB3 := Lib.hid (HB2.out.trans hap.below); clear hap)
    rw [← HRES.out] at HO3
    go_wp2
    go_ret
    exact ⟨_, rfl, HO3.out, HB3.out⟩
set_option maxRecDepth 100000 in
set_option maxHeartbeats 800000 in
theorem numR_any (a : Option Addr) (len cap : Nat) (bs : List Nat) (at_ n : Nat) (w : World) (hr : Row w a len bs) (hl : at_ + n ≤ len) (hlen : len ≤ 100000) (hn : n ≤ 4) :
    Calls Tryz.prog 33 #[.slice a len cap, .int .i64 (at_ : Int), .int .i64 (n : Int)] w fun e w' => e = .returned (.int .u64 ((leVal ((bs.drop at_).take n) : Nat) : Int)) ∧ w' = w := by
  obtain ⟨L, hL⟩ : ∃ L, (bs.drop at_).take n = L := ⟨_, rfl⟩
  have hLl : L.length = n := by rw [← hL, List.length_take, List.length_drop, hr.1]; omega
  have hLb : ∀ x ∈ L, x < 256 := fun x hx => hr.2.1 x (List.mem_of_mem_drop (List.mem_of_mem_take (hL ▸ hx)))
  have hg : ∀ k, k < n → L.getD k 0 = bs.getD (at_ + k) 0 := fun k hk => by
    rw [← hL]
    simp only [List.getD_eq_getElem?_getD, List.getElem?_take_of_lt hk, List.getElem?_drop]
  rw [hL]
  have HR := Lib.hid hr
  have HG := Lib.hid hg
  have HLB := Lib.hid hLb
  have HLL := Lib.hid hLl
  clear hr hg hLb hLl hL
  go_enter Tryz.func33, Tryz.ntmps33
  go_wp2
  go_loop [7, 8, 9] (fun v p i => ∃ k : Nat, k ≤ n ∧ i = .int .i64 (k : Int) ∧ v = .int .u64 ((leVal (L.take k) : Nat) : Int) ∧ p = .int .u64 ((256 ^ k : Nat) : Int)) (fun _ _ i => n - (intOf i).toNat)
  case atStart => exact ⟨0, by omega, rfl, by simp [leVal], by simp⟩
  case round =>
    obtain ⟨k, hk, rfl, rfl, rfl⟩ := hrel
    by_cases hlt : k < n
    · obtain ⟨b, off, x, rfl, hc, hx, HX⟩ := row_cell HR.out (show at_ + k < len by omega)
      have HN := Lib.hid (numR_next L k (by rw [HLL.out]; exact hlt))
      have hv : leVal (L.take k) < 256 ^ k := by
        have h1 := leVal_lt (L.take k) (fun y hy => HLB.out y (List.mem_of_mem_take hy))
        rw [List.length_take, HLL.out, Nat.min_eq_left (by omega)] at h1
        exact h1
      have hp : 256 ^ k ≤ 16777216 := by
        have h1 : 256 ^ k ≤ 256 ^ 3 := Nat.pow_le_pow_right (by omega) (by omega)
        omega
      have HXG : Hid (L.getD k 0 = x) := Lib.hid (by rw [HG.out k hlt, ← HX.out])
      have HP1 : Hid (256 ^ (k + 1) = 256 ^ k * 256) := Lib.hid (Nat.pow_succ 256 k)
      obtain ⟨p, hpp⟩ : ∃ p, 256 ^ k = p := ⟨_, rfl⟩
      obtain ⟨v, hvv⟩ : ∃ v, leVal (L.take k) = v := ⟨_, rfl⟩
      rw [hpp] at hv hp HN HP1 ⊢
      rw [hvv] at hv HN ⊢
      have hxp : x * p ≤ 255 * 16777216 := Nat.mul_le_mul (by omega) hp
      obtain ⟨q, hq⟩ : ∃ q, at_ + k = q := ⟨_, rfl⟩
      obtain ⟨xp, hxpe⟩ : ∃ xp, x * p = xp := ⟨_, rfl⟩
      obtain ⟨vv, hv2⟩ : ∃ vv, v + xp = vv := ⟨_, rfl⟩
      obtain ⟨pp, hpe⟩ : ∃ pp, p * 256 = pp := ⟨_, rfl⟩
      rw [hq] at hc
      rw [hxpe] at hxp
      have HV2 : Hid (v + L.getD k 0 * p = vv) := Lib.hid (by rw [HXG.out, hxpe, hv2])
      have HPE := Lib.hid hpe
      have e1 : (at_ : Int) + (k : Int) = (q : Int) := by omega
      have e2 : IntKind.i64.wrap (q : Int) = (q : Int) := by rw [IntKind.wrap_i64]; omega
      have e3 : (x : Int) * (p : Int) = (xp : Int) := by rw [← hxpe]; push_cast; rfl
      have e4 : IntKind.u64.wrap (xp : Int) = (xp : Int) := by rw [IntKind.wrap_u64]; omega
      have e5 : (v : Int) + (xp : Int) = (vv : Int) := by omega
      have e6 : IntKind.u64.wrap (vv : Int) = (vv : Int) := by rw [IntKind.wrap_u64]; omega
      have e7 : (p : Int) * 256 = (pp : Int) := by omega
      have e8 : IntKind.u64.wrap (pp : Int) = (pp : Int) := by rw [IntKind.wrap_u64]; omega
      have i1 : (0 : Int) ≤ (q : Int) := by omega
      have i2 : (q : Int) < (len : Int) := by omega
      clear hpp hvv hq hxpe hv2 hpe hv hp hxp
      go_wp2
      go_round
      case rel => exact ⟨k + 1, by omega, by go_num, by rw [HN.out, HV2.out], by rw [HP1.out, HPE.out]⟩
      case measure => simp [intOf]; omega
    · obtain rfl : k = n := by omega
      have HK : Hid (L.take k = L) := Lib.hid (List.take_of_length_le (by rw [HLL.out]; omega))
      rw [HK.out]
      go_wp2
      go_ret
      exact ⟨rfl, rfl⟩

end Go.Proofs.YthgcjiocelcblaaGreat
