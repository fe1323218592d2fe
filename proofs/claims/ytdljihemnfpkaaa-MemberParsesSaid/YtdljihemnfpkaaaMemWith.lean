/- gabionref01.With of one byte. -/
import Derived.Test.YtdljihemnfpkaaaRRefOpen
namespace Go.Proofs.Ytdljihemnfpkaaa
open Go.RowKit

theorem row_front {w : World} {b off n : Nat} {bs : List Nat} (h : Row w (some ⟨b, off, none⟩) n bs) (k : Nat) (hk : k ≤ n) : Row w (some ⟨b, off, none⟩) k (bs.take k) := by
  obtain ⟨h1, h2, h3⟩ := h
  refine ⟨by rw [List.length_take, h1]; omega, fun x hx => h2 x (List.mem_of_mem_take hx), fun h0 => ?_⟩
  obtain ⟨b', off', e, hc⟩ := h3 (by omega)
  refine ⟨b', off', e, fun i hi => ?_⟩
  rw [hc i (by omega)]
  simp [List.getD, hi]
set_option maxHeartbeats 1600000 in
theorem with_any (b off n c : Nat) (bs : List Nat) (k : Nat) (pb pc : Nat) (x : Nat) (w : World) (hr : Row w (some ⟨b, off, none⟩) n bs) (hnc : n ≤ c) (hc : c ≤ 2 ^ 63 - 1) (hk : k < n) (hn : n ≤ 1000) (hx : Row w (some ⟨pb, 0, none⟩) 1 [x]) :
    Calls Try.prog 14 #[.slice (some ⟨b, off, none⟩) n c, .int .i64 (k : Int), .slice (some ⟨pb, 0, none⟩) 1 pc] w (RetOwn w (bs.take k ++ [x] ++ bs.drop (k + 1))) := by
  have HR := Lib.hid hr
  have HX := Lib.hid hx
  have HF := Lib.hid (row_front hr k (by omega))
  have HL : Hid (bs.length = n) := Lib.hid hr.1
  obtain ⟨res, hres⟩ : ∃ r, r = bs.take k ++ [x] ++ bs.drop (k + 1) := ⟨_, rfl⟩
  rw [← hres]
  have HRES := Lib.hid hres
  clear hr hx hres
  have h1 : k ≤ c := by omega
  have h2 : (k : Int) ≤ (c : Int) := by omega
  have h3 : (0 : Int) ≤ (k : Int) := by omega
  have h4 : k + 1 ≤ n := by omega
  have h5 : (k : Int) + 1 ≤ (n : Int) := by omega
  have h6 : (n : Int) ≤ (c : Int) := by omega
  have h7 : (0 : Int) ≤ (k : Int) + 1 := by omega
  go_enter Try.func14, Try.ntmps14
  go_wp2_with (at_builtin; refine wpList_app rfl _ _ rfl w.heap.size _ _ rfl (own_nil _ _) _ _ _ (bs.take k) rfl HF.out (fun h => by cases h) (Nat.le_refl _) (by simp; omega) ?_)
  intro v1 w1 hap
  have HO1 : Hid (Own w.heap.size w1 v1 (bs.take k)) := Lib.hid hap.own
  have HB1 : Hid (Below w.heap.size w w1) := Lib.hid hap.below
  clear hap
  have HX1 := Lib.hid (row_keep HX.out HB1.out (Nat.le_refl _))
  have HR1 := Lib.hid (row_keep HR.out HB1.out (Nat.le_refl _))
  have hl1 : (bs.take k).length ≤ 1000 := by rw [List.length_take]; omega
  obtain ⟨l1, hl1e⟩ : ∃ l1, l1 = bs.take k := ⟨_, rfl⟩
  rw [← hl1e] at HO1 hl1 HRES
  clear hl1e
  go_wp2_with (at_builtin; refine wpList_app rfl _ _ rfl w.heap.size _ _ rfl HO1.out _ _ _ [x] rfl HX1.out (fun h => by cases h) HB1.out.size (by omega) ?_)
  intro v2 w2 hap
  have HO2 : Hid (Own w.heap.size w2 v2 (l1 ++ [x])) := Lib.hid hap.own
  have HB2 : Hid (Below w.heap.size w w2) := Lib.hid (HB1.out.trans hap.below)
  clear hap
  have HS2 := Lib.hid (row_suffix (row_keep HR.out HB2.out (Nat.le_refl _)) (k + 1) (by omega))
  have hl2 : (l1 ++ [x]).length ≤ 2000 := by rw [List.length_append]; simp; omega
  obtain ⟨l2, hl2e⟩ : ∃ l2, l2 = l1 ++ [x] := ⟨_, rfl⟩
  rw [← hl2e] at HO2 hl2 HRES
  clear hl2e
  go_upto_region 4 with fail
  by_cases hce : c = k + 1
  · have hnk : n = k + 1 := by omega
    have HE : Hid (bs.drop (k + 1) = []) := Lib.hid (List.drop_eq_nil_of_le (by rw [HL.out, hnk]; exact Nat.le_refl _))
    rw [HE.out, List.append_nil] at HRES
    subst hce hnk
    have HR0 : Hid (∀ q : Addr, Row w2 (some q) 0 []) := Lib.hid fun q => ⟨rfl, (fun x hx => by cases hx), fun h => absurd h (Nat.lt_irrefl 0)⟩
    go_wp2_with (at_builtin; refine wpList_app rfl _ _ rfl w.heap.size _ _ rfl HO2.out _ 0 _ [] rfl (HR0.out _) (fun h => by cases h) HB2.out.size (by omega) ?_; intro v3 w3 hap; have HO3 := Lib.hid hap.own; have HB3 := Lib.hid (HB2.out.trans hap.below); clear hap)
    rw [List.append_nil, ← HRES.out] at HO3
    go_wp2
    go_ret
    exact ⟨_, rfl, HO3.out, HB3.out⟩
  · go_wp2_with (at_builtin; refine wpList_app rfl _ _ rfl w.heap.size _ _ rfl HO2.out _ _ _ _ rfl HS2.out (fun h => by cases h) HB2.out.size (by omega) ?_; intro v3 w3 hap; have HO3 := Lib.hid hap.own; have HB3 := Lib.hid (HB2.out.trans hap.below); clear hap)
    rw [← HRES.out] at HO3
    go_wp2
    go_ret
    exact ⟨_, rfl, HO3.out, HB3.out⟩

end Go.Proofs.Ytdljihemnfpkaaa
