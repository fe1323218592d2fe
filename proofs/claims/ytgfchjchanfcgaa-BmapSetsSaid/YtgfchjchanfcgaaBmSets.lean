/- BmapSets: the walk. -/
import Derived.Test.YtgfchjchanfcgaaBmNumbers
namespace Go.Proofs.Ytgfchjchanfcgaa
open Go.RowKit

theorem putB_get (l : List Nat) (i v j : Nat) (h : 4 * i + 4 ≤ l.length) : (putB l i v)[j]? = if 4 * i ≤ j ∧ j < 4 * i + 4 then (Crc.les 4 v)[j - 4 * i]? else l[j]? := by
  have h1 : (l.take (4 * i)).length = 4 * i := by rw [List.length_take]; omega
  have h2 : (l.take (4 * i) ++ Crc.les 4 v).length = 4 * i + 4 := by rw [List.length_append, h1, Crc.les_len]
  unfold putB
  by_cases c1 : j < 4 * i
  · rw [if_neg (by omega), List.getElem?_append_left (by omega), List.getElem?_append_left (by omega), List.getElem?_take_of_lt c1]
  by_cases c2 : j < 4 * i + 4
  · rw [if_pos ⟨by omega, c2⟩, List.getElem?_append_left (by omega), List.getElem?_append_right (by omega), h1]
  · rw [if_neg (by omega), List.getElem?_append_right (by omega), h2, List.getElem?_drop]
    congr 1
    omega
theorem putB_comm (l : List Nat) (i k v u : Nat) (hi : 4 * i + 4 ≤ l.length) (hk : 4 * k + 4 ≤ l.length) (hne : i ≠ k) : putB (putB l i v) k u = putB (putB l k u) i v := by
  apply List.ext_getElem?
  intro j
  rw [putB_get _ k u j (by rw [putB_len l i v hi]; exact hk), putB_get l i v j hi, putB_get _ i v j (by rw [putB_len l k u hk]; exact hi), putB_get l k u j hk]
  by_cases c1 : 4 * i ≤ j ∧ j < 4 * i + 4
  · rw [if_neg (show ¬ (4 * k ≤ j ∧ j < 4 * k + 4) by omega), if_pos c1, if_pos c1]
  · rw [if_neg c1, if_neg c1]
/-- A number set, if it has a place. -/
def setA (l : List Nat) (x : Int) (v : Nat) : List Nat := if 0 ≤ x ∧ x < ((l.length / 4 : Nat) : Int) then putB l x.toNat v else l
theorem setA_len (l : List Nat) (x : Int) (v : Nat) : (setA l x v).length = l.length := by
  unfold setA
  split
  · rename_i h; exact putB_len l _ v (by omega)
  · rfl
theorem setA_comm (l : List Nat) (x y : Int) (v u : Nat) (hne : x ≠ y) : setA (setA l x v) y u = setA (setA l y u) x v := by
  have h1 := setA_len l x v
  have h2 := setA_len l y u
  by_cases cx : 0 ≤ x ∧ x < ((l.length / 4 : Nat) : Int)
  · by_cases cy : 0 ≤ y ∧ y < ((l.length / 4 : Nat) : Int)
    · have e1 : setA l x v = putB l x.toNat v := if_pos cx
      have e2 : setA l y u = putB l y.toNat u := if_pos cy
      rw [e1] at h1 ⊢
      rw [e2] at h2 ⊢
      have e3 : setA (putB l x.toNat v) y u = putB (putB l x.toNat v) y.toNat u := if_pos (by rw [h1]; exact cy)
      have e4 : setA (putB l y.toNat u) x v = putB (putB l y.toNat u) x.toNat v := if_pos (by rw [h2]; exact cx)
      rw [e3, e4]
      exact putB_comm l _ _ v u (by omega) (by omega) (by omega)
    · have e2 : setA l y u = l := if_neg cy
      have e3 : setA (setA l x v) y u = setA l x v := if_neg (by rw [h1]; exact cy)
      rw [e2, e3]
  · have e1 : setA l x v = l := if_neg cx
    have e4 : setA (setA l y u) x v = setA l y u := if_neg (by rw [h2]; exact cx)
    rw [e1, e4]
theorem setF_any {w : World} {a : Option Addr} {n c : Nat} {l : List Nat} (h : RowF w a n c l) (x : Int) (v : Nat) (hl : n ≤ 100000) (hv : v < 4294967296) :
    Calls Try.prog 10 #[.slice a n c, .int .i64 x, .int .u32 (v : Int)] w fun e w' => ∃ a' c', e = .returned (.slice a' n c') ∧ RowF w' a' n c' (setA l x v) ∧ Below w.heap.size w w' := by
  by_cases cx : 0 ≤ x ∧ x < ((l.length / 4 : Nat) : Int)
  · obtain ⟨i, rfl⟩ := Int.eq_ofNat_of_zero_le cx.1
    have e1 : setA l (i : Int) v = putB l i v := if_pos cx
    rw [e1]
    rw [h.1] at cx
    exact setF h i v hl (by omega) hv
  · have e1 : setA l x v = l := if_neg cx
    rw [e1]
    rw [h.1] at cx
    exact setF_no h x v hl (by omega)
theorem five_cells {W : World} {b : Nat} {v0 v1 v2 v3 v4 : Value} {t : TypeId} (h : W.heap[b]? = some (.cells #[v0, v1, v2, v3, v4] t (0, 0))) :
    W.cell? ⟨b, 0, none⟩ = some v0 ∧ W.cell? ⟨b, 1, none⟩ = some v1 ∧ W.cell? ⟨b, 2, none⟩ = some v2 ∧ W.cell? ⟨b, 3, none⟩ = some v3 ∧ W.cell? ⟨b, 4, none⟩ = some v4 := by
  simp [World.cell?, h]
set_option maxRecDepth 100000 in
set_option maxHeartbeats 1600000 in
theorem bmapSets_walk (a : Option Addr) (n c : Nat) (l : List Nat) (x y : Int) (v u : Nat) (w : World) (h : InB w a n c l) (hv : v < 4294967296) (hu : u < 4294967296) :
    Calls Try.prog 7 #[.agg #[.slice a n c, .int .i64 x, .int .i64 y, .int .u32 (v : Int), .int .u32 (u : Int)]] w fun e w' => e = .returned (.bool true) ∧ Below w.heap.size w w' := by
  have HF := Lib.hid found_any
  obtain ⟨W, hW⟩ : ∃ z, z = w.alloc (.cells #[.slice a n c, .int .i64 x, .int .i64 y, .int .u32 (v : Int), .int .u32 (u : Int)] 50) := ⟨_, rfl⟩
  obtain ⟨p, hp⟩ : ∃ z, z = w.heap.size := ⟨_, rfl⟩
  have hh : W.heap[p]? = some (.cells #[.slice a n c, .int .i64 x, .int .i64 y, .int .u32 (v : Int), .int .u32 (u : Int)] 50 (0, 0)) := by rw [hW, hp]; exact heap_alloc_new _ _
  have HB := Lib.hid (show Below w.heap.size w W by rw [hW]; exact bel_alloc (Below.refl _ _) _)
  have HR := Lib.hid ((rowF_in h).step HB.out)
  obtain ⟨z0, z1, z2, z3, z4⟩ := five_cells hh
  have HP := Lib.hid hp
  clear h hh hp
  by_cases hn : 1100 < n
  · have t1 : decide ((1100 : Int) < (n : Int)) = true := by simp; omega
    go_enter Try.func7, Try.ntmps7
    go_wp2_with fail
    rw [← hW, ← HP.out]
    clear hW
    go_quiet (fail)
    have hq : Below W.heap.size W (W.drewN nq) := ⟨rfl, rfl, rfl, Nat.le_refl _, fun _ _ => rfl⟩
    obtain ⟨w0, hw0⟩ : ∃ z, z = W.drewN nq := ⟨_, rfl⟩
    rw [← hw0] at hq ⊢
    have HB0 := Lib.hid (bel_trans HB.out hq)
    have HR0 := Lib.hid (HR.out.step hq)
    clear hq hw0 z0 z1 z2 z3 z4
    go_wp2_with fail
    ((with_reducible refine (HF.out _).mono ?_))
    rintro e w1 ⟨rfl, hb⟩
    have HB1 := Lib.hid (bel_trans HB0.out hb)
    have HR1 := Lib.hid (HR0.out.step hb)
    clear hb
    go_wp2_with fail
    ((with_reducible refine (HF.out _).mono ?_))
    rintro e w2 ⟨rfl, hb⟩
    have HB2 := Lib.hid (bel_trans HB1.out hb)
    clear hb
    go_wp2_with fail
    go_ret
    exact ⟨rfl, HB2.out⟩
  have t1 : decide ((1100 : Int) < (n : Int)) = false := by simp; omega
  by_cases hxy : x = y
  · subst hxy
    have t2 : (x == x) = true := by simp
    go_enter Try.func7, Try.ntmps7
    go_wp2_with fail
    rw [← hW, ← HP.out]
    clear hW
    go_quiet (fail)
    have hq : Below W.heap.size W (W.drewN nq) := ⟨rfl, rfl, rfl, Nat.le_refl _, fun _ _ => rfl⟩
    obtain ⟨w0, hw0⟩ : ∃ z, z = W.drewN nq := ⟨_, rfl⟩
    rw [← hw0] at hq ⊢
    have HB0 := Lib.hid (bel_trans HB.out hq)
    have HR0 := Lib.hid (HR.out.step hq)
    clear hq hw0 z0 z1 z2 z3 z4
    go_wp2_with fail
    ((with_reducible refine (HF.out _).mono ?_))
    rintro e w1 ⟨rfl, hb⟩
    have HB1 := Lib.hid (bel_trans HB0.out hb)
    have HR1 := Lib.hid (HR0.out.step hb)
    clear hb
    go_wp2_with fail
    ((with_reducible refine (HF.out _).mono ?_))
    rintro e w2 ⟨rfl, hb⟩
    have HB2 := Lib.hid (bel_trans HB1.out hb)
    clear hb
    go_wp2_with fail
    go_ret
    exact ⟨rfl, HB2.out⟩
  have t2 : (x == y) = false := by simp; exact hxy
  have HC := Lib.hid (setA_comm l x y v u hxy)
  clear hxy
  go_enter Try.func7, Try.ntmps7
  go_wp2_with fail
  rw [← hW, ← HP.out]
  clear hW
  go_quiet (fail)
  have hq : Below W.heap.size W (W.drewN nq) := ⟨rfl, rfl, rfl, Nat.le_refl _, fun _ _ => rfl⟩
  obtain ⟨w0, hw0⟩ : ∃ z, z = W.drewN nq := ⟨_, rfl⟩
  rw [← hw0] at hq ⊢
  have HB0 := Lib.hid (bel_trans HB.out hq)
  have HR0 := Lib.hid (HR.out.step hq)
  clear hq hw0 z0 z1 z2 z3 z4
  go_wp2_with fail
  ((with_reducible refine (HF.out _).mono ?_))
  rintro e w1 ⟨rfl, hb⟩
  have HB1 := Lib.hid (bel_trans HB0.out hb)
  have HR1 := Lib.hid (HR0.out.step hb)
  clear hb
  go_wp2_with fail
  ((with_reducible refine (setF_any HR1.out x v (by omega) (by assumption)).mono ?_))
  rintro e w2 ⟨a2, c2, rfl, hc, hb⟩
  have HS2 := Lib.hid hc
  have HB2 := Lib.hid (bel_trans HB1.out hb)
  have HR2 := Lib.hid (HR1.out.step hb)
  clear hc hb
  go_wp2_with fail
  ((with_reducible refine (setF_any HS2.out y u (by omega) (by assumption)).mono ?_))
  rintro e w3 ⟨a3, c3, rfl, hc, hb⟩
  have HS3 := Lib.hid hc
  have HB3 := Lib.hid (bel_trans HB2.out hb)
  have HR3 := Lib.hid (HR2.out.step hb)
  clear hc hb
  go_wp2_with fail
  ((with_reducible refine (setF_any HR3.out y u (by omega) (by assumption)).mono ?_))
  rintro e w4 ⟨a4, c4, rfl, hc, hb⟩
  have HS4 := Lib.hid hc
  have HB4 := Lib.hid (bel_trans HB3.out hb)
  have HT4 := Lib.hid (HS3.out.step hb)
  clear hc hb
  go_wp2_with fail
  ((with_reducible refine (setF_any HS4.out x v (by omega) (by assumption)).mono ?_))
  rintro e w5 ⟨a5, c5, rfl, hc, hb⟩
  have HS5 := Lib.hid hc
  have HB5 := Lib.hid (bel_trans HB4.out hb)
  have HT5 := Lib.hid (HT4.out.step hb)
  clear hc hb
  go_wp2_with fail
  rw [HC.out] at HT5
  ((with_reducible refine (sameF HT5.out HS5.out).mono ?_))
  rintro e w6 ⟨rfl, rfl⟩
  go_wp2_with fail
  go_ret
  exact ⟨rfl, HB5.out⟩
end Go.Proofs.Ytgfchjchanfcgaa
