/- parity.parts. -/
import Derived.Test.YtnkkeffjnamcgaaPage
import Derived.Deep.DeepCutAuto
namespace Go.Proofs.Ytnkkeffjnamcgaa
open Go.RowKit

theorem info_pagep : (Try.prog.info? 39).map (fun i => (i.zero, i.size, i.bytes)) = some (some (.agg #[.slice none 0 0, .slice none 0 0]), 2, 48) := by kernel_rfl
/-- Two values own no block together. -/
def NoSh (u v : Value) : Prop := ∀ q, u.ownBlock = some q → v.ownBlock ≠ some q
theorem NoSh.ne {u v : Value} (h : NoSh u v) : v.ownBlock = none ∨ v.ownBlock ≠ u.ownBlock := by
  cases hv : v.ownBlock with
  | none => exact .inl rfl
  | some q => exact .inr fun e => h q e.symm hv
theorem NoSh.symm {u v : Value} (h : NoSh u v) : NoSh v u := fun q hq hu => h q hu hq
theorem NoSh.step {u v u' : Value} {w : World} (h : NoSh u v) (hw : u'.ownBlock = u.ownBlock ∨ u'.ownBlock = some w.heap.size) (hv : ∀ q, v.ownBlock = some q → q < w.heap.size) : NoSh u' v := fun q hq hvq => by
  rcases hw with e | e
  · exact h q (e ▸ hq) hvq
  · rw [e] at hq
    cases hq
    exact absurd (hv _ hvq) (Nat.lt_irrefl _)
theorem OwnL.lt' {B : Nat} {w : World} {sv : Value} {L : List PS} (h : OwnL B w sv L) : ∀ q, sv.ownBlock = some q → B ≤ q ∧ q < w.heap.size := h.lt
theorem map_take_succ {α β : Type} (f : α → β) (G : List α) (k : Nat) (dflt : α) (hk : k < G.length) : (G.take k).map f ++ [f (G.getD k dflt)] = (G.take (k + 1)).map f := by
  rw [List.take_succ_eq_append_getElem hk, List.map_append]
  simp [List.getD, hk]
/-- Cells of a page's box. -/
theorem page_box (w : World) (u v : Value) (T : TypeId) : (w.alloc (.cells #[u, v] T)).cell? ⟨w.heap.size, 0, none⟩ = some u ∧ (w.alloc (.cells #[u, v] T)).cell? ⟨w.heap.size, 1, none⟩ = some v := cell_new2 w u v T

/-- What parts hands back. -/
def PartsRet (G : List PG) (w : World) (e : Ending) (w' : World) : Prop :=
  ∃ u v, e = .returned (.tuple #[u, v]) ∧ OwnL w.heap.size w' u (G.map PG.d) ∧ OwnL w.heap.size w' v (G.map fun g => g.o.head) ∧ NoSh u v ∧ Below w.heap.size w w'
set_option maxRecDepth 100000 in
set_option maxHeartbeats 3200000 in
theorem parts_any (a : Option Addr) (n c : Nat) (G : List PG) (w : World) (hn : n = G.length) (hp : PagesL w a G) (hm : n ≤ 100000) (hl : ∀ g ∈ G, g.o.n ≤ 100000) :
    Calls Try.prog 32 #[.slice a n c] w (PartsRet G w) := by
  have HP := Lib.hid hp
  have HN := Lib.hid hn
  have HL := Lib.hid hl
  clear hp hn hl
  go_enter Try.func32, Try.ntmps32
  go_wp2
  go_loopw [2, 3, 8] (fun u v i wr => ∃ k : Nat, k ≤ n ∧ i = .int .i64 (k : Int) ∧ OwnL w.heap.size wr u ((G.take k).map PG.d) ∧ OwnL w.heap.size wr v ((G.take k).map fun g => g.o.head) ∧ NoSh u v ∧ Below w.heap.size w wr) (fun _ _ i _ => n - (intOf i).toNat)
  case atStart => exact ⟨0, Nat.zero_le _, rfl, ownL_nil _ _, ownL_nil _ _, fun q hq => by simp [Value.ownBlock] at hq, Below.refl _ _⟩
  case round =>
    obtain ⟨k, hk, rfl, hu, hv, hns, hbe⟩ := hrel
    have HU := Lib.hid hu
    have HV := Lib.hid hv
    have HNS := Lib.hid hns
    have HB := Lib.hid hbe
    clear hu hv hns hbe
    by_cases hlt : k < n
    · have t1 : decide (k < n) = true := by simpa using hlt
      have hpw := HP.out.keep HB.out (Nat.le_refl _)
      have hkL : k < G.length := by have := HN.out; omega
      obtain ⟨b, off, rfl, hc0, hc1⟩ := hpw.cell hkL
      have hok := hpw.at hkL
      have hT1 := map_take_succ PG.d G k PG.nil hkL
      have hT2 := map_take_succ (fun g : PG => g.o.head) G k PG.nil hkL
      have hle : (G.getD k PG.nil).o.n ≤ 100000 := HL.out _ (by simp [List.getD, hkL])
      have hlen1 : ((G.take k).map PG.d).length ≤ 100000 := by rw [List.length_map, List.length_take]; omega
      have hlen2 : ((G.take k).map fun g : PG => g.o.head).length ≤ 100000 := by rw [List.length_map, List.length_take]; omega
      obtain ⟨g, hg⟩ : ∃ g, g = G.getD k PG.nil := ⟨_, rfl⟩
      rw [← hg] at hc0 hc1 hok hT1 hT2 hle
      obtain ⟨R1, hR1⟩ : ∃ R, R = (G.take k).map PG.d := ⟨_, rfl⟩
      obtain ⟨R2, hR2⟩ : ∃ R, R = (G.take k).map fun g : PG => g.o.head := ⟨_, rfl⟩
      rw [← hR1] at HU hT1 hlen1
      rw [← hR2] at HV hT2 hlen2
      have HT1 := Lib.hid hT1
      have HT2 := Lib.hid hT2
      have HOK := Lib.hid hok
      clear hg hR1 hR2 hT1 hT2 hpw hok
      obtain ⟨d, ⟨oa, on, oc, ol⟩⟩ := g
      simp only at hle
      have hon : on ≤ oc ∧ oc ≤ maxLen := ⟨HOK.out.2.2.1, HOK.out.2.2.2.1⟩
      have hnil : oa = none → oc = 0 := HOK.out.2.2.2.2
      unfold maxLen at hon
      obtain ⟨hon1, hon2⟩ := hon
      unfold PS.v at hc0 hc1
      simp only at hc0 hc1
      have hi0 : (0 : Int) ≤ (k : Int) := by omega
      have hi1 : (k : Int) < (n : Int) := by omega
      obtain ⟨mn, hmn⟩ : ∃ mn, mn = min on 32 := ⟨_, rfl⟩
      have HMN : Hid ((⟨oa, mn, oc, ol.take 32⟩ : PS) = PS.head ⟨oa, on, oc, ol⟩) := Lib.hid (by rw [hmn]; rfl)
      have hif : (if (32 : Int) < (on : Int) then (32 : Int) else (on : Int)) = (mn : Int) := by split <;> omega
      have hif2 : (if 32 < on then (32 : Int) else (on : Int)) = (mn : Int) := by split <;> omega
      have hmn1 : mn ≤ oc := by omega
      have hmn0 : (0 : Int) ≤ (mn : Int) := by omega
      have hmn2 : (mn : Int) ≤ (oc : Int) := by omega
      have HMNL : Hid (mn ≤ on) := Lib.hid (by omega)
      clear hmn
      have HBX := Lib.hid (page_box wr (.slice d.a d.n d.c) (.slice oa on oc) 39)
      have HU1 := Lib.hid (HU.out.alloc (.cells #[.slice d.a d.n d.c, .slice oa on oc] 39))
      have HV1 := Lib.hid (HV.out.alloc (.cells #[.slice d.a d.n d.c, .slice oa on oc] 39))
      have HB1 := Lib.hid (bel_alloc HB.out (.cells #[.slice d.a d.n d.c, .slice oa on oc] 39))
      have HUL : Hid (∀ q, u2.ownBlock = some q → w.heap.size ≤ q ∧ q < wr.heap.size) := Lib.hid HU.out.lt
      have HVL : Hid (∀ q, u3.ownBlock = some q → w.heap.size ≤ q ∧ q < wr.heap.size) := Lib.hid HV.out.lt
      go_upto_region 4 with fail
      obtain ⟨w1, hw1⟩ : ∃ x, x = wr.alloc (.cells #[.slice d.a d.n d.c, .slice oa on oc] 39) := ⟨_, rfl⟩
      obtain ⟨bx, hbx⟩ : ∃ x, x = wr.heap.size := ⟨_, rfl⟩
      have HZ1 : Hid (w1.heap.size = bx + 1) := Lib.hid (by rw [hw1, hbx]; simp)
      have HZ0 : Hid (w.heap.size ≤ bx) := Lib.hid (by rw [hbx]; exact HB.out.size)
      rw [← hbx] at HUL HVL HBX ⊢
      rw [← hw1] at HU1 HV1 HB1 HBX ⊢
      clear hw1 hbx HU HV HB
      obtain ⟨x0, x1⟩ := HBX.out
      go_wp2_with (first | (at_builtin; refine wpList_appL rfl _ _ rfl w.heap.size u2 R1 rfl (HU1.out.alloc _) _ 1 1 [d] rfl rfl (cells_one w1 d) (fun h => by cases h) (by have := HZ1.out; have := HZ0.out; simp; omega) (by omega) ?_; intro u' w3 hap; rw [HT1.out] at hap; have HU3 := Lib.hid hap.own; have HV3 : Hid (OwnL w.heap.size w3 u3 R2) := Lib.hid ((HV1.out.alloc _).kept hap.grown HNS.out.ne); have HB3 := Lib.hid ((bel_alloc HB1.out _).trans hap.below); have HNS3 : Hid (NoSh u' u3) := Lib.hid (HNS.out.step hap.where_ (fun q hq => by have := (HVL.out q hq).2; have := HZ1.out; simp; omega)); have HX3 : Hid (w3.cell? ⟨bx, 1, none⟩ = some (.slice oa on oc)) := Lib.hid (hap.grown.cell (a := ⟨bx, 1, none⟩) (cell_st x1 (bel_alloc (Below.refl _ w1) _)) (fun e => by have := (HUL.out bx e.symm).2; omega)); have HUL3 := Lib.hid HU3.out.lt; have HZ3 : Hid (w.heap.size ≤ w3.heap.size) := Lib.hid HB3.out.size; clear hap x0 x1; have x1 := HX3.out) | (at_builtin; refine wpList_appL rfl _ _ rfl w.heap.size u3 R2 rfl (HV3.out.alloc _) _ 1 1 [⟨oa, mn, oc, ol.take 32⟩] rfl rfl (cells_one w3 ⟨oa, mn, oc, ol.take 32⟩) (fun h => by cases h) (by have := HZ3.out; simp; omega) (by omega) ?_; intro v' w4 hap; rw [HMN.out, HT2.out] at hap; have HV5 := Lib.hid hap.own; have HU5 : Hid (OwnL w.heap.size w4 u' _) := Lib.hid ((HU3.out.alloc _).kept hap.grown HNS3.out.symm.ne); have HB5 := Lib.hid ((bel_alloc HB3.out _).trans hap.below); have HNS5 : Hid (NoSh u' v') := Lib.hid ((HNS3.out.symm.step hap.where_ (fun q hq => by have := (HUL3.out q hq).2; simp; omega)).symm); clear hap x1))
      go_roundw
      case rel => exact ⟨k + 1, by omega, by go_num, HU5.out, HV5.out, HNS5.out, HB5.out⟩
      case measure => simp [intOf]; omega
    · obtain rfl : k = n := by omega
      have t1 : decide (k < k) = false := by simp
      rw [List.take_of_length_le (by have := HN.out; omega)] at HU HV
      go_wp2
      go_ret2
      exact ⟨_, _, rfl, HU.out, HV.out, HNS.out, HB.out⟩

end Go.Proofs.Ytnkkeffjnamcgaa
