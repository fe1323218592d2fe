/- Pages in memory. -/
import Derived.Test.YtnhklomofebfaaaParts
import Derived.Test.YtnhklomofebfaaaRHdr
import Derived.Deep.DeepCutAuto
namespace Go.Proofs.Ytnhklomofebfaaa
open Go.RowKit

theorem cell_st {x y : World} {B o : Nat} {v : Value} (h : x.cell? ⟨B, o, none⟩ = some v) (hb : Below x.heap.size x y) : y.cell? ⟨B, o, none⟩ = some v :=
  (hb.cell (p := ⟨B, o, none⟩) (World.block_lt_of_cell? x _ h)).trans h
/-- A page: its bytes, and those beside it. -/
structure PG where
  d : PS
  o : PS
def PG.nil : PG := ⟨PS.nil, PS.nil⟩
def PG.cells (g : PG) : List Value := [g.d.v, g.o.v]
def PageOk (W : World) (g : PG) : Prop := PartOk W g.d ∧ PartOk W g.o
/-- Cells that are pages. -/
def CellsG (w : World) (a : Option Addr) (G : List PG) : Prop := 0 < G.length → ∃ b off, a = some ⟨b, off, none⟩ ∧ ∀ i, i < G.length → w.cell? ⟨b, off + i * 2, none⟩ = some (G.getD i PG.nil).d.v ∧ w.cell? ⟨b, off + i * 2 + 1, none⟩ = some (G.getD i PG.nil).o.v
def PagesL (W : World) (a : Option Addr) (G : List PG) : Prop := CellsG W a G ∧ ∀ g ∈ G, PageOk W g
theorem PageOk.keep {W W' : World} {g : PG} {B : Nat} (h : PageOk W g) (hb : Below B W W') (hB : W.heap.size ≤ B) : PageOk W' g := ⟨h.1.keep hb hB, h.2.keep hb hB⟩
theorem CellsG.keep {W W' : World} {a : Option Addr} {G : List PG} {B : Nat} (h : CellsG W a G) (hb : Below B W W') (hB : W.heap.size ≤ B) : CellsG W' a G := fun h0 => by
  obtain ⟨b, off, e, hc⟩ := h h0
  refine ⟨b, off, e, fun i hi => ?_⟩
  obtain ⟨h1, h2⟩ := hc i hi
  have hlt := Nat.lt_of_lt_of_le (World.block_lt_of_cell? W _ h1) hB
  exact ⟨(hb.cell (p := ⟨b, off + i * 2, none⟩) hlt).trans h1, (hb.cell (p := ⟨b, off + i * 2 + 1, none⟩) hlt).trans h2⟩
theorem PagesL.keep {W W' : World} {a : Option Addr} {G : List PG} {B : Nat} (h : PagesL W a G) (hb : Below B W W') (hB : W.heap.size ≤ B) : PagesL W' a G := ⟨h.1.keep hb hB, fun g hg => (h.2 g hg).keep hb hB⟩
theorem PagesL.step {W W' : World} {a : Option Addr} {G : List PG} (h : PagesL W a G) (hb : Below W.heap.size W W') : PagesL W' a G := h.keep hb (Nat.le_refl _)
theorem PagesL.cell {W : World} {a : Option Addr} {G : List PG} (h : PagesL W a G) {k : Nat} (hk : k < G.length) : ∃ b off, a = some ⟨b, off, none⟩ ∧ W.cell? ⟨b, off + k * 2, none⟩ = some (G.getD k PG.nil).d.v ∧ W.cell? ⟨b, off + k * 2 + 1, none⟩ = some (G.getD k PG.nil).o.v := by
  obtain ⟨b, off, e, hc⟩ := h.1 (by omega)
  exact ⟨b, off, e, hc k hk⟩
theorem PagesL.at {W : World} {a : Option Addr} {G : List PG} (h : PagesL W a G) {k : Nat} (hk : k < G.length) : PageOk W (G.getD k PG.nil) := h.2 _ (by simp [List.getD, hk])
theorem pagesL_nil (w : World) : PagesL w none [] := ⟨fun h => absurd h (Nat.lt_irrefl 0), fun _ h => absurd h List.not_mem_nil⟩
/-- The first 32 bytes. -/
def PS.head (p : PS) : PS := ⟨p.a, min p.n 32, p.c, p.l.take 32⟩
theorem head_ok {W : World} {p : PS} (h : PartOk W p) : PartOk W p.head := by
  obtain ⟨⟨h1, h2, h3⟩, h4, h5, h6⟩ := h
  refine ⟨⟨?_, fun x hx => h2 x (List.mem_of_mem_take hx), fun h0 => ?_⟩, ?_, h5, h6⟩
  · simp only [PS.head, List.length_take, h1]; omega
  · simp only [PS.head] at h0 ⊢
    obtain ⟨b, off, e, hc⟩ := h3 (by omega)
    refine ⟨b, off, e, fun i hi => ?_⟩
    have hi32 : i < 32 := by omega
    rw [hc i (by omega)]
    simp [List.getD, hi32]
  · simp only [PS.head]; omega
/-- A slice of pages of the call's own. -/
def OwnG (T : TypeId) (B : Nat) (w : World) (sv : Value) (G : List PG) : Prop := w.ownsRow B T 2 sv G.length (G.flatMap PG.cells)
theorem ownG_nil (T : TypeId) (B : Nat) (w : World) : OwnG T B w (.slice none 0 0) [] := World.ownsRow_nil w B _ 2
theorem OwnG.below {T : TypeId} {B : Nat} {w w' : World} {sv : Value} {G : List PG} (h : OwnG T B w sv G) (hb : Below w.heap.size w w') : OwnG T B w' sv G :=
  h.kept (row := none) ⟨hb.os, hb.tape, hb.output, hb.size, fun b hb' _ => hb.block b hb'⟩ (by cases hv : sv.ownBlock <;> simp)
theorem OwnG.alloc {T : TypeId} {B : Nat} {w : World} {sv : Value} {G : List PG} (h : OwnG T B w sv G) (o : Obj) : OwnG T B (w.alloc o) sv G := h.below (bel_alloc (Below.refl _ w) o)
theorem flat_len (G : List PG) : (G.flatMap PG.cells).length = G.length * 2 := by
  induction G with
  | nil => rfl
  | cons g G ih => rw [List.flatMap_cons, List.length_append, ih, List.length_cons]; simp [PG.cells]; omega
theorem flat_at (G : List PG) (i : Nat) (hi : i < G.length) : (G.flatMap PG.cells)[i * 2]? = some (G.getD i PG.nil).d.v ∧ (G.flatMap PG.cells)[i * 2 + 1]? = some (G.getD i PG.nil).o.v := by
  induction G generalizing i with
  | nil => simp at hi
  | cons g G ih =>
    cases i with
    | zero => simp [PG.cells]
    | succ i =>
      have hi' : i < G.length := by simpa using hi
      obtain ⟨h1, h2⟩ := ih i hi'
      have e1 : (i + 1) * 2 = i * 2 + 2 := by omega
      rw [List.flatMap_cons, e1]
      simp only [PG.cells, List.cons_append, List.nil_append, List.getElem?_cons_succ]
      exact ⟨by simpa using h1, by simpa using h2⟩
theorem cellsG_own {T : TypeId} {B : Nat} {w : World} {sv : Value} {G : List PG} (h : OwnG T B w sv G) : ∃ a cap, sv = .slice a G.length cap ∧ CellsG w a G ∧ G.length ≤ cap ∧ cap ≤ maxLen ∧ (a = none → cap = 0) := by
  have h' := h
  rcases h.2 with ⟨rfl, h0⟩ | ⟨g, cap, cur, rfl, _, _, hc, hm, _⟩
  · exact ⟨none, 0, by rw [h0], fun h1 => by omega, by omega, Nat.zero_le _, fun _ => rfl⟩
  · refine ⟨_, cap, rfl, fun _ => ⟨g, 0, rfl, fun i hi => ?_⟩, hc, hm, fun h => by cases h⟩
    obtain ⟨h1, h2⟩ := flat_at G i hi
    rw [Nat.zero_add, h'.cellAt (i * 2) (by omega), h'.cellAt (i * 2 + 1) (by omega)]
    exact ⟨h1, h2⟩
/-- What append onto sv leaves. -/
structure ApdG (T : TypeId) (B : Nat) (w : World) (sv : Value) (G : List PG) (sv' : Value) (w' : World) : Prop where
  own : OwnG T B w' sv' G
  grown : w.grownBy w' sv.ownBlock
  where_ : sv'.ownBlock = sv.ownBlock ∨ sv'.ownBlock = some w.heap.size
  below : Below B w w'
/-- One page, laid in a block of its own, is appended. -/
theorem wpList_appG {w : World} {ops : Array Oper} {rest : List Oper} {o : Oper} {a : Act} {Q : Exit → Act → World → Prop} (T TL : TypeId) (hu : Try.prog.underlying TL = some (.slice T))
    (hinfo : (Try.prog.info? T).map (fun i => (i.zero, i.size, i.bytes)) = some (some (.agg #[.slice none 0 0, .slice none 0 0]), 2, 48)) (hgd : o.guard = none) (s x : Operand)
    (ho : o.op = .call { callee := .builtin .append, args := #[s, x], argTypes := #[TL, TL] })
    (B : Nat) (sv : Value) (G : List PG) (hs : a.eval s = sv) (hown : OwnG T B w sv G) (b : Nat) (c : Nat) (g : PG) (hx : a.eval x = .slice (some ⟨b, 0, none⟩) 1 c)
    (h0 : w.cell? ⟨b, 0, none⟩ = some g.d.v) (h1 : w.cell? ⟨b, 1, none⟩ = some g.o.v) (hB : B ≤ w.heap.size) (hlen : G.length ≤ 1000000)
    (h : ∀ v' w', ApdG T B w sv (G ++ [g]) v' w' → wpList Try.prog ops Q rest (a.put o.dst v') w') : wpList Try.prog ops Q (o :: rest) a w := by
  obtain ⟨i0, hi, hz0, hz1, hz2⟩ := info_parts hinfo
  refine wpList_append_own_at w hgd s x TL ho B T i0 _ 2 48 hu hi hz0 hz1 hz2 rfl (by decide) sv _ _ hs hown ⟨b, 0, none⟩ 1 c g.cells hx rfl ?_ ?_ (by unfold maxLen; omega) (by omega) hB ?_
  · intro j u hj
    rcases (show j = 0 ∨ j = 1 by
      rcases Nat.lt_or_ge j 2 with h | h
      · omega
      · rw [List.getElem?_eq_none (by simpa [PG.cells] using h)] at hj; cases hj) with rfl | rfl
    · simp only [PG.cells, List.getElem?_cons_zero, Option.some.injEq] at hj
      subst hj
      simpa [Addr.add] using h0
    · simp only [PG.cells, List.getElem?_cons_succ, List.getElem?_cons_zero, Option.some.injEq] at hj
      subst hj
      simpa [Addr.add] using h1
  · intro u hu
    simp only [PG.cells, List.mem_cons, List.not_mem_nil, or_false] at hu
    rcases hu with rfl | rfl <;> rfl
  · intro v' w' h2 h3 _ h5
    refine h v' w' ⟨?_, h3, h5, (Below.refl B w).grown h3 hB (fun k hk => (hown.lt k hk).1)⟩
    unfold OwnG
    rw [List.flatMap_append, List.length_append]
    simpa using h2

end Go.Proofs.Ytnhklomofebfaaa

namespace Go.Proofs.Ytnhklomofebfaaa
open Go.RowKit

theorem info_pagep : (Try.prog.info? 70).map (fun i => (i.zero, i.size, i.bytes)) = some (some (.agg #[.slice none 0 0, .slice none 0 0]), 2, 48) := by kernel_rfl
/-- Two values own no block together. -/
def NoSh (u v : Value) : Prop := ∀ q, u.ownBlock = some q → v.ownBlock ≠ some q
theorem NoSh.ne {u v : Value} (h : NoSh u v) : v.ownBlock = none ∨ v.ownBlock ≠ u.ownBlock := by
  cases hv : v.ownBlock with
  | none => exact .inl rfl
  | some q => exact .inr fun e => h q e.symm hv
theorem NoSh.symm {u v : Value} (h : NoSh u v) : NoSh v u := fun q hq hu => h q hu hq
theorem NoSh.step {u v u' : Value} {w : World} (h : NoSh u v) (hw : u'.ownBlock = u.ownBlock ∨ u'.ownBlock = some w.heap.size) (hv : ∀ q, v.ownBlock = some q → q < w.heap.size) : NoSh u' v := fun q hq hvq => by
  rcases hw with e | e
  · exact h q (e ▸ hq) hvq
  · rw [e] at hq
    cases hq
    exact absurd (hv _ hvq) (Nat.lt_irrefl _)
theorem OwnL.lt' {B : Nat} {w : World} {sv : Value} {L : List PS} (h : OwnL B w sv L) : ∀ q, sv.ownBlock = some q → B ≤ q ∧ q < w.heap.size := h.lt
theorem map_take_succ {α β : Type} (f : α → β) (G : List α) (k : Nat) (dflt : α) (hk : k < G.length) : (G.take k).map f ++ [f (G.getD k dflt)] = (G.take (k + 1)).map f := by
  rw [List.take_succ_eq_append_getElem hk, List.map_append]
  simp [List.getD, hk]
/-- Cells of a page's box. -/
theorem page_box (w : World) (u v : Value) (T : TypeId) : (w.alloc (.cells #[u, v] T)).cell? ⟨w.heap.size, 0, none⟩ = some u ∧ (w.alloc (.cells #[u, v] T)).cell? ⟨w.heap.size, 1, none⟩ = some v := cell_new2 w u v T

/-- What parts hands back. -/
def PartsRet (G : List PG) (w : World) (e : Ending) (w' : World) : Prop :=
  ∃ u v, e = .returned (.tuple #[u, v]) ∧ OwnL w.heap.size w' u (G.map PG.d) ∧ OwnL w.heap.size w' v (G.map fun g => g.o.head) ∧ NoSh u v ∧ Below w.heap.size w w'
set_option maxRecDepth 100000 in
set_option maxHeartbeats 3200000 in
theorem parts_any (a : Option Addr) (n c : Nat) (G : List PG) (w : World) (hn : n = G.length) (hp : PagesL w a G) (hm : n ≤ 100000) (hl : ∀ g ∈ G, g.o.n ≤ 100000) :
    Calls Try.prog 61 #[.slice a n c] w (PartsRet G w) := by
  have HP := Lib.hid hp
  have HN := Lib.hid hn
  have HL := Lib.hid hl
  clear hp hn hl
  go_enter Try.func61, Try.ntmps61
  go_wp2
  go_loopw [2, 3, 8] (fun u v i wr => ∃ k : Nat, k ≤ n ∧ i = .int .i64 (k : Int) ∧ OwnL w.heap.size wr u ((G.take k).map PG.d) ∧ OwnL w.heap.size wr v ((G.take k).map fun g => g.o.head) ∧ NoSh u v ∧ Below w.heap.size w wr) (fun _ _ i _ => n - (intOf i).toNat)
  case atStart => exact ⟨0, Nat.zero_le _, rfl, ownL_nil _ _, ownL_nil _ _, fun q hq => by simp [Value.ownBlock] at hq, Below.refl _ _⟩
  case round =>
    obtain ⟨k, hk, rfl, hu, hv, hns, hbe⟩ := hrel
    have HU := Lib.hid hu
    have HV := Lib.hid hv
    have HNS := Lib.hid hns
    have HB := Lib.hid hbe
    clear hu hv hns hbe
    by_cases hlt : k < n
    · have t1 : decide (k < n) = true := by simpa using hlt
      have hpw := HP.out.keep HB.out (Nat.le_refl _)
      have hkL : k < G.length := by have := HN.out; omega
      obtain ⟨b, off, rfl, hc0, hc1⟩ := hpw.cell hkL
      have hok := hpw.at hkL
      have hT1 := map_take_succ PG.d G k PG.nil hkL
      have hT2 := map_take_succ (fun g : PG => g.o.head) G k PG.nil hkL
      have hle : (G.getD k PG.nil).o.n ≤ 100000 := HL.out _ (by simp [List.getD, hkL])
      have hlen1 : ((G.take k).map PG.d).length ≤ 100000 := by rw [List.length_map, List.length_take]; omega
      have hlen2 : ((G.take k).map fun g : PG => g.o.head).length ≤ 100000 := by rw [List.length_map, List.length_take]; omega
      obtain ⟨g, hg⟩ : ∃ g, g = G.getD k PG.nil := ⟨_, rfl⟩
      rw [← hg] at hc0 hc1 hok hT1 hT2 hle
      obtain ⟨R1, hR1⟩ : ∃ R, R = (G.take k).map PG.d := ⟨_, rfl⟩
      obtain ⟨R2, hR2⟩ : ∃ R, R = (G.take k).map fun g : PG => g.o.head := ⟨_, rfl⟩
      rw [← hR1] at HU hT1 hlen1
      rw [← hR2] at HV hT2 hlen2
      have HT1 := Lib.hid hT1
      have HT2 := Lib.hid hT2
      have HOK := Lib.hid hok
      clear hg hR1 hR2 hT1 hT2 hpw hok
      obtain ⟨d, ⟨oa, on, oc, ol⟩⟩ := g
      simp only at hle
      have hon : on ≤ oc ∧ oc ≤ maxLen := ⟨HOK.out.2.2.1, HOK.out.2.2.2.1⟩
      have hnil : oa = none → oc = 0 := HOK.out.2.2.2.2
      unfold maxLen at hon
      obtain ⟨hon1, hon2⟩ := hon
      unfold PS.v at hc0 hc1
      simp only at hc0 hc1
      have hi0 : (0 : Int) ≤ (k : Int) := by omega
      have hi1 : (k : Int) < (n : Int) := by omega
      obtain ⟨mn, hmn⟩ : ∃ mn, mn = min on 32 := ⟨_, rfl⟩
      have HMN : Hid ((⟨oa, mn, oc, ol.take 32⟩ : PS) = PS.head ⟨oa, on, oc, ol⟩) := Lib.hid (by rw [hmn]; rfl)
      have hif : (if (32 : Int) < (on : Int) then (32 : Int) else (on : Int)) = (mn : Int) := by split <;> omega
      have hif2 : (if 32 < on then (32 : Int) else (on : Int)) = (mn : Int) := by split <;> omega
      have hmn1 : mn ≤ oc := by omega
      have hmn0 : (0 : Int) ≤ (mn : Int) := by omega
      have hmn2 : (mn : Int) ≤ (oc : Int) := by omega
      have HMNL : Hid (mn ≤ on) := Lib.hid (by omega)
      clear hmn
      have HBX := Lib.hid (page_box wr (.slice d.a d.n d.c) (.slice oa on oc) 70)
      have HU1 := Lib.hid (HU.out.alloc (.cells #[.slice d.a d.n d.c, .slice oa on oc] 70))
      have HV1 := Lib.hid (HV.out.alloc (.cells #[.slice d.a d.n d.c, .slice oa on oc] 70))
      have HB1 := Lib.hid (bel_alloc HB.out (.cells #[.slice d.a d.n d.c, .slice oa on oc] 70))
      have HUL : Hid (∀ q, u2.ownBlock = some q → w.heap.size ≤ q ∧ q < wr.heap.size) := Lib.hid HU.out.lt
      have HVL : Hid (∀ q, u3.ownBlock = some q → w.heap.size ≤ q ∧ q < wr.heap.size) := Lib.hid HV.out.lt
      go_upto_region 4 with fail
      obtain ⟨w1, hw1⟩ : ∃ x, x = wr.alloc (.cells #[.slice d.a d.n d.c, .slice oa on oc] 70) := ⟨_, rfl⟩
      obtain ⟨bx, hbx⟩ : ∃ x, x = wr.heap.size := ⟨_, rfl⟩
      have HZ1 : Hid (w1.heap.size = bx + 1) := Lib.hid (by rw [hw1, hbx]; simp)
      have HZ0 : Hid (w.heap.size ≤ bx) := Lib.hid (by rw [hbx]; exact HB.out.size)
      rw [← hbx] at HUL HVL HBX ⊢
      rw [← hw1] at HU1 HV1 HB1 HBX ⊢
      clear hw1 hbx HU HV HB
      obtain ⟨x0, x1⟩ := HBX.out
      go_wp2_with (first | (at_builtin; refine wpList_appL rfl _ _ rfl w.heap.size u2 R1 rfl (HU1.out.alloc _) _ 1 1 [d] rfl rfl (cells_one w1 d) (fun h => by cases h) (by have := HZ1.out; have := HZ0.out; simp; omega) (by omega) ?_; intro u' w3 hap; rw [HT1.out] at hap; have HU3 := Lib.hid hap.own; have HV3 : Hid (OwnL w.heap.size w3 u3 R2) := Lib.hid ((HV1.out.alloc _).kept hap.grown HNS.out.ne); have HB3 := Lib.hid ((bel_alloc HB1.out _).trans hap.below); have HNS3 : Hid (NoSh u' u3) := Lib.hid (HNS.out.step hap.where_ (fun q hq => by have := (HVL.out q hq).2; have := HZ1.out; simp; omega)); have HX3 : Hid (w3.cell? ⟨bx, 1, none⟩ = some (.slice oa on oc)) := Lib.hid (hap.grown.cell (a := ⟨bx, 1, none⟩) (cell_st x1 (bel_alloc (Below.refl _ w1) _)) (fun e => by have := (HUL.out bx e.symm).2; omega)); have HUL3 := Lib.hid HU3.out.lt; have HZ3 : Hid (w.heap.size ≤ w3.heap.size) := Lib.hid HB3.out.size; clear hap x0 x1; have x1 := HX3.out) | (at_builtin; refine wpList_appL rfl _ _ rfl w.heap.size u3 R2 rfl (HV3.out.alloc _) _ 1 1 [⟨oa, mn, oc, ol.take 32⟩] rfl rfl (cells_one w3 ⟨oa, mn, oc, ol.take 32⟩) (fun h => by cases h) (by have := HZ3.out; simp; omega) (by omega) ?_; intro v' w4 hap; rw [HMN.out, HT2.out] at hap; have HV5 := Lib.hid hap.own; have HU5 : Hid (OwnL w.heap.size w4 u' _) := Lib.hid ((HU3.out.alloc _).kept hap.grown HNS3.out.symm.ne); have HB5 := Lib.hid ((bel_alloc HB3.out _).trans hap.below); have HNS5 : Hid (NoSh u' v') := Lib.hid ((HNS3.out.symm.step hap.where_ (fun q hq => by have := (HUL3.out q hq).2; simp; omega)).symm); clear hap x1))
      go_roundw
      case rel => exact ⟨k + 1, by omega, by go_num, HU5.out, HV5.out, HNS5.out, HB5.out⟩
      case measure => simp [intOf]; omega
    · obtain rfl : k = n := by omega
      have t1 : decide (k < k) = false := by simp
      rw [List.take_of_length_le (by have := HN.out; omega)] at HU HV
      go_wp2
      go_ret2
      exact ⟨_, _, rfl, HU.out, HV.out, HNS.out, HB.out⟩

end Go.Proofs.Ytnhklomofebfaaa
