/- stripe.lay: what each member gets of a stripe. -/
import Derived.Test.YthgcjiocelcblaaGreatK21
import Derived.Test.YthgcjiocelcblaaGreatK24
import Derived.Test.YthgcjiocelcblaaGreatK25
namespace Go.Proofs.YthgcjiocelcblaaGreat
open Go.RowKit Go.Deep

theorem getD_over {l : List PG} {i : Nat} {d : PG} (h : l.length ≤ i) : l.getD i d = d := by simp [List.getD, List.getElem?_eq_none h]
/-- The slot of a member. -/
def slotOf (p i : Nat) : Nat := if i < p then i else i - 1
def onAt (p : Nat) (G : List PG) (P : PG) (i : Nat) : PG := if i = p then P else G.getD (slotOf p i) PG.nil
def onC (p : Nat) (G : List PG) (P : PG) (i : Nat) : Value := if i % 2 = 0 then (onAt p G P (i / 2)).d.v else (onAt p G P (i / 2)).o.v
theorem onAt_slot (p : Nat) (G : List PG) (g P : PG) (i : Nat) : onAt p (G ++ [g]) P i = if i = memOf p G.length then g else onAt p G P i := by
  unfold onAt memOf slotOf
  by_cases hp : i = p
  · subst hp
    rw [if_pos rfl, if_pos rfl, if_neg (by split <;> omega)]
  · rw [if_neg hp, if_neg hp]
    by_cases hk : G.length < p
    · rw [if_pos hk]
      by_cases hi : i = G.length
      · subst hi; simp [hk, List.getD]
      · rw [if_neg hi]
        by_cases hip : i < p
        · rw [if_pos hip]
          rcases Nat.lt_or_gt_of_ne hi with h | h
          · simp [List.getD, List.getElem?_append_left h]
          · rw [getD_over (by simp; omega), getD_over (by omega)]
        · rw [if_neg hip, getD_over (by simp; omega), getD_over (by omega)]
    · rw [if_neg hk]
      by_cases hi : i = G.length + 1
      · subst hi; rw [if_pos rfl, if_neg (by omega)]; simp [List.getD]
      · rw [if_neg hi]
        by_cases hip : i < p
        · rw [if_pos hip]
          simp [List.getD, List.getElem?_append_left (show i < G.length by omega)]
        · rw [if_neg hip]
          rcases Nat.lt_or_ge (i - 1) G.length with h | h
          · simp [List.getD, List.getElem?_append_left h]
          · rw [getD_over (by simp; omega), getD_over (by omega)]
theorem onC_slot (p : Nat) (G : List PG) (g P : PG) (j m : Nat) (hm : m = memOf p G.length) : (if j = m * 2 + 1 then g.o.v else if j = m * 2 then g.d.v else onC p G P j) = onC p (G ++ [g]) P j := by
  unfold onC
  simp only [onAt_slot, ← hm]
  by_cases h1 : j = m * 2 + 1
  · rw [if_pos h1, if_neg (by omega), if_pos (by omega)]
  · rw [if_neg h1]
    by_cases h2 : j = m * 2
    · rw [if_pos h2, if_pos (by omega), if_pos (by omega)]
    · rw [if_neg h2]
      by_cases h3 : j % 2 = 0
      · rw [if_pos h3, if_pos h3, if_neg (by omega)]
      · rw [if_neg h3, if_neg h3, if_neg (by omega)]
theorem onC_par (p : Nat) (G : List PG) (P P' : PG) (j : Nat) : (if j = p * 2 + 1 then P'.o.v else if j = p * 2 then P'.d.v else onC p G P j) = onC p G P' j := by
  unfold onC onAt
  by_cases h1 : j = p * 2 + 1
  · rw [if_pos h1, if_neg (by omega), if_pos (by omega)]
  · rw [if_neg h1]
    by_cases h2 : j = p * 2
    · rw [if_pos h2, if_pos (by omega), if_pos (by omega)]
    · rw [if_neg h2]
      by_cases h3 : j % 2 = 0
      · rw [if_pos h3, if_pos h3, if_neg (by omega), if_neg (by omega)]
      · rw [if_neg h3, if_neg h3, if_neg (by omega), if_neg (by omega)]
theorem memOf_ne (p k : Nat) : memOf p k ≠ p := by unfold memOf; split <;> omega
theorem memOf_le (p k n : Nat) (hk : k < n) : memOf p k ≤ n := by unfold memOf; split <;> omega
theorem CaseS.set {B : Nat} {u v : Value} {GU GV GA : List PG} {x : World} (h : CaseS B u v GU GV GA x) {c : Nat} (hc : c < B) (o : Nat) (y : Value) : CaseS B u v GU GV GA (x.setCell ⟨c, o, none⟩ y) := by
  have key : ∀ k, B ≤ k → (x.setCell ⟨c, o, none⟩ y).heap[k]? = x.heap[k]? := fun k hk => heap_setCell_other x _ k y (fun e => by have e' : k = c := e; omega)
  refine ⟨ownsRow_at h.own1 fun k hk => key k (h.own1.lt' k hk).1, ownsRow_at h.own2 fun k hk => key k (h.own2.lt' k hk).1, h.ns, fun g hg => ⟨(h.pages g hg).1.at_ fun _ a ha => key _ (h.apart g hg a (.inl ha)).1, (h.pages g hg).2.at_ fun _ a ha => key _ (h.apart g hg a (.inr ha)).1⟩, fun g hg a ha => ?_⟩
  obtain ⟨h1, h2, h3⟩ := h.apart g hg a ha
  exact ⟨h1, by simpa using h2, h3⟩
/-- What a stripe's pages are made to. -/
def Made (L : List SP) (sz : Nat) (G : List PG) : Prop := ∀ j, j < G.length → (G.getD j PG.nil).d.l = (L.getD j SP.nil).d.l ∧ (G.getD j PG.nil).o.l = sealB (L.getD j SP.nil).h (L.getD j SP.nil).d.l [] ∧ (G.getD j PG.nil).d.n = sz ∧ (G.getD j PG.nil).o.n = 64
theorem made_more {L : List SP} {sz k : Nat} {G : List PG} {g : PG} (h : Made L sz G) (hk : G.length = k) (hg : g.d.l = (L.getD k SP.nil).d.l ∧ g.o.l = sealB (L.getD k SP.nil).h (L.getD k SP.nil).d.l [] ∧ g.d.n = sz ∧ g.o.n = 64) : Made L sz (G ++ [g]) := by
  intro j hj
  by_cases hjk : j < k
  · have e : (G ++ [g]).getD j PG.nil = G.getD j PG.nil := by simp [List.getD, List.getElem?_append_left (show j < G.length by omega)]
    rw [e]
    exact h j (by omega)
  · have hjk' : j = k := by simp at hj; omega
    have e : (G ++ [g]).getD j PG.nil = g := by rw [hjk', ← hk]; simp [List.getD]
    rw [e, hjk']
    exact hg
def LayI (W : World) (a b c d : Int) (n p k sz : Nat) (L : List SP) (sv : Value) (G : List PG) (x : World) : Prop :=
  GS W W.heap.size a b c d x ∧ x.rowIs (W.heap.size + 1) 137 (n * 2) (onC p G PG.nil) ∧ CaseS (W.heap.size + 2) sv (.slice none 0 0) G [] G x ∧ G.length = k ∧ Made L sz G
/-- .. while one page more is made, and is not yet among the others. -/
def LayJ (W : World) (a b c d : Int) (n p k sz : Nat) (L : List SP) (sv : Value) (G : List PG) (g : PG) (x : World) : Prop :=
  GS W W.heap.size a b c d x ∧ x.rowIs (W.heap.size + 1) 137 (n * 2) (onC p (G ++ [g]) PG.nil) ∧ CaseS (W.heap.size + 2) sv (.slice none 0 0) G [] (G ++ [g]) x ∧ (G ++ [g]).length = k ∧ Made L sz (G ++ [g])
theorem GS.bel {W x y : World} {a b c d : Int} (h : GS W W.heap.size a b c d x) (hb : Below W.heap.size x y) (hb2 : Below (W.heap.size + 2) x y) : GS W W.heap.size a b c d y := by
  obtain ⟨h0, h1, h2, h3, h4⟩ := h
  have key : ∀ o, y.cell? ⟨W.heap.size, o, none⟩ = x.cell? ⟨W.heap.size, o, none⟩ := fun o => hb2.cell (p := ⟨W.heap.size, o, none⟩) (by simp)
  exact ⟨(key 0).trans h0, (key 1).trans h1, (key 2).trans h2, (key 3).trans h3, h4.trans hb⟩
theorem info_pp : (Tryz.prog.info? 137).map (fun i => (i.zero, i.size, i.bytes)) = some (some (.agg #[.slice none 0 0, .slice none 0 0]), 2, 48) := by kernel_rfl
def hdrOf (h : RH) (row seg : Nat) : RH := ⟨5, h.ep, h.ba, row, seg, 0, 0⟩
def LayRet (n p sz : Nat) (h : RH) (L : List SP) (w : World) (e : Ending) (w' : World) : Prop :=
  ∃ (ob cap : Nat) (G : List PG) (P : PG), e = .returned (.slice (some ⟨ob, 0, none⟩) n cap) ∧ w'.rowIs ob 137 (n * 2) (onC p G P) ∧ G.length + 1 = n ∧ Made L sz G ∧ P.d.l = xorL (dsOf G) ∧ P.o.l = sealB h (xorL (dsOf G)) (xorL (hsOf G)) ∧ P.d.n = sz ∧ P.o.n = 64 ∧
    (∀ g, g ∈ G ∨ g = P → PageOk w' g ∧ ∀ x, g.has x → w.heap.size ≤ x.block) ∧ w.heap.size ≤ ob ∧ Below w.heap.size w w'
theorem SPat.keep' {W x : World} {p : SP} {b o : Nat} (h : SPat p b o W) (hb : Below W.heap.size W x) : SPat p b o x := h.step hb
theorem two_at {W : World} {b : Nat} {v0 v1 : Value} {t : TypeId} (h : W.heap[b]? = some (.cells #[v0, v1] t (0, 0))) : W.cell? ⟨b, 0, none⟩ = some v0 ∧ W.cell? ⟨b, 1, none⟩ = some v1 ∧ W.frozen? ⟨b, 0, none⟩ = false ∧ W.frozen? ⟨b, 1, none⟩ = false := by
  simp [World.cell?, World.frozen?, h]
/-- Bytes lie in another block than a box of two slices. -/
theorem part_box {W : World} {p : PS} (hp : PartOk W p) (h0 : 0 < p.n) {b : Nat} {a1 a2 : Option Addr} {n1 n2 c1 c2 : Nat} {t : TypeId} (h : W.heap[b]? = some (.cells #[.slice a1 n1 c1, .slice a2 n2 c2] t (0, 0))) : ∀ x, p.a = some x → x.block ≠ b := by
  intro x hx e
  obtain ⟨b', off, e', hc⟩ := hp.1.2.2 h0
  rw [e'] at hx
  cases hx
  have h1 := hc 0 h0
  have e2 : b' = b := e
  subst e2
  rw [cell_of_row W b' (off + 0) _ _ _ h] at h1
  match off with
  | 0 => simp at h1
  | 1 => simp at h1
  | n + 2 => simp at h1
/-- A page that was just made, and its box. -/
def Boxed (w1 : World) (dl ol : List Nat) (xb : Nat) (D O : PS) (W : World) : Prop :=
  W.heap[xb]? = some (.cells #[.slice D.a D.n D.c, .slice O.a O.n O.c] 137 (0, 0)) ∧ D.l = dl ∧ D.n = dl.length ∧ O.l = ol ∧ O.n = ol.length ∧ PartOk W D ∧ PartOk W O ∧
    (∀ x, D.a = some x ∨ O.a = some x → w1.heap.size ≤ x.block ∧ x.block < W.heap.size) ∧ w1.heap.size ≤ xb ∧ Below w1.heap.size w1 W
theorem boxed_new {w1 W : World} {dl ol : List Nat} {D O : PS} (h1 : D.l = dl) (h2 : D.n = dl.length) (h3 : O.l = ol) (h4 : O.n = ol.length) (h5 : PartOk W D) (h6 : PartOk W O) (h7 : ∀ x, D.a = some x ∨ O.a = some x → w1.heap.size ≤ x.block ∧ x.block < W.heap.size) (hb : Below w1.heap.size w1 W) :
    Boxed w1 dl ol W.heap.size D O (W.alloc (.cells #[.slice D.a D.n D.c, .slice O.a O.n O.c] 137)) := by
  have hw := bel_alloc (Below.refl _ W) (.cells #[.slice D.a D.n D.c, .slice O.a O.n O.c] 137)
  exact ⟨heap_alloc_new W _, h1, h2, h3, h4, h5.step hw, h6.step hw, fun x hx => ⟨(h7 x hx).1, Nat.lt_of_lt_of_le (h7 x hx).2 hw.size⟩, hb.size, bel_trans hb hw⟩
theorem boxed_set {w1 W : World} {dl ol : List Nat} {D O : PS} {xb : Nat} {v0 v1 : Value} (hv : ∃ a1 n1 c1 a2 n2 c2, v0 = .slice a1 n1 c1 ∧ v1 = .slice a2 n2 c2) (hx : W.heap[xb]? = some (.cells #[v0, v1] 137 (0, 0))) (hxb : w1.heap.size ≤ xb)
    (h1 : D.l = dl) (h2 : D.n = dl.length) (h3 : O.l = ol) (h4 : O.n = ol.length) (hd0 : 0 < D.n) (ho0 : 0 < O.n) (h5 : PartOk W D) (h6 : PartOk W O) (h7 : ∀ x, D.a = some x ∨ O.a = some x → w1.heap.size ≤ x.block ∧ x.block < W.heap.size) (hb : Below w1.heap.size w1 W) :
    Boxed w1 dl ol xb D O ((W.setCell ⟨xb, 0, none⟩ (.slice D.a D.n D.c)).setCell ⟨xb, 1, none⟩ (.slice O.a O.n O.c)) := by
  obtain ⟨a1, n1, c1, a2, n2, c2, rfl, rfl⟩ := hv
  have key : ∀ k, k ≠ xb → ((W.setCell ⟨xb, 0, none⟩ (.slice D.a D.n D.c)).setCell ⟨xb, 1, none⟩ (.slice O.a O.n O.c)).heap[k]? = W.heap[k]? := fun k hk => (heap_setCell_other _ _ k _ hk).trans (heap_setCell_other _ _ k _ hk)
  refine ⟨?_, h1, h2, h3, h4, h5.at_ fun _ x e => key _ (part_box h5 hd0 hx x e), h6.at_ fun _ x e => key _ (part_box h6 ho0 hx x e), fun x e => ⟨(h7 x e).1, by simpa using (h7 x e).2⟩, hxb, (hb.setCell (p := ⟨xb, 0, none⟩) hxb _).setCell (p := ⟨xb, 1, none⟩) hxb _⟩
  have := heap_setCell_same _ xb 1 _ _ (.slice O.a O.n O.c) (heap_setCell_same W xb 0 _ _ (.slice D.a D.n D.c) hx)
  simpa using this
theorem eight_at {W : World} {b : Nat} {v0 v1 v2 v3 v4 v5 v6 v7 : Value} {t : TypeId} (h : W.heap[b]? = some (.cells #[v0, v1, v2, v3, v4, v5, v6, v7] t (0, 0))) :
    W.cell? ⟨b, 0, none⟩ = some v0 ∧ W.cell? ⟨b, 1, none⟩ = some v1 ∧ W.cell? ⟨b, 2, none⟩ = some v2 ∧ W.cell? ⟨b, 3, none⟩ = some v3 ∧ W.cell? ⟨b, 4, none⟩ = some v4 ∧ W.cell? ⟨b, 5, none⟩ = some v5 ∧ W.cell? ⟨b, 6, none⟩ = some v6 ∧ W.cell? ⟨b, 7, none⟩ = some v7 := by
  simp [World.cell?, h]
theorem LayI.step {W : World} {a b c d : Int} {n p k sz : Nat} {L : List SP} {sv : Value} {G : List PG} {x y : World} (h : LayI W a b c d n p k sz L sv G x) (hb : Below x.heap.size x y) : LayI W a b c d n p k sz L sv G y :=
  ⟨h.1.step hb, h.2.1.of_block (hb.block _ h.2.1.lt), h.2.2.1.step hb, h.2.2.2⟩
theorem layI_start (w : World) (a b c d : Int) (n p sz : Nat) (L : List SP) : LayI w a b c d n p 0 sz L (.slice none 0 0) [] ((w.alloc (.cells #[.int .i64 a, .int .i64 b, .int .i64 c, .int .i64 d] 49)).alloc (.cells (madeCells #[.slice none 0 0, .slice none 0 0] (n * 2)) 137)) := by
  refine ⟨(gs_new w a b c d).step (bel_alloc (Below.refl _ _) _), ⟨madeCells #[.slice none 0 0, .slice none 0 0] (n * 2), ?_, size_madeCells _ _, fun i hi => ?_⟩, CaseS.start _ _, rfl, fun j hj => absurd hj (Nat.not_lt_zero j)⟩
  · have := heap_alloc_new (w.alloc (.cells #[.int .i64 a, .int .i64 b, .int .i64 c, .int .i64 d] 49)) (.cells (madeCells #[.slice none 0 0, .slice none 0 0] (n * 2)) 137)
    simpa using this
  · have e : ∀ i, onAt p [] PG.nil i = PG.nil := fun i => by unfold onAt; split <;> simp
    simp only [madeCells, onC, e]
    rw [Array.getElem?_map, Array.getElem?_range, if_pos hi]
    simp only [Option.map_some, List.size_toArray, List.length_cons, List.length_nil, Nat.zero_add, Nat.reduceAdd]
    rcases (by omega : i % 2 = 0 ∨ i % 2 = 1) with e | e <;> rw [e] <;> rfl
theorem eight_set {W : World} {pb xb : Nat} {v0 v1 v2 v3 v4 v5 v6 v7 u0 u1 : Value}
    (h : W.cell? ⟨pb, 0, none⟩ = some v0 ∧ W.cell? ⟨pb, 1, none⟩ = some v1 ∧ W.cell? ⟨pb, 2, none⟩ = some v2 ∧ W.cell? ⟨pb, 3, none⟩ = some v3 ∧ W.cell? ⟨pb, 4, none⟩ = some v4 ∧ W.cell? ⟨pb, 5, none⟩ = some v5 ∧ W.cell? ⟨pb, 6, none⟩ = some v6 ∧ W.cell? ⟨pb, 7, none⟩ = some v7) (hne : pb ≠ xb) :
    ((W.setCell ⟨xb, 0, none⟩ u0).setCell ⟨xb, 1, none⟩ u1).cell? ⟨pb, 0, none⟩ = some v0 ∧ ((W.setCell ⟨xb, 0, none⟩ u0).setCell ⟨xb, 1, none⟩ u1).cell? ⟨pb, 1, none⟩ = some v1 ∧ ((W.setCell ⟨xb, 0, none⟩ u0).setCell ⟨xb, 1, none⟩ u1).cell? ⟨pb, 2, none⟩ = some v2 ∧ ((W.setCell ⟨xb, 0, none⟩ u0).setCell ⟨xb, 1, none⟩ u1).cell? ⟨pb, 3, none⟩ = some v3 ∧
      ((W.setCell ⟨xb, 0, none⟩ u0).setCell ⟨xb, 1, none⟩ u1).cell? ⟨pb, 4, none⟩ = some v4 ∧ ((W.setCell ⟨xb, 0, none⟩ u0).setCell ⟨xb, 1, none⟩ u1).cell? ⟨pb, 5, none⟩ = some v5 ∧ ((W.setCell ⟨xb, 0, none⟩ u0).setCell ⟨xb, 1, none⟩ u1).cell? ⟨pb, 6, none⟩ = some v6 ∧ ((W.setCell ⟨xb, 0, none⟩ u0).setCell ⟨xb, 1, none⟩ u1).cell? ⟨pb, 7, none⟩ = some v7 := by
  have key : ∀ o v, W.cell? ⟨pb, o, none⟩ = some v → ((W.setCell ⟨xb, 0, none⟩ u0).setCell ⟨xb, 1, none⟩ u1).cell? ⟨pb, o, none⟩ = some v := fun o v hv => cell_other (cell_other hv hne) hne
  obtain ⟨h0, h1, h2, h3, h4, h5, h6, h7⟩ := h
  exact ⟨key _ _ h0, key _ _ h1, key _ _ h2, key _ _ h3, key _ _ h4, key _ _ h5, key _ _ h6, key _ _ h7⟩
theorem seven_at {W : World} {b : Nat} {v0 v1 v2 v3 v4 v5 v6 : Value} {t : TypeId} (h : W.heap[b]? = some (.cells #[v0, v1, v2, v3, v4, v5, v6] t (0, 0))) :
    W.cell? ⟨b, 0, none⟩ = some v0 ∧ W.cell? ⟨b, 1, none⟩ = some v1 ∧ W.cell? ⟨b, 2, none⟩ = some v2 ∧ W.cell? ⟨b, 3, none⟩ = some v3 ∧ W.cell? ⟨b, 4, none⟩ = some v4 ∧ W.cell? ⟨b, 5, none⟩ = some v5 ∧ W.cell? ⟨b, 6, none⟩ = some v6 := by
  simp [World.cell?, h]
theorem eleven_set {W : World} {gb xb ob o1 o2 : Nat} {v0 v1 v2 v3 v4 v5 v6 v7 v8 v9 va u0 u1 : Value}
    (h : W.cell? ⟨gb, 0, none⟩ = some v0 ∧ W.cell? ⟨gb, 1, none⟩ = some v1 ∧ W.cell? ⟨gb, 2, none⟩ = some v2 ∧ W.cell? ⟨gb, 3, none⟩ = some v3 ∧ W.cell? ⟨xb, 0, none⟩ = some v4 ∧ W.cell? ⟨xb, 1, none⟩ = some v5 ∧ W.cell? ⟨xb, 2, none⟩ = some v6 ∧ W.cell? ⟨xb, 3, none⟩ = some v7 ∧ W.cell? ⟨xb, 4, none⟩ = some v8 ∧ W.cell? ⟨xb, 5, none⟩ = some v9 ∧ W.cell? ⟨xb, 6, none⟩ = some va) (hne : gb ≠ ob) (hne2 : xb ≠ ob) :
    ((W.setCell ⟨ob, o1, none⟩ u0).setCell ⟨ob, o2, none⟩ u1).cell? ⟨gb, 0, none⟩ = some v0 ∧ ((W.setCell ⟨ob, o1, none⟩ u0).setCell ⟨ob, o2, none⟩ u1).cell? ⟨gb, 1, none⟩ = some v1 ∧ ((W.setCell ⟨ob, o1, none⟩ u0).setCell ⟨ob, o2, none⟩ u1).cell? ⟨gb, 2, none⟩ = some v2 ∧
      ((W.setCell ⟨ob, o1, none⟩ u0).setCell ⟨ob, o2, none⟩ u1).cell? ⟨gb, 3, none⟩ = some v3 ∧ ((W.setCell ⟨ob, o1, none⟩ u0).setCell ⟨ob, o2, none⟩ u1).cell? ⟨xb, 0, none⟩ = some v4 ∧ ((W.setCell ⟨ob, o1, none⟩ u0).setCell ⟨ob, o2, none⟩ u1).cell? ⟨xb, 1, none⟩ = some v5 ∧ ((W.setCell ⟨ob, o1, none⟩ u0).setCell ⟨ob, o2, none⟩ u1).cell? ⟨xb, 2, none⟩ = some v6 ∧
      ((W.setCell ⟨ob, o1, none⟩ u0).setCell ⟨ob, o2, none⟩ u1).cell? ⟨xb, 3, none⟩ = some v7 ∧ ((W.setCell ⟨ob, o1, none⟩ u0).setCell ⟨ob, o2, none⟩ u1).cell? ⟨xb, 4, none⟩ = some v8 ∧ ((W.setCell ⟨ob, o1, none⟩ u0).setCell ⟨ob, o2, none⟩ u1).cell? ⟨xb, 5, none⟩ = some v9 ∧ ((W.setCell ⟨ob, o1, none⟩ u0).setCell ⟨ob, o2, none⟩ u1).cell? ⟨xb, 6, none⟩ = some va := by
  have key : ∀ k, k ≠ ob → ∀ o v, W.cell? ⟨k, o, none⟩ = some v → ((W.setCell ⟨ob, o1, none⟩ u0).setCell ⟨ob, o2, none⟩ u1).cell? ⟨k, o, none⟩ = some v := fun k hk o v hv => cell_other (cell_other hv hk) hk
  obtain ⟨h0, h1, h2, h3, h4, h5, h6, h7, h8, h9, ha⟩ := h
  exact ⟨key _ hne _ _ h0, key _ hne _ _ h1, key _ hne _ _ h2, key _ hne _ _ h3, key _ hne2 _ _ h4, key _ hne2 _ _ h5, key _ hne2 _ _ h6, key _ hne2 _ _ h7, key _ hne2 _ _ h8, key _ hne2 _ _ h9, key _ hne2 _ _ ha⟩
theorem six_set {W : World} {gb xb ob o1 o2 : Nat} {v0 v1 v2 v3 v4 v5 u0 u1 : Value}
    (h : W.cell? ⟨gb, 0, none⟩ = some v0 ∧ W.cell? ⟨gb, 1, none⟩ = some v1 ∧ W.cell? ⟨gb, 2, none⟩ = some v2 ∧ W.cell? ⟨gb, 3, none⟩ = some v3 ∧ W.cell? ⟨xb, 0, none⟩ = some v4 ∧ W.cell? ⟨xb, 1, none⟩ = some v5) (hne : gb ≠ ob) (hne2 : xb ≠ ob) :
    ((W.setCell ⟨ob, o1, none⟩ u0).setCell ⟨ob, o2, none⟩ u1).cell? ⟨gb, 0, none⟩ = some v0 ∧ ((W.setCell ⟨ob, o1, none⟩ u0).setCell ⟨ob, o2, none⟩ u1).cell? ⟨gb, 1, none⟩ = some v1 ∧ ((W.setCell ⟨ob, o1, none⟩ u0).setCell ⟨ob, o2, none⟩ u1).cell? ⟨gb, 2, none⟩ = some v2 ∧
      ((W.setCell ⟨ob, o1, none⟩ u0).setCell ⟨ob, o2, none⟩ u1).cell? ⟨gb, 3, none⟩ = some v3 ∧ ((W.setCell ⟨ob, o1, none⟩ u0).setCell ⟨ob, o2, none⟩ u1).cell? ⟨xb, 0, none⟩ = some v4 ∧ ((W.setCell ⟨ob, o1, none⟩ u0).setCell ⟨ob, o2, none⟩ u1).cell? ⟨xb, 1, none⟩ = some v5 := by
  have key : ∀ k, k ≠ ob → ∀ o v, W.cell? ⟨k, o, none⟩ = some v → ((W.setCell ⟨ob, o1, none⟩ u0).setCell ⟨ob, o2, none⟩ u1).cell? ⟨k, o, none⟩ = some v := fun k hk o v hv => cell_other (cell_other hv hk) hk
  obtain ⟨h0, h1, h2, h3, h4, h5⟩ := h
  exact ⟨key _ hne _ _ h0, key _ hne _ _ h1, key _ hne _ _ h2, key _ hne _ _ h3, key _ hne2 _ _ h4, key _ hne2 _ _ h5⟩
set_option maxRecDepth 100000 in
set_option maxHeartbeats 2000000 in
theorem stLay_any (b c : Int) (seg row n p sz : Nat) (a : Option Addr) (m cap : Nat) (L : List SP) (w : World) (hg : GoodG n b c sz) (hsz : sz ≤ 1000) (hseg : seg ≤ 2000) (hrow : row ≤ 2000) (hp : ((p : Nat) : Int) = ParOf n c seg row) (hpn : p < n)
    (hm : m = L.length) (hmn : m + 1 = n) (hL : PagesSP w a L) (hd : ∀ q ∈ L, q.d.n = sz) :
    Calls Tryz.prog 57 #[.agg #[.int .i64 (n : Int), .int .i64 b, .int .i64 c, .int .i64 (sz : Int)], .int .i64 (seg : Int), .int .i64 (row : Int), .slice a m cap] w (LayRet n p sz (hdrOf (L.getD 0 SP.nil).h row seg) L w) := by
  have hn16 : n ≤ 16 := by have := hg.2.1; omega
  have hn3 : 3 ≤ n := by have := hg.1; omega
  obtain ⟨ti, hi1, hz1, hs1, hb1⟩ := info_parts info_pp
  have hmk : ∀ w, (Instr.makeSlice 132 (.int .i64 ((n : Nat) : Int)) (.int .i64 ((n : Nat) : Int))).run Tryz.prog w = _ := fun w => run_make w 132 137 ti _ Tryz.underlying132 hi1 hz1 .i64 .i64 ((n : Nat) : Int) ((n : Nat) : Int) (by omega) (Int.le_refl _) (by rw [hb1]; omega) (by omega)
  simp only [Int.toNat_natCast, hs1, Value.cells] at hmk
  have HM := Lib.hid fun (x : World) (k : Nat) (hk : k ≤ 1000) => member_any n b c sz seg row p k x hg (by omega) (by omega) (by omega) (by omega) hp hk
  have HP := Lib.hid fun (x : World) => parity_any n b c sz seg row x hg (by omega) (by omega) (by omega) (by omega)
  rw [← hp] at HP
  have HL := Lib.hid hL
  have HD := Lib.hid hd
  have HN := Lib.hid (And.intro hm hmn)
  clear hL hd hm hp
  go_enter Tryz.func57, Tryz.ntmps57
  go_wp2_with fail
  have HI0 := Lib.hid (layI_start w (n : Int) b c (sz : Int) n p sz L)
  obtain ⟨w0, hw0⟩ : ∃ x, x = (w.alloc (.cells #[.int .i64 (n : Int), .int .i64 b, .int .i64 c, .int .i64 (sz : Int)] 49)).alloc (.cells (madeCells #[.slice none 0 0, .slice none 0 0] (n * 2)) 137) := ⟨_, rfl⟩
  rw [← hw0] at HI0 ⊢
  clear hw0 hmk
  go_loopw [10, 21] (fun sv i wr => ∃ k G, k ≤ m ∧ i = .int .i64 ((k : Nat) : Int) ∧ LayI w (n : Int) b c (sz : Int) n p k sz L sv G wr) (fun _ i _ => (m - intOf i).toNat)
  case atStart => exact ⟨0, [], Nat.zero_le _, rfl, HI0.out⟩
  case round =>
    obtain ⟨k, G, hk, rfl, hI⟩ := hrel
    have HI := Lib.hid hI
    have HB := Lib.hid hI.1.2.2.2.2
    clear hI
    by_cases hlt : k < m
    · have hlt' : decide (k < m) = true := by simpa using hlt
      obtain ⟨ba, off, ha, hc⟩ := HL.out.1 (by rw [← HN.out.1]; omega)
      obtain ⟨q, hq⟩ : ∃ q, q = L.getD k SP.nil := ⟨_, rfl⟩
      have hkl : k < L.length := by rw [← HN.out.1]; exact hlt
      have hqm : q ∈ L := by rw [hq]; simp [List.getD, hkl]
      have hat := (hc k hkl).keep' HB.out
      rw [← hq] at hat
      obtain ⟨h0, h1, h2, h3, h4, h5, h6, h7⟩ := hat
      have HQ := Lib.hid (And.intro (HD.out q hqm) (HL.out.2 q hqm).2)
      have HQD : Hid (∀ x : World, Below w.heap.size w x → PartOk x q.d) := Lib.hid fun x hx => (HL.out.2 q hqm).1.keep hx (Nat.le_refl _)
      have i0 : (0 : Int) ≤ (k : Int) := by omega
      have i1 : (k : Int) < (m : Int) := by omega
      have HQE := Lib.hid hq
      subst ha
      clear hc hq hqm
      go_upto_region 6 with fail
      obtain ⟨pb, hpb⟩ : ∃ x, x = wr.heap.size := ⟨_, rfl⟩
      obtain ⟨w1, hw1⟩ : ∃ x, x = wr.alloc (.cells #[.int .u8 (q.h.ki : Int), .int .u32 (q.h.ep : Int), .int .u32 (q.h.ba : Int), .int .u16 (q.h.ix : Int), .int .u16 (q.h.ct : Int), .int .u32 (q.h.bl : Int), .int .u32 (q.h.mo : Int), .slice q.d.a q.d.n q.d.c] 95) := ⟨_, rfl⟩
      rw [← hw1, ← hpb]
      have hbx : w1.heap[pb]? = some (.cells #[.int .u8 (q.h.ki : Int), .int .u32 (q.h.ep : Int), .int .u32 (q.h.ba : Int), .int .u16 (q.h.ix : Int), .int .u16 (q.h.ct : Int), .int .u32 (q.h.bl : Int), .int .u32 (q.h.mo : Int), .slice q.d.a q.d.n q.d.c] 95 (0, 0)) := by rw [hw1, hpb]; exact heap_alloc_new wr _
      have HI1 := Lib.hid (HI.out.step (y := w1) (by rw [hw1]; exact bel_alloc (Below.refl _ _) _))
      have HB1 := Lib.hid HI1.out.1.2.2.2.2
      have HX := Lib.hid fun (x : World) (hx : Below w1.heap.size w1 x) => eight_at ((hx.block pb (Array.getElem?_eq_some_iff.1 hbx).1).trans hbx)
      have HL1 := Lib.hid (Array.getElem?_eq_some_iff.1 hbx).1
      have hS0 := HX.out w1.drew (Below.refl _ _).drew
      have HB0 : Hid (Below w1.heap.size w1 w1.drew) := Lib.hid (Below.refl _ _).drew
      have HCL : Hid (∀ x : World, Below w1.heap.size w1 x → Calls Tryz.prog 46 #[.slice q.d.a q.d.n q.d.c] x (RetOwn x q.d.l)) := Lib.hid fun x hx => by
        have := HQD.out x (bel_trans HB1.out hx)
        exact clone_any q.d.a q.d.n q.d.c q.d.l x this.1 this.2.2.2 (by rw [HQ.out.1]; have := hg.2.2.2.2.2.2.2.1; omega)
      have HSE : Hid (∀ x : World, Below w1.heap.size w1 x → Calls Tryz.prog 70 #[.agg #[.int .u8 (q.h.ki : Int), .int .u32 (q.h.ep : Int), .int .u32 (q.h.ba : Int), .int .u16 (q.h.ix : Int), .int .u16 (q.h.ct : Int), .int .u32 (q.h.bl : Int), .int .u32 (q.h.mo : Int)], .slice q.d.a q.d.n q.d.c, .slice none 0 0] x (RetOwn x (sealB q.h q.d.l []))) := Lib.hid fun x hx => by
        have := HQD.out x (bel_trans HB1.out hx)
        exact seal_nil q.h HQ.out.2 q.d.a q.d.n q.d.c q.d.l x this.1 (by rw [HQ.out.1]; have := hg.2.2.2.2.2.2.2.1; omega)
      clear hw1 hbx h0 h1 h2 h3 h4 h5 h6 h7
      have HPB := Lib.hid hpb
      clear hpb
      go_region_held3 (fun x => x.cell? ⟨pb, 0, none⟩ = some (.int .u8 (q.h.ki : Int)) ∧ x.cell? ⟨pb, 1, none⟩ = some (.int .u32 (q.h.ep : Int)) ∧ x.cell? ⟨pb, 2, none⟩ = some (.int .u32 (q.h.ba : Int)) ∧ x.cell? ⟨pb, 3, none⟩ = some (.int .u16 (q.h.ix : Int)) ∧ x.cell? ⟨pb, 4, none⟩ = some (.int .u16 (q.h.ct : Int)) ∧ x.cell? ⟨pb, 5, none⟩ = some (.int .u32 (q.h.bl : Int)) ∧ x.cell? ⟨pb, 6, none⟩ = some (.int .u32 (q.h.mo : Int)) ∧ x.cell? ⟨pb, 7, none⟩ = some (.slice q.d.a q.d.n q.d.c))
        (first | exact hS0 | exact hSa | exact hSb | exact HX.out _ ((bel_alloc (Below.refl _ w1) _).drew) | exact HX.out _ (bel_alloc HBa.out _) | exact HX.out _ (bel_alloc HBb.out _) | exact eight_set hSb (Nat.ne_of_lt HL1.out) | exact eight_set hSb (Nat.ne_of_lt HL2.out) | go_keep)
        (first
          | (go_simp; go_at_call 46; ((with_reducible refine (HCL.out _ HB0.out).mono ?_)); (intro e wa hr; obtain ⟨D, rfl, hDl, hDn, hDk, hba, hfar⟩ := own_parts hr; have HBa := Lib.hid (bel_trans HB0.out hba); have HDp := Lib.hid (And.intro hDl (And.intro hDn (And.intro hDk (fun x hx => And.intro (Nat.le_trans (Below.size HB0.out) (hfar x hx).1) (hfar x hx).2)))); have HL2 : Hid (pb < wa.heap.size) := Lib.hid (Nat.lt_of_lt_of_le HL1.out HBa.out.size); have hSa := HX.out wa HBa.out; clear hr hDl hDn hDk hfar; skip))
          | (go_simp; go_at_call 46; ((with_reducible refine (HCL.out _ ((bel_alloc (Below.refl _ w1) _).drew)).mono ?_)); (intro e wa hr; obtain ⟨D, rfl, hDl, hDn, hDk, hba, hfar⟩ := own_parts hr; have HBa := Lib.hid (bel_trans ((bel_alloc (Below.refl _ w1) _).drew) hba); have HDp := Lib.hid (And.intro hDl (And.intro hDn (And.intro hDk (fun x hx => And.intro (Nat.le_trans (Below.size ((bel_alloc (Below.refl _ w1) _).drew)) (hfar x hx).1) (hfar x hx).2)))); have HL2 : Hid (pb < wa.heap.size) := Lib.hid (Nat.lt_of_lt_of_le HL1.out HBa.out.size); have hSa := HX.out wa HBa.out; clear hr hDl hDn hDk hfar; have HXA := Lib.hid ((hba.block w1.heap.size (by simp)).trans (heap_alloc_new w1 (.cells #[.slice none 0 0, .slice none 0 0] 137))); obtain ⟨x0, x1, x2, x3⟩ := two_at HXA.out; skip))
          | (go_simp; go_at_call 70; ((with_reducible refine (HSE.out _ HBa.out).mono ?_)); (intro e wb hr; obtain ⟨O, rfl, hOl, hOn, hOk, hbb, hfar⟩ := own_parts hr; have HBb := Lib.hid (bel_trans HBa.out hbb); have HOp := Lib.hid (And.intro hOl (And.intro hOn (And.intro hOk (fun x hx => And.intro (Nat.le_trans (Below.size HBa.out) (hfar x hx).1) (hfar x hx).2)))); have HDs : Hid (PartOk wb D ∧ wa.heap.size ≤ wb.heap.size) := Lib.hid (And.intro (HDp.out.2.2.1.keep hbb (Nat.le_refl _)) (Below.size hbb)); have HL3 : Hid (pb < wb.heap.size) := Lib.hid (Nat.lt_of_lt_of_le HL1.out HBb.out.size); have hSb := HX.out wb HBb.out; clear hr hOl hOn hOk hfar; (try (have HXB := Lib.hid ((hbb.block w1.heap.size (by have := HBa.out.size; have := (Array.getElem?_eq_some_iff.1 HXA.out).1; omega)).trans HXA.out); obtain ⟨x0, x1, x2, x3⟩ := two_at HXB.out)); skip))
          | (go_simp; go_at_call 70; ((with_reducible refine (HSE.out _ (bel_alloc HBa.out _)).mono ?_)); (intro e wb hr; obtain ⟨O, rfl, hOl, hOn, hOk, hbb, hfar⟩ := own_parts hr; have HBb := Lib.hid (bel_trans (bel_alloc HBa.out _) hbb); have HOp := Lib.hid (And.intro hOl (And.intro hOn (And.intro hOk (fun x hx => And.intro (Nat.le_trans (Below.size (bel_alloc HBa.out _)) (hfar x hx).1) (hfar x hx).2)))); have HDs : Hid (PartOk wb D ∧ wa.heap.size ≤ wb.heap.size) := Lib.hid (And.intro (HDp.out.2.2.1.keep ((bel_alloc (Below.refl _ wa) (.cells #[.slice none 0 0, .slice none 0 0] 137)).trans (hbb.mono (by simp))) (Nat.le_refl _)) (Below.size ((bel_alloc (Below.refl _ wa) (.cells #[.slice none 0 0, .slice none 0 0] 137)).trans (hbb.mono (by simp))))); have HL3 : Hid (pb < wb.heap.size) := Lib.hid (Nat.lt_of_lt_of_le HL1.out HBb.out.size); have hSb := HX.out wb HBb.out; clear hr hOl hOn hOk hfar; have HXC := Lib.hid ((hbb.block wa.heap.size (by simp)).trans (heap_alloc_new wa (.cells #[.slice none 0 0, .slice none 0 0] 137))); obtain ⟨x0, x1, x2, x3⟩ := two_at HXC.out; skip)))
      all_goals
        have HT : Hid (D.l = q.d.l ∧ D.n = q.d.l.length ∧ O.l = sealB q.h q.d.l [] ∧ O.n = (sealB q.h q.d.l []).length ∧ 0 < D.n ∧ 0 < O.n ∧ (∀ x, D.a = some x ∨ O.a = some x → w1.heap.size ≤ x.block ∧ x.block < wb.heap.size)) := by
          refine Lib.hid ⟨HDp.out.1, HDp.out.2.1, HOp.out.1, HOp.out.2.1, ?_, ?_, fun x hx => ?_⟩
          · have := HDp.out.2.1
            have h1 := (HQD.out w (Below.refl _ _)).1.1
            rw [HQ.out.1] at h1
            have := hg.2.2.2.2.2.2.1
            omega
          · rw [HOp.out.2.1, sealB_len]; decide
          · rcases hx with hx | hx
            · exact ⟨(HDp.out.2.2.2 x hx).1, Nat.lt_of_lt_of_le (HDp.out.2.2.2 x hx).2 HDs.out.2⟩
            · exact HOp.out.2.2.2 x hx
        clear hS0 hSa hSb
        first
          | (have HBX := Lib.hid (boxed_set ⟨_, _, _, _, _, _, rfl, rfl⟩ HXB.out (Nat.le_refl _) HT.out.1 HT.out.2.1 HT.out.2.2.1 HT.out.2.2.2.1 HT.out.2.2.2.2.1 HT.out.2.2.2.2.2.1 HDs.out.1 HOp.out.2.2.1 HT.out.2.2.2.2.2.2 HBb.out)
             clear x0 x1 x2 x3
             obtain ⟨xb, hxb⟩ : ∃ x, x = w1.heap.size := ⟨_, rfl⟩
             rw [← hxb] at HBX ⊢
             clear hxb)
          | (have HBX := Lib.hid (boxed_set ⟨_, _, _, _, _, _, rfl, rfl⟩ HXC.out HBa.out.size HT.out.1 HT.out.2.1 HT.out.2.2.1 HT.out.2.2.2.1 HT.out.2.2.2.2.1 HT.out.2.2.2.2.2.1 HDs.out.1 HOp.out.2.2.1 HT.out.2.2.2.2.2.2 HBb.out)
             clear x0 x1 x2 x3
             obtain ⟨xb, hxb⟩ : ∃ x, x = wa.heap.size := ⟨_, rfl⟩
             rw [← hxb] at HBX ⊢
             clear hxb)
          | (have HBX := Lib.hid (boxed_new HT.out.1 HT.out.2.1 HT.out.2.2.1 HT.out.2.2.2.1 HDs.out.1 HOp.out.2.2.1 HT.out.2.2.2.2.2.2 HBb.out)
             obtain ⟨xb, hxb⟩ : ∃ x, x = wb.heap.size := ⟨_, rfl⟩
             rw [← hxb] at HBX ⊢
             clear hxb)
        first
          | (obtain ⟨wz, hz⟩ : ∃ x, x = (wb.setCell ⟨xb, 0, none⟩ (.slice D.a D.n D.c)).setCell ⟨xb, 1, none⟩ (.slice O.a O.n O.c) := ⟨_, rfl⟩
             rw [← hz] at HBX ⊢
             clear hz)
          | (obtain ⟨wz, hz⟩ : ∃ x, x = wb.alloc (.cells #[.slice D.a D.n D.c, .slice O.a O.n O.c] 137) := ⟨_, rfl⟩
             rw [← hz] at HBX ⊢
             clear hz)
        have HIz := Lib.hid (HI1.out.step HBX.out.2.2.2.2.2.2.2.2.2)
        clear HDp HOp HDs HT
        obtain ⟨g0, g1, g2, g3, _⟩ := HIz.out.1
        obtain ⟨y0, y1, y2, y3⟩ := two_at HBX.out.1
        obtain ⟨mm, hmm⟩ : ∃ mm, mm = memOf p k := ⟨_, rfl⟩
        have hmn1 : mm < n := by rw [hmm]; have := memOf_le p k m hlt; omega
        have j0 : (0 : Int) ≤ (mm : Int) := by omega
        have j1 : (mm : Int) < (n : Int) := by omega
        have HMM := Lib.hid hmm
        have HME : Hid (∀ x : World, Calls Tryz.prog 71 #[.agg #[.int .i64 (n : Int), .int .i64 b, .int .i64 c, .int .i64 (sz : Int)], .agg #[.int .i64 (seg : Int), .int .i64 (row : Int), .int .i64 (k : Int)]] x fun e w' => e = .returned (.int .i64 (mm : Int)) ∧ Below x.heap.size x w') := Lib.hid fun x => by rw [hmm]; exact HM.out x k (by omega)
        clear hmm
        have HGX : Hid (∀ x : World, Below wz.heap.size wz x → (x.cell? ⟨w.heap.size, 0, none⟩ = some (.int .i64 (n : Int)) ∧ x.cell? ⟨w.heap.size, 1, none⟩ = some (.int .i64 b) ∧ x.cell? ⟨w.heap.size, 2, none⟩ = some (.int .i64 c) ∧ x.cell? ⟨w.heap.size, 3, none⟩ = some (.int .i64 (sz : Int)) ∧ x.cell? ⟨xb, 0, none⟩ = some (.slice D.a D.n D.c) ∧ x.cell? ⟨xb, 1, none⟩ = some (.slice O.a O.n O.c)) ∧ LayI w (n : Int) b c (sz : Int) n p k sz L u10 G x ∧ x.heap[xb]? = wz.heap[xb]?) := Lib.hid fun x hx => by
          have h1 := HIz.out.step hx
          have h2 := hx.block xb (Array.getElem?_eq_some_iff.1 HBX.out.1).1
          obtain ⟨z0, z1, _, _⟩ := two_at (h2.trans HBX.out.1)
          exact ⟨⟨h1.1.1, h1.1.2.1, h1.1.2.2.1, h1.1.2.2.2.1, z0, z1⟩, h1, h2⟩
        have HXO : Hid (xb ≠ w.heap.size + 1) := Lib.hid (by
          have h1 := HBX.out.2.2.2.2.2.2.2.2.1
          have h2 := HI1.out.2.1.lt
          omega)
        have hS0 := (HGX.out wz.drew (Below.refl _ _).drew).1
        clear g0 g1 g2 g3 y0 y1 y2 y3
        go_wp2_with fail
        go_region_held3 (fun x => x.cell? ⟨w.heap.size, 0, none⟩ = some (.int .i64 (n : Int)) ∧ x.cell? ⟨w.heap.size, 1, none⟩ = some (.int .i64 b) ∧ x.cell? ⟨w.heap.size, 2, none⟩ = some (.int .i64 c) ∧ x.cell? ⟨w.heap.size, 3, none⟩ = some (.int .i64 (sz : Int)) ∧ x.cell? ⟨xb, 0, none⟩ = some (.slice D.a D.n D.c) ∧ x.cell? ⟨xb, 1, none⟩ = some (.slice O.a O.n O.c))
          (first | exact hS0 | exact hSm | exact six_set hSm (by simp) HXO.out | go_keep)
          (first
            | (go_simp; go_at_call 71; ((with_reducible refine (HME.out _).mono ?_)); (intro e wm hr; obtain ⟨rfl, hbm⟩ := hr; have HBm := Lib.hid ((Below.refl wz.heap.size wz).drew.trans (hbm.mono (by simp))); have hSm := (HGX.out wm HBm.out).1; have r0 := (HGX.out wm HBm.out).2.1.2.1.cell (show mm * 2 < n * 2 by omega); have r1 := (HGX.out wm HBm.out).2.1.2.1.cell (show mm * 2 + 1 < n * 2 by omega); have f0 := (HGX.out wm HBm.out).2.1.2.1.frozen (mm * 2); have f1 := (HGX.out wm HBm.out).2.1.2.1.frozen (mm * 2 + 1); clear hbm)))
        all_goals
          clear r0 r1 f0 f1 hS0 hSm
          have hgl : D.l = (L.getD k SP.nil).d.l ∧ O.l = sealB (L.getD k SP.nil).h (L.getD k SP.nil).d.l [] ∧ D.n = sz ∧ O.n = 64 := by
            obtain ⟨_, b1, b2, b3, b4, _⟩ := HBX.out
            rw [← HQE.out]
            refine ⟨b1, b3, ?_, by rw [b4, sealB_len]⟩
            rw [b2]
            have h1 := (HQD.out w (Below.refl _ _)).1.1
            rw [h1]
            exact HQ.out.1
          have hIm := (HGX.out wm HBm.out).2.1
          have hL7 : LayJ w (n : Int) b c (sz : Int) n p (k + 1) sz L u10 G ⟨D, O⟩ ((wm.setCell ⟨w.heap.size + 1, mm * 2, none⟩ (.slice D.a D.n D.c)).setCell ⟨w.heap.size + 1, mm * 2 + 1, none⟩ (.slice O.a O.n O.c)) ∧
              ((wm.setCell ⟨w.heap.size + 1, mm * 2, none⟩ (.slice D.a D.n D.c)).setCell ⟨w.heap.size + 1, mm * 2 + 1, none⟩ (.slice O.a O.n O.c)).heap[xb]? = some (.cells #[.slice D.a D.n D.c, .slice O.a O.n O.c] 137 (0, 0)) := by
            have hne : w.heap.size ≠ w.heap.size + 1 := by omega
            refine ⟨⟨(hIm.1.set hne (by omega) _ _).set hne (by omega) _ _, ?_, ?_, ?_, ?_⟩, ?_⟩
            · exact ((hIm.2.1.set (mm * 2) D.v).set (mm * 2 + 1) O.v).congr fun j _ => onC_slot p G ⟨D, O⟩ PG.nil j mm (by rw [hIm.2.2.2.1]; exact HMM.out)
            · have h1 := HI1.out.2.2.1.more HBX.out.2.2.2.2.2.2.2.2.2 (by have := HI1.out.2.1.lt; omega) (g := ⟨D, O⟩) ⟨HBX.out.2.2.2.2.2.1, HBX.out.2.2.2.2.2.2.1⟩ HBX.out.2.2.2.2.2.2.2.1
              exact ((h1.step HBm.out).set (by omega) _ _).set (by omega) _ _
            · rw [List.length_append, hIm.2.2.2.1]; rfl
            · exact made_more hIm.2.2.2.2 hIm.2.2.2.1 hgl
            · refine (heap_setCell_other _ _ xb _ (fun e => HXO.out e)).trans ((heap_setCell_other _ _ xb _ (fun e => HXO.out e)).trans ?_)
              rw [(HGX.out wm HBm.out).2.2]
              exact HBX.out.1
          go_upto_region 8 with fail
          obtain ⟨w7, hw7⟩ : ∃ x, x = (wm.setCell ⟨w.heap.size + 1, mm * 2, none⟩ (.slice D.a D.n D.c)).setCell ⟨w.heap.size + 1, mm * 2 + 1, none⟩ (.slice O.a O.n O.c) := ⟨_, rfl⟩
          rw [← hw7] at hL7 ⊢
          have H7 := Lib.hid hL7
          obtain ⟨y0, y1, _, _⟩ := two_at hL7.2
          clear hw7 hL7 hgl hIm HGX HME HMM hmn1 j0 j1
          go_wp2_with (at_builtin; refine wpList_appG 137 132 Tryz.underlying132 info_pp rfl _ _ rfl (w.heap.size + 2) _ G rfl (H7.out.1.2.2.1.own1.alloc _) w7.heap.size 1 ⟨D, O⟩ rfl ?c0 ?c1 ?c2 ?c3 ?_)
          case c0 => rfl
          case c1 => rfl
          case c2 => have := H7.out.1.2.1.lt; simp; omega
          case c3 => have := H7.out.1.2.2.2.1; simp at this; omega
          intro nv w8 hap
          have hR : LayI w (n : Int) b c (sz : Int) n p (k + 1) sz L nv (G ++ [⟨D, O⟩]) w8 := by
            have h1 := H7.out.1.2.2.1.step (bel_alloc (Below.refl _ w7) (.cells #[.slice D.a D.n D.c, .slice O.a O.n O.c] 137))
            have hbl : Below (w.heap.size + 2) w7 w8 := ((Below.refl _ w7).alloc (by have := H7.out.1.2.1.lt; omega) _).trans hap.below
            exact ⟨H7.out.1.1.bel (hbl.mono (by omega)) hbl, H7.out.1.2.1.of_block (hbl.block _ (by omega)), h1.push1 hap, H7.out.1.2.2.2.1, H7.out.1.2.2.2.2⟩
          have HR := Lib.hid hR
          clear hap hR
          go_wp2
          go_roundw
          case rel => exact ⟨k + 1, G ++ [⟨D, O⟩], by omega, by go_num, HR.out⟩
          case measure => simp [intOf]; omega
    · obtain rfl : k = m := by omega
      have hlt' : decide (k < k) = false := by simp
      obtain ⟨ba, off, ha, hc⟩ := HL.out.1 (by rw [← HN.out.1]; omega)
      obtain ⟨q, hq⟩ : ∃ q, q = L.getD 0 SP.nil := ⟨_, rfl⟩
      have hat := (hc 0 (by rw [← HN.out.1]; omega)).keep' HB.out
      rw [← hq] at hat
      rw [Nat.zero_mul, Nat.add_zero] at hat
      obtain ⟨h0, h1, h2, h3, h4, h5, h6, h7⟩ := hat
      have HF : Hid ((hdrOf q.h row seg).Fits) := Lib.hid (by
        have := (HL.out.2 q (by rw [hq]; simp [List.getD, show 0 < L.length by rw [← HN.out.1]; omega])).2
        exact ⟨by show 5 < 256; decide, this.ep, this.ba, by show row < _; omega, by show seg < _; omega, by show 0 < 4294967296; decide, by show 0 < 4294967296; decide⟩)
      have u1 : IntKind.u16.wrap (row : Int) = (row : Int) := by rw [IntKind.wrap_u16]; omega
      have u2 : IntKind.u16.wrap (seg : Int) = (seg : Int) := by rw [IntKind.wrap_u16]; omega
      have i0 : (0 : Int) < (k : Int) := by omega
      have HQE0 := Lib.hid hq
      subst ha
      clear hc hq
      go_upto_region 12 with fail
      obtain ⟨wh, hwh⟩ : ∃ x, x = wr.alloc (.cells #[.int .u8 (q.h.ki : Int), .int .u32 (q.h.ep : Int), .int .u32 (q.h.ba : Int), .int .u16 (q.h.ix : Int), .int .u16 (q.h.ct : Int), .int .u32 (q.h.bl : Int), .int .u32 (q.h.mo : Int)] 93) := ⟨_, rfl⟩
      have hsz : wr.heap.size + 1 = wh.heap.size := by rw [hwh]; simp
      rw [← hwh]
      try rw [hsz]
      have HIh := Lib.hid (HI.out.step (y := wh) (by rw [hwh]; exact bel_alloc (Below.refl _ _) _))
      have hh := hdr_new (hdrOf q.h row seg) wh
      simp only [hdrOf] at hh
      clear hwh hsz h0 h1 h2 h3 h4 h5 h6 h7
      obtain ⟨hb, hhb⟩ : ∃ x, x = wh.heap.size := ⟨_, rfl⟩
      obtain ⟨wk, hwk⟩ : ∃ x, x = wh.alloc (.cells #[.int .u8 5, .int .u32 (q.h.ep : Int), .int .u32 (q.h.ba : Int), .int .u16 (row : Int), .int .u16 (seg : Int), .int .u32 0, .int .u32 0] 93) := ⟨_, rfl⟩
      have HIk := Lib.hid (HIh.out.step (y := wk) (by rw [hwk]; exact bel_alloc (Below.refl _ _) _))
      have hh2 : wk.heap[hb]? = some (.cells #[.int .u8 5, .int .u32 (q.h.ep : Int), .int .u32 (q.h.ba : Int), .int .u16 (row : Int), .int .u16 (seg : Int), .int .u32 0, .int .u32 0] 93 (0, 0)) := by rw [hwk, hhb]; exact heap_alloc_new wh _
      rw [← hwk, ← hhb]
      have HHB : Hid (w.heap.size + 1 < hb) := Lib.hid (by rw [hhb]; exact HIh.out.2.1.lt)
      clear hwk hhb hh
      obtain ⟨da, dc, rfl, hdc, hdc1, hdc2, hdn⟩ := cellsG_own HIk.out.2.2.1.own1
      have HPG := Lib.hid (show PagesL wk da G from ⟨hdc, HIk.out.2.2.1.pages⟩)
      have HGL : Hid (G.length = k) := Lib.hid HIk.out.2.2.2.1
      have HGN : Hid (∀ g ∈ G, g.d.n = sz ∧ g.o.n = 64) := Lib.hid fun g hg => by
        obtain ⟨j, hj, e⟩ := List.getElem_of_mem hg
        have := HIk.out.2.2.2.2 j hj
        rw [show G.getD j PG.nil = g by simp [List.getD, hj, e]] at this
        exact ⟨this.2.2.1, this.2.2.2⟩
      have HOF : Hid (∀ x : World, Below wk.heap.size wk x → Calls Tryz.prog 72 #[.agg #[.int .u8 5, .int .u32 (q.h.ep : Int), .int .u32 (q.h.ba : Int), .int .u16 (row : Int), .int .u16 (seg : Int), .int .u32 0, .int .u32 0], .slice da G.length dc] x (OfFar (hdrOf q.h row seg) G x)) := Lib.hid fun x hx =>
        of_far (hdrOf q.h row seg) HF.out da G.length dc G x rfl (HPG.out.step hx) (by rw [HGL.out]; omega) (fun g hgm => ⟨by rw [(HGN.out g hgm).1]; exact hsz, by rw [(HGN.out g hgm).2]; decide⟩)
      have HGX : Hid (∀ x : World, Below wk.heap.size wk x → (x.cell? ⟨w.heap.size, 0, none⟩ = some (.int .i64 (n : Int)) ∧ x.cell? ⟨w.heap.size, 1, none⟩ = some (.int .i64 b) ∧ x.cell? ⟨w.heap.size, 2, none⟩ = some (.int .i64 c) ∧ x.cell? ⟨w.heap.size, 3, none⟩ = some (.int .i64 (sz : Int)) ∧
          x.cell? ⟨hb, 0, none⟩ = some (.int .u8 5) ∧ x.cell? ⟨hb, 1, none⟩ = some (.int .u32 (q.h.ep : Int)) ∧ x.cell? ⟨hb, 2, none⟩ = some (.int .u32 (q.h.ba : Int)) ∧ x.cell? ⟨hb, 3, none⟩ = some (.int .u16 (row : Int)) ∧ x.cell? ⟨hb, 4, none⟩ = some (.int .u16 (seg : Int)) ∧ x.cell? ⟨hb, 5, none⟩ = some (.int .u32 0) ∧ x.cell? ⟨hb, 6, none⟩ = some (.int .u32 0)) ∧ LayI w (n : Int) b c (sz : Int) n p k sz L (.slice da G.length dc) G x) := Lib.hid fun x hx => by
        have e1 := HIk.out.step hx
        have e2 := (hx.block hb (Array.getElem?_eq_some_iff.1 hh2).1).trans hh2
        obtain ⟨z0, z1, z2, z3, z4, z5, z6⟩ := seven_at e2
        exact ⟨⟨e1.1.1, e1.1.2.1, e1.1.2.2.1, e1.1.2.2.2.1, z0, z1, z2, z3, z4, z5, z6⟩, e1⟩
      have hS0 := (HGX.out wk.drew (Below.refl _ _).drew).1
      have HB0 : Hid (Below wk.heap.size wk wk.drew) := Lib.hid (Below.refl _ _).drew
      have j0 : (0 : Int) ≤ (p : Int) := by omega
      have j1 : (p : Int) < (n : Int) := by omega
      clear hh2 hdc hdc1 hdc2 hdn
      go_region_held3 (fun x => x.cell? ⟨w.heap.size, 0, none⟩ = some (.int .i64 (n : Int)) ∧ x.cell? ⟨w.heap.size, 1, none⟩ = some (.int .i64 b) ∧ x.cell? ⟨w.heap.size, 2, none⟩ = some (.int .i64 c) ∧ x.cell? ⟨w.heap.size, 3, none⟩ = some (.int .i64 (sz : Int)) ∧
          x.cell? ⟨hb, 0, none⟩ = some (.int .u8 5) ∧ x.cell? ⟨hb, 1, none⟩ = some (.int .u32 (q.h.ep : Int)) ∧ x.cell? ⟨hb, 2, none⟩ = some (.int .u32 (q.h.ba : Int)) ∧ x.cell? ⟨hb, 3, none⟩ = some (.int .u16 (row : Int)) ∧ x.cell? ⟨hb, 4, none⟩ = some (.int .u16 (seg : Int)) ∧ x.cell? ⟨hb, 5, none⟩ = some (.int .u32 0) ∧ x.cell? ⟨hb, 6, none⟩ = some (.int .u32 0))
        (first | exact hS0 | exact hSp | exact hSo | exact eleven_set hSo (by simp) (Nat.ne_of_gt HHB.out) | go_keep)
        (first
          | (go_simp; go_at_call 73; ((with_reducible refine (HP.out _).mono ?_)); (intro e wp hr; obtain ⟨rfl, hbp⟩ := hr; have HBp := Lib.hid (bel_trans HB0.out hbp); have hSp := (HGX.out wp HBp.out).1; clear hbp))
          | (go_simp; go_at_call 72; ((with_reducible refine (HOF.out _ HBp.out).mono ?_)); (intro e wo hr; obtain ⟨D, O, rfl, hDl, hOl, hDk, hOk, hDn, hOn, hDf, hOf, hbo⟩ := hr; have HBo := Lib.hid (bel_trans HBp.out hbo); have HDO := Lib.hid (And.intro hDl (And.intro hOl (And.intro hDk (And.intro hOk (And.intro hOn (And.intro hDf hOf)))))); have hSo := (HGX.out wo HBo.out).1; have r0 := (HGX.out wo HBo.out).2.2.1.cell (show p * 2 < n * 2 by omega); have r1 := (HGX.out wo HBo.out).2.2.1.cell (show p * 2 + 1 < n * 2 by omega); have f0 := (HGX.out wo HBo.out).2.2.1.frozen (p * 2); have f1 := (HGX.out wo HBo.out).2.2.1.frozen (p * 2 + 1); clear hDl hOl hDk hOk hDn hOn hDf hOf hbo)))
      all_goals
        clear r0 r1 f0 f1 hS0 hSp hSo
        have hIo := (HGX.out wo HBo.out).2
        have hfar : ∀ x, D.a = some x ∨ O.a = some x → w.heap.size + 2 ≤ x.block := fun x hx => by
          have h1 : wp.heap.size ≤ x.block := by
            rcases hx with hx | hx
            · exact HDO.out.2.2.2.2.2.1 x hx
            · exact HDO.out.2.2.2.2.2.2 x hx
          have h2 := HBp.out.size
          have h3 := HIk.out.2.1.lt
          omega
        have hne : w.heap.size ≠ w.heap.size + 1 := by omega
        have key : ∀ y, w.heap.size + 2 ≤ y → ((wo.setCell ⟨w.heap.size + 1, p * 2, none⟩ (.slice D.a D.n D.c)).setCell ⟨w.heap.size + 1, p * 2 + 1, none⟩ (.slice O.a O.n O.c)).heap[y]? = wo.heap[y]? := fun y hy =>
          (heap_setCell_other _ _ y _ (fun e => by have e' : y = w.heap.size + 1 := e; omega)).trans (heap_setCell_other _ _ y _ (fun e => by have e' : y = w.heap.size + 1 := e; omega))
        have hfin : LayRet n p sz (hdrOf q.h row seg) L w (.returned (.slice (some ⟨w.heap.size + 1, 0, none⟩) n n)) ((wo.setCell ⟨w.heap.size + 1, p * 2, none⟩ (.slice D.a D.n D.c)).setCell ⟨w.heap.size + 1, p * 2 + 1, none⟩ (.slice O.a O.n O.c)) := by
          have hCS := (hIo.2.2.1.set (c := w.heap.size + 1) (by omega) (p * 2) (.slice D.a D.n D.c)).set (c := w.heap.size + 1) (by omega) (p * 2 + 1) (.slice O.a O.n O.c)
          refine ⟨w.heap.size + 1, n, G, ⟨D, O⟩, rfl, ((hIo.2.1.set (p * 2) D.v).set (p * 2 + 1) O.v).congr fun j _ => onC_par p G PG.nil ⟨D, O⟩ j, by rw [HGL.out]; exact hmn, hIo.2.2.2.2, HDO.out.1, HDO.out.2.1, ?_, HDO.out.2.2.2.2.1, fun g hg => ?_, by omega, ((hIo.1.set hne (by omega) _ _).set hne (by omega) _ _).2.2.2.2⟩
          · have h1 := HDO.out.2.2.1.1.1
            rw [HDO.out.1, xorL_len] at h1
            show D.n = sz
            rw [← h1]
            refine Nat.le_antisymm (lgL_le fun x hx => ?_) ?_
            · simp only [dsOf, List.mem_map] at hx
              obtain ⟨g, hg, rfl⟩ := hx
              rw [(hIo.2.2.1.pages g hg).1.1.1, (HGN.out g hg).1]
              exact Nat.le_refl _
            · obtain ⟨g, hg⟩ : ∃ g, g ∈ G := ⟨G[0]'(by rw [HGL.out]; omega), List.getElem_mem _⟩
              have h2 := lgL_mem (l := dsOf G) (x := g.d.l) (by simp only [dsOf, List.mem_map]; exact ⟨g, hg, rfl⟩)
              rw [(hIo.2.2.1.pages g hg).1.1.1, (HGN.out g hg).1] at h2
              exact h2
          · rcases hg with hg | rfl
            · exact ⟨hCS.pages g hg, fun x hx => by have := (hCS.apart g hg x hx).1; omega⟩
            · exact ⟨⟨HDO.out.2.2.1.at_ fun _ x hx => key _ (hfar x (.inl hx)), HDO.out.2.2.2.1.at_ fun _ x hx => key _ (hfar x (.inr hx))⟩, fun x hx => by have := hfar x hx; omega⟩
        have HFIN := Lib.hid hfin
        clear hfin key hne hfar hIo
        go_wp2
        go_ret
        have hF := HFIN.out
        rw [HQE0.out] at hF
        exact hF
end Go.Proofs.YthgcjiocelcblaaGreat

namespace Go.Proofs.YthgcjiocelcblaaGreat
open Go.RowKit Go.Deep

theorem na_program (k : Nat) (a : Addr) (w : World) : (nilAhead (k + 2) 51 (.pointer (some a)) "Program").run Tryz.prog w = .ok (some false) w := by kernel_rfl
theorem ordL_mem {n : Nat} {z : Int} {x : Nat} (h : x ∈ ordL 0 n z) : x < n := by
  unfold ordL at h
  split at h
  · rename_i hz
    rcases List.mem_cons.1 h with rfl | h
    · omega
    · have := List.mem_of_mem_eraseIdx h
      simp [rangeL] at this
      omega
  · simp [rangeL] at h
    omega
/-- What a member's page becomes. -/
def onB (p : Nat) (G : List PG) (P : PG) (m : Nat) : List Nat := (onAt p G P m).d.l ++ (onAt p G P m).o.l
/-- The members of ms that aren't dead have their pages, and all else is as it was. -/
def Wrote (s s' : RS) (seg row : Nat) (ms : List Nat) (B : Nat → List Nat) : Prop :=
  (∀ m ∈ ms, s.gone m = 0 → ∃ q, s'.F (m, seg, row) = some q ∧ q.l = B m) ∧ ∀ j, (∀ m ∈ ms, s.gone m = 0 → j ≠ (m, seg, row)) → s'.F j = s.F j
theorem wrote_nil (s : RS) (seg row : Nat) (B : Nat → List Nat) : Wrote s s seg row [] B := ⟨(fun m hm => by cases hm), fun _ _ => rfl⟩
theorem wrote_dead {s s' s'' : RS} {seg row m : Nat} {ms : List Nat} {B : Nat → List Nat} (h : Wrote s s' seg row ms B) (hg : s.gone m ≠ 0) (e : s''.F = s'.F) : Wrote s s'' seg row (ms ++ [m]) B := by
  refine ⟨fun i hi h0 => ?_, fun j hj => ?_⟩
  · rw [e]
    rcases List.mem_append.1 hi with q | q
    · exact h.1 i q h0
    · rw [List.mem_singleton.1 q] at h0; exact absurd h0 hg
  · rw [e]; exact h.2 j fun i hi h0 => hj i (List.mem_append.2 (.inl hi)) h0
theorem wrote_live {s s' s'' : RS} {seg row m : Nat} {ms : List Nat} {B : Nat → List Nat} (h : Wrote s s' seg row ms B) (hg : s.gone m = 0) (e : ∀ j, j ≠ (m, seg, row) → s''.F j = s'.F j) (he : ∃ q, s''.F (m, seg, row) = some q ∧ q.l = B m) : Wrote s s'' seg row (ms ++ [m]) B := by
  refine ⟨fun i hi h0 => ?_, fun j hj => ?_⟩
  · by_cases him : i = m
    · rw [him]; exact he
    · rw [e _ (fun c => him (congrArg Prod.fst c))]
      rcases List.mem_append.1 hi with q | q
      · exact h.1 i q h0
      · exact absurd (List.mem_singleton.1 q) him
  · rw [e j (hj m (List.mem_append.2 (.inr (List.mem_singleton.2 rfl))) hg)]
    exact h.2 j fun i hi h0 => hj i (List.mem_append.2 (.inl hi)) h0
/-- How many of them are dead. -/
def deads (s : RS) (ms : List Nat) : Nat := (ms.filter fun m => decide (s.gone m ≠ 0)).length
theorem deads_more (s : RS) (ms : List Nat) (m : Nat) : deads s (ms ++ [m]) = deads s ms + if s.gone m = 0 then 0 else 1 := by
  unfold deads
  rw [List.filter_append, List.length_append]
  congr 1
  by_cases h : s.gone m = 0 <;> simp [h]
/-- What is written of a stripe. -/
structure StripeB (n p sz seg row : Nat) (L : List SP) (G : List PG) (P : PG) : Prop where
  len : G.length + 1 = n
  made : Made L sz G
  pd : P.d.l = xorL (dsOf G)
  po : P.o.l = sealB (hdrOf (L.getD 0 SP.nil).h row seg) (xorL (dsOf G)) (xorL (hsOf G))
  pn : P.d.n = sz ∧ P.o.n = 64
def WriteRet (B : Nat) (s : RS) (p seg row : Nat) (L : List SP) (w : World) (e : Ending) (w' : World) : Prop :=
  ∃ s' G P, e = .returned (.int .i64 0) ∧ Ram B s' w' ∧ RStep s w s' w' ∧ s'.ol = s.ol ++ ordL 0 s.n s.first ∧ s'.gone = s.gone ∧ Wrote s s' seg row (ordL 0 s.n s.first) (onB p G P) ∧ StripeB s.n p s.sz seg row L G P
/-- Blocks that are made later than the members aren't theirs. -/
theorem Ram.fresh {B : Nat} {s : RS} {w : World} (h : Ram B s w) {k : Nat} (hk : w.heap.size ≤ k) : ¬ s.ob k := by
  rintro (e | e | e | e)
  · have := h.rlt; omega
  · have := h.pages.lt; omega
  · have := h.goneF.lt; omega
  · have := (h.ordF.lt _ e.symm).2; omega
theorem two_same {x y z : World} {ob o1 o2 : Nat} {v1 v2 : Value} (h : y.heap[ob]? = x.heap[ob]?) (h' : z.heap[ob]? = x.heap[ob]?) (hc : z.cell? ⟨ob, o1, none⟩ = some v1 ∧ z.cell? ⟨ob, o2, none⟩ = some v2) : y.cell? ⟨ob, o1, none⟩ = some v1 ∧ y.cell? ⟨ob, o2, none⟩ = some v2 :=
  ⟨(World.cell?_of_block (w := z) (a := ⟨ob, o1, none⟩) (h.trans h'.symm)).trans hc.1, (World.cell?_of_block (w := z) (a := ⟨ob, o2, none⟩) (h.trans h'.symm)).trans hc.2⟩
section
variable {B : Nat} {s : RS} {w : World}
set_option maxRecDepth 100000 in
set_option maxHeartbeats 2000000 in
theorem write_any (h : Ram B s w) (hB : B ≤ w.heap.size) (seg row p : Nat) (a : Option Addr) (m cap : Nat) (L : List SP) (hseg : seg + 5 < s.bl) (hrow : row < s.pg) (hsz : s.sz ≤ 1000) (hp : ((p : Nat) : Int) = ParOf s.n s.pg seg row) (hpn : p < s.n)
    (hm : m = L.length) (hmn : m + 1 = s.n) (hL : PagesSP w a L) (hd : ∀ q ∈ L, q.d.n = s.sz) (hol : s.ol.length ≤ 1000) (hone : deads s (ordL 0 s.n s.first) ≤ 1) :
    Calls Tryz.prog 40 #[.iface 51 (.pointer (some ⟨s.rb, 0, none⟩)), .int .i64 (seg : Int), .int .i64 (row : Int), .slice a m cap] w (WriteRet B s p seg row L w) := by
  have hg := h.geo
  have hn16 : s.n ≤ 16 := by have := hg.2.1; omega
  have hn3 : 3 ≤ s.n := by have := hg.1; omega
  have hbl : s.bl ≤ 64 := by have := hg.2.2.2.1; omega
  have hpg : s.pg ≤ 32 := by have := hg.2.2.2.2.2.1; omega
  have HSH := Lib.hid (shape_ok h (seg : Int) (row : Int) 0 (by omega) (by omega) (by omega))
  have HFI := Lib.hid fun (x : World) (hx : Below w.heap.size w x) => fits_yes (s.n : Int) (s.bl : Int) (s.pg : Int) s.sz a m cap L x hm (hL.1.step hx) (by omega) (by omega) (by omega) hd
  have HLA := Lib.hid fun (x : World) (hx : Below w.heap.size w x) => stLay_any (s.bl : Int) (s.pg : Int) seg row s.n p s.sz a m cap L x hg hsz (by omega) (by omega) hp hpn hm hmn (hL.step hx) hd
  have HOR := Lib.hid fun (x : World) (hx : Below w.heap.size w x) => order_any (h.step hx) 0 s.n (by omega) (by omega) (by omega)
  rw [show ((0 : Nat) : Int) = 0 from rfl] at HOR
  have HH := Lib.hid fun (x : World) (hx : Below w.heap.size w x) => h.step hx
  have HFR := Lib.hid fun (k : Nat) (hk : w.heap.size ≤ k) => h.fresh hk
  have HONE := Lib.hid hone
  have HMN := Lib.hid (And.intro hm hmn)
  have HOLL := Lib.hid hol
  clear hg hL hd hp hm hmn hol hone h
  go_enter Tryz.func40, Tryz.ntmps40
  go_wp2_with fail
  ((with_reducible refine HSH.out.mono ?_))
  rintro e w1 ⟨rfl, hb1⟩
  have hbx := heap_alloc_new w1 (.cells #[.int .i64 (s.n : Int), .int .i64 (s.bl : Int), .int .i64 (s.pg : Int), .int .i64 (s.sz : Int)] 49)
  have hb2 := bel_alloc hb1 (.cells #[.int .i64 (s.n : Int), .int .i64 (s.bl : Int), .int .i64 (s.pg : Int), .int .i64 (s.sz : Int)] 49)
  go_upto_region 2 with fail
  obtain ⟨gb, hgb⟩ : ∃ x, x = w1.heap.size := ⟨_, rfl⟩
  obtain ⟨w2, hw2⟩ : ∃ x, x = w1.alloc (.cells #[.int .i64 (s.n : Int), .int .i64 (s.bl : Int), .int .i64 (s.pg : Int), .int .i64 (s.sz : Int)] 49) := ⟨_, rfl⟩
  rw [← hw2, ← hgb] at hbx
  rw [← hw2] at hb2
  rw [← hw2, ← hgb]
  have HGB : Hid (∀ x : World, Below w2.heap.size w2 x → x.cell? ⟨gb, 0, none⟩ = some (.int .i64 (s.n : Int)) ∧ x.cell? ⟨gb, 1, none⟩ = some (.int .i64 (s.bl : Int)) ∧ x.cell? ⟨gb, 2, none⟩ = some (.int .i64 (s.pg : Int)) ∧ x.cell? ⟨gb, 3, none⟩ = some (.int .i64 (s.sz : Int))) := Lib.hid fun x hx => four_at ((hx.block gb (Array.getElem?_eq_some_iff.1 hbx).1).trans hbx)
  have HB2 := Lib.hid hb2
  clear hb1 hb2 hw2 hbx hgb
  obtain ⟨g0, g1, g2, g3⟩ := HGB.out w2 (Below.refl _ _)
  go_wp2_with fail
  ((with_reducible refine (HFI.out _ HB2.out).mono ?_))
  rintro e w3 ⟨rfl, hb3⟩
  have HB23 := Lib.hid hb3
  have HB3 := Lib.hid (bel_trans HB2.out hb3)
  clear hb3 g0 g1 g2 g3
  obtain ⟨g0, g1, g2, g3⟩ := HGB.out w3 HB23.out
  go_wp2_with fail
  ((with_reducible refine (HLA.out _ HB3.out).mono ?_))
  rintro e w4 ⟨ob, oc, G, P, rfl, q1, q2, q3, q4, q5, q6, q7, q8, q9, q10⟩
  have HB24 := Lib.hid (bel_trans HB23.out q10)
  have HB4 := Lib.hid (bel_trans HB3.out q10)
  have HON4 := Lib.hid (And.intro q1 (And.intro q8 q9))
  have HST : Hid (StripeB s.n p s.sz seg row L G P) := Lib.hid ⟨q2, q3, q4, q5, q6, q7⟩
  clear q1 q2 q3 q4 q5 q6 q7 q8 q9 q10 g0 g1 g2 g3
  obtain ⟨g0, g1, g2, g3⟩ := HGB.out w4 HB24.out
  go_wp2_with fail
  ((with_reducible refine (HOR.out _ HB4.out).mono ?_))
  rintro e w5 ⟨oa, occ, rfl, q1, q2, q3⟩
  have HB5 := Lib.hid (bel_trans HB4.out q3)
  have HON5 : Hid (w5.rowIs ob 137 (s.n * 2) (onC p G P) ∧ (∀ g, g ∈ G ∨ g = P → PageOk w5 g ∧ ∀ x, g.has x → w3.heap.size ≤ x.block) ∧ w3.heap.size ≤ ob) := Lib.hid ⟨HON4.out.1.of_block (q3.block _ HON4.out.1.lt), fun g hg => ⟨(HON4.out.2.1 g hg).1.keep q3 (Nat.le_refl _), (HON4.out.2.1 g hg).2⟩, HON4.out.2.2⟩
  have HOC := Lib.hid (And.intro q1 q2)
  clear q1 q2 q3 g0 g1 g2 g3
  go_wp2_with fail
  have HRA := Lib.hid (HH.out w5 HB5.out)
  have HFR5 : Hid (∀ k, w.heap.size ≤ k → ¬ s.ob k) := Lib.hid HFR.out
  obtain ⟨OL, hOL⟩ : ∃ OL, OL = ordL 0 s.n s.first := ⟨_, rfl⟩
  have HOL := Lib.hid hOL
  have HLN : Hid (OL.length = s.n) := Lib.hid (by rw [hOL, ordL_len])
  have HLM : Hid (∀ x ∈ OL, x < s.n) := Lib.hid fun x hx => ordL_mem (by rw [← hOL]; exact hx)
  rw [← hOL] at HOC HONE
  clear hOL
  go_loopw [12, 41] (fun dv iv wr => ∃ (i : Nat) (s' : RS), i ≤ s.n ∧ iv = .int .i64 (i : Int) ∧ dv = .int .i64 (deads s (OL.take i) : Int) ∧ Ram B s' wr ∧ RStep s w5 s' wr ∧ s'.ol = s.ol ++ OL.take i ∧ s'.gone = s.gone ∧ Wrote s s' seg row (OL.take i) (onB p G P)) (fun _ iv _ => (s.n - intOf iv).toNat)
  case atStart => exact ⟨0, s, Nat.zero_le _, rfl, rfl, HRA.out, RStep.refl _ _, by simp, rfl, by rw [List.take_zero]; exact wrote_nil _ _ _ _⟩
  case round =>
    obtain ⟨i, s', hi, rfl, rfl, hR, hS, hol, hgo, hW⟩ := hrel
    have HR := Lib.hid hR
    have HS := Lib.hid hS
    have HOLI := Lib.hid (And.intro hol (And.intro hgo hW))
    have hdl : deads s (OL.take i) ≤ 1000 := Nat.le_trans (List.length_filter_le _ _) (by simp; omega)
    clear hR hS hol hgo hW
    obtain ⟨e1, e2, e3, e4, e5, e6, e7, e8⟩ := HS.out.same
    have HE := Lib.hid (And.intro e1 (And.intro e4 (And.intro e5 (And.intro e6 e7))))
    clear e1 e2 e3 e4 e5 e6 e7 e8
    by_cases hlt : i < s.n
    · have hlt' : decide (i < s.n) = true := by simpa using hlt
      obtain ⟨b0, off, hoa, hoc⟩ := HOC.out.1 (by rw [HLN.out]; omega)
      have hob : w.heap.size ≤ b0 := Nat.le_trans HB4.out.size (HOC.out.2 _ hoa)
      have hoc1 := hoc i (by rw [HLN.out]; exact hlt)
      obtain ⟨mm, hmm⟩ : ∃ mm, mm = OL.getD i 0 := ⟨_, rfl⟩
      rw [← hmm] at hoc1
      have hlo : b0 < w5.heap.size := World.block_lt_of_cell? w5 _ hoc1
      have c0 : wr.cell? ⟨b0, off + i, none⟩ = some (.int .i64 (mm : Int)) := (World.cell?_of_block (w := w5) (a := ⟨b0, off + i, none⟩) (HS.out.block b0 hlo (HFR5.out b0 hob)).2).trans hoc1
      have hmem : mm ∈ OL := by rw [hmm]; simp [List.getD, show i < OL.length by rw [HLN.out]; exact hlt]
      have hmn : mm < s.n := HLM.out mm hmem
      have HMM := Lib.hid hmm
      have hrow' : wr.rowIs ob 137 (s.n * 2) (onC p G P) := HON5.out.1.of_block (HS.out.block ob HON5.out.1.lt (HFR5.out ob (Nat.le_trans HB3.out.size HON5.out.2.2))).2
      obtain ⟨gm, hgm⟩ : ∃ gm, gm = onAt p G P mm := ⟨_, rfl⟩
      have k0 : wr.cell? ⟨ob, mm * 2, none⟩ = some (.slice gm.d.a gm.d.n gm.d.c) := by
        rw [hrow'.cell (show mm * 2 < s.n * 2 by omega), hgm]
        unfold onC
        rw [if_pos (by omega), show mm * 2 / 2 = mm by omega]
        rfl
      have k1 : wr.cell? ⟨ob, mm * 2 + 1, none⟩ = some (.slice gm.o.a gm.o.n gm.o.c) := by
        rw [hrow'.cell (show mm * 2 + 1 < s.n * 2 by omega), hgm]
        unfold onC
        rw [if_neg (by omega), show (mm * 2 + 1) / 2 = mm by omega]
        rfl
      have hgin : (gm ∈ G ∨ gm = P) ∧ gm.d.n = s.sz ∧ gm.o.n = 64 := by
        rw [hgm]
        unfold onAt
        by_cases hp : mm = p
        · rw [if_pos hp]; exact ⟨.inr rfl, HST.out.pn⟩
        · rw [if_neg hp]
          have hsl : slotOf p mm < G.length := by have := HST.out.len; unfold slotOf; split <;> omega
          have := HST.out.made (slotOf p mm) hsl
          exact ⟨.inl (by simp [List.getD, hsl]), this.2.2.1, this.2.2.2⟩
      obtain ⟨hpo, hpf⟩ := HON5.out.2.1 gm hgin.1
      have hpk : ∀ q : PS, PartOk w5 q → 0 < q.n → (∀ x, q.a = some x → w3.heap.size ≤ x.block) → PartOk wr q ∧ ∀ x, q.a = some x → ¬ s'.ob x.block := fun q q1 q2 q3 =>
        ⟨q1.at_ fun h0 x hx => (HS.out.block _ (q1.lt h0 x hx) (HFR5.out _ (Nat.le_trans HB3.out.size (q3 x hx)))).2, fun x hx => (HS.out.block _ (q1.lt q2 x hx) (HFR5.out _ (Nat.le_trans HB3.out.size (q3 x hx)))).1⟩
      have hs1 : 256 ≤ s.sz := by have := HRA.out.geo.2.2.2.2.2.2.1; omega
      obtain ⟨d1, d2⟩ := hpk gm.d hpo.1 (by rw [hgin.2.1]; omega) fun x hx => hpf x (.inl hx)
      obtain ⟨o1, o2⟩ := hpk gm.o hpo.2 (by rw [hgin.2.2]; omega) fun x hx => hpf x (.inr hx)
      have hBr : B ≤ wr.heap.size := Nat.le_trans hB (Nat.le_trans HB5.out.size HS.out.size)
      have hl' : s'.ol.length ≤ 100000 := by rw [HOLI.out.1, List.length_append, List.length_take]; have := HOLL.out; omega
      have HPL := Lib.hid fun (hz : s.gone mm = 0) => ramProg_live (HR.out.step (Below.refl _ wr).drew) hBr mm seg row (by rw [HE.out.2.1]; exact hmn) (by rw [HE.out.2.2.1]; exact hseg) (by rw [HE.out.2.2.2.1]; exact hrow) (by rw [HOLI.out.2.1]; exact hz) hl' gm.d gm.o (d1.step (Below.refl _ wr).drew) (o1.step (Below.refl _ wr).drew) (by rw [HE.out.2.2.2.2]; exact hgin.2.1) hgin.2.2 d2 o2
      have HPD := Lib.hid fun (hz : s.gone mm ≠ 0) => ramProg_dead (HR.out.step (Below.refl _ wr).drew) hBr mm seg row (by rw [HE.out.2.1]; exact hmn) (by rw [HE.out.2.2.1]; exact hseg) (by rw [HE.out.2.2.2.1]; exact hrow) (by rw [HOLI.out.2.1]; exact hz) hl' gm.d gm.o (d1.step (Below.refl _ wr).drew) (o1.step (Below.refl _ wr).drew) (by rw [HE.out.2.2.2.2]; exact hgin.2.1) hgin.2.2 d2 o2
      rw [HE.out.1, HE.out.2.2.2.2, ← hgin.2.1, show (64 : Nat) = gm.o.n from hgin.2.2.symm] at HPL HPD
      have HGM := Lib.hid hgm
      have i0 : (0 : Int) ≤ (i : Int) := by omega
      have i1 : (i : Int) < (s.n : Int) := by omega
      have j0 : (0 : Int) ≤ (mm : Int) := by omega
      have j1 : (mm : Int) < (s.n : Int) := by omega
      have tm := fun k => m_program k ⟨s.rb, 0, none⟩
      have tn := fun k => na_program k ⟨s.rb, 0, none⟩
      clear hoc hob hoc1 hlo hmm hmem hrow' hgin hpo hpf hpk d1 d2 o1 o2 hBr hl' hgm
      subst hoa
      by_cases hz : s.gone mm = 0
      · go_wp2_with fail
        have hS0 : wr.drew.cell? ⟨ob, mm * 2, none⟩ = some (.slice gm.d.a gm.d.n gm.d.c) ∧ wr.drew.cell? ⟨ob, mm * 2 + 1, none⟩ = some (.slice gm.o.a gm.o.n gm.o.c) := ⟨k0, k1⟩
        go_region_held3 (fun x => x.cell? ⟨ob, mm * 2, none⟩ = some (.slice gm.d.a gm.d.n gm.d.c) ∧ x.cell? ⟨ob, mm * 2 + 1, none⟩ = some (.slice gm.o.a gm.o.n gm.o.c)) (first | exact hS0 | exact hSx | go_keep)
          ((go_simp; go_at_call 136; ((with_reducible refine (HPL.out hz).mono ?_)); (intro e w6 hr; obtain ⟨s2, rfl, hr2, hs2, hr3⟩ := hr; have hst := HS.out.trans ((RStep.of_below (Below.refl _ wr).drew).trans hs2); have hSx : w6.cell? ⟨ob, mm * 2, none⟩ = some (.slice gm.d.a gm.d.n gm.d.c) ∧ w6.cell? ⟨ob, mm * 2 + 1, none⟩ = some (.slice gm.o.a gm.o.n gm.o.c) := (two_same (hst.block ob HON5.out.1.lt (HFR5.out ob (Nat.le_trans HB3.out.size HON5.out.2.2))).2 (HS.out.block ob HON5.out.1.lt (HFR5.out ob (Nat.le_trans HB3.out.size HON5.out.2.2))).2 ⟨k0, k1⟩); have HR2 := Lib.hid (And.intro hr2 (And.intro hst hr3)); clear hr2 hs2 hst hr3)))
        all_goals
          have ht : OL.take (i + 1) = OL.take i ++ [mm] := by rw [List.take_succ_eq_append_getElem (by rw [HLN.out]; exact hlt), HMM.out]; simp [List.getD, show i < OL.length by rw [HLN.out]; exact hlt]
          have hdm := deads_more s (OL.take i) mm
          rw [← ht, if_pos hz] at hdm
          have hfin : Ram B s2 w6 ∧ RStep s w5 s2 w6 ∧ s2.ol = s.ol ++ OL.take (i + 1) ∧ s2.gone = s.gone ∧ Wrote s s2 seg row (OL.take (i + 1)) (onB p G P) := by
            obtain ⟨a1, a2, a3, a4, a5, a6⟩ := HR2.out
            refine ⟨a1, a2, by rw [a3, HOLI.out.1, ht, List.append_assoc], a4.trans HOLI.out.2.1, ?_⟩
            rw [ht]
            exact wrote_live HOLI.out.2.2 hz a5 (by obtain ⟨q, h1, h2⟩ := a6; exact ⟨q, h1, by rw [h2, HGM.out]; rfl⟩)
          have HFIN := Lib.hid hfin
          have HDM := Lib.hid hdm
          clear hS0 hSx k0 k1 c0 ht hdm hfin
          go_wp2
          go_roundw
          case rel => exact ⟨i + 1, s2, by omega, by go_num, by rw [HDM.out]; go_num, HFIN.out⟩
          case measure => simp [intOf]; omega
      · go_wp2_with fail
        have hS0 : wr.drew.cell? ⟨ob, mm * 2, none⟩ = some (.slice gm.d.a gm.d.n gm.d.c) ∧ wr.drew.cell? ⟨ob, mm * 2 + 1, none⟩ = some (.slice gm.o.a gm.o.n gm.o.c) := ⟨k0, k1⟩
        go_region_held3 (fun x => x.cell? ⟨ob, mm * 2, none⟩ = some (.slice gm.d.a gm.d.n gm.d.c) ∧ x.cell? ⟨ob, mm * 2 + 1, none⟩ = some (.slice gm.o.a gm.o.n gm.o.c)) (first | exact hS0 | exact hSx | go_keep)
          ((go_simp; go_at_call 136; ((with_reducible refine (HPD.out hz).mono ?_)); (intro e w6 hr; obtain ⟨s2, rfl, hr2, hs2, hr3⟩ := hr; have hst := HS.out.trans ((RStep.of_below (Below.refl _ wr).drew).trans hs2); have hSx : w6.cell? ⟨ob, mm * 2, none⟩ = some (.slice gm.d.a gm.d.n gm.d.c) ∧ w6.cell? ⟨ob, mm * 2 + 1, none⟩ = some (.slice gm.o.a gm.o.n gm.o.c) := (two_same (hst.block ob HON5.out.1.lt (HFR5.out ob (Nat.le_trans HB3.out.size HON5.out.2.2))).2 (HS.out.block ob HON5.out.1.lt (HFR5.out ob (Nat.le_trans HB3.out.size HON5.out.2.2))).2 ⟨k0, k1⟩); have HR2 := Lib.hid (And.intro hr2 (And.intro hst hr3)); clear hr2 hs2 hst hr3)))
        all_goals
          have ht : OL.take (i + 1) = OL.take i ++ [mm] := by rw [List.take_succ_eq_append_getElem (by rw [HLN.out]; exact hlt), HMM.out]; simp [List.getD, show i < OL.length by rw [HLN.out]; exact hlt]
          have hdm := deads_more s (OL.take i) mm
          rw [← ht, if_neg hz] at hdm
          have hfin : Ram B s2 w6 ∧ RStep s w5 s2 w6 ∧ s2.ol = s.ol ++ OL.take (i + 1) ∧ s2.gone = s.gone ∧ Wrote s s2 seg row (OL.take (i + 1)) (onB p G P) := by
            obtain ⟨a1, a2, a3, a4, a5⟩ := HR2.out
            refine ⟨a1, a2, by rw [a3, HOLI.out.1, ht, List.append_assoc], a4.trans HOLI.out.2.1, ?_⟩
            rw [ht]
            exact wrote_dead HOLI.out.2.2 hz a5
          have HFIN := Lib.hid hfin
          have HDM := Lib.hid hdm
          clear hS0 hSx k0 k1 c0 ht hdm hfin
          go_wp2
          go_roundw
          case rel => exact ⟨i + 1, s2, by omega, by go_num, by rw [HDM.out]; go_num, HFIN.out⟩
          case measure => simp [intOf]; omega
    · have hin : i = s.n := by omega
      have hlt' : decide (i < s.n) = false := by simpa using hlt
      have htk : OL.take i = OL := List.take_of_length_le (by rw [HLN.out]; omega)
      rw [htk] at HOLI hdl ⊢
      have hdd : deads s OL ≤ 1 := HONE.out
      have q1 : decide ((1 : Int) < (deads s OL : Int)) = false := by simp; omega
      have q2 : decide (1 < deads s OL) = false := by simp; omega
      have HT := Lib.hid htk
      clear htk
      go_wp2
      go_ret
      refine ⟨s', G, P, rfl, HR.out, (RStep.of_below HB5.out).trans HS.out, ?_, HOLI.out.2.1, ?_, HST.out⟩
      · rw [← HOL.out]; exact HOLI.out.1
      · rw [← HOL.out]; exact HOLI.out.2.2
end
end Go.Proofs.YthgcjiocelcblaaGreat
