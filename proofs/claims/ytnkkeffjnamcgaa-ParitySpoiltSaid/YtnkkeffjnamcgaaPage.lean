/- Pages in memory. -/
import Derived.Test.YtnkkeffjnamcgaaParts
import Derived.Test.YtnkkeffjnamcgaaRHdr
namespace Go.Proofs.Ytnkkeffjnamcgaa
open Go.RowKit

theorem cell_st {x y : World} {B o : Nat} {v : Value} (h : x.cell? ⟨B, o, none⟩ = some v) (hb : Below x.heap.size x y) : y.cell? ⟨B, o, none⟩ = some v :=
  (hb.cell (p := ⟨B, o, none⟩) (World.block_lt_of_cell? x _ h)).trans h
/-- A page: its bytes, and those beside it. -/
structure PG where
  d : PS
  o : PS
def PG.nil : PG := ⟨PS.nil, PS.nil⟩
def PG.cells (g : PG) : List Value := [g.d.v, g.o.v]
def PageOk (W : World) (g : PG) : Prop := PartOk W g.d ∧ PartOk W g.o
/-- Cells that are pages. -/
def CellsG (w : World) (a : Option Addr) (G : List PG) : Prop := 0 < G.length → ∃ b off, a = some ⟨b, off, none⟩ ∧ ∀ i, i < G.length → w.cell? ⟨b, off + i * 2, none⟩ = some (G.getD i PG.nil).d.v ∧ w.cell? ⟨b, off + i * 2 + 1, none⟩ = some (G.getD i PG.nil).o.v
def PagesL (W : World) (a : Option Addr) (G : List PG) : Prop := CellsG W a G ∧ ∀ g ∈ G, PageOk W g
theorem PageOk.keep {W W' : World} {g : PG} {B : Nat} (h : PageOk W g) (hb : Below B W W') (hB : W.heap.size ≤ B) : PageOk W' g := ⟨h.1.keep hb hB, h.2.keep hb hB⟩
theorem CellsG.keep {W W' : World} {a : Option Addr} {G : List PG} {B : Nat} (h : CellsG W a G) (hb : Below B W W') (hB : W.heap.size ≤ B) : CellsG W' a G := fun h0 => by
  obtain ⟨b, off, e, hc⟩ := h h0
  refine ⟨b, off, e, fun i hi => ?_⟩
  obtain ⟨h1, h2⟩ := hc i hi
  have hlt := Nat.lt_of_lt_of_le (World.block_lt_of_cell? W _ h1) hB
  exact ⟨(hb.cell (p := ⟨b, off + i * 2, none⟩) hlt).trans h1, (hb.cell (p := ⟨b, off + i * 2 + 1, none⟩) hlt).trans h2⟩
theorem PagesL.keep {W W' : World} {a : Option Addr} {G : List PG} {B : Nat} (h : PagesL W a G) (hb : Below B W W') (hB : W.heap.size ≤ B) : PagesL W' a G := ⟨h.1.keep hb hB, fun g hg => (h.2 g hg).keep hb hB⟩
theorem PagesL.step {W W' : World} {a : Option Addr} {G : List PG} (h : PagesL W a G) (hb : Below W.heap.size W W') : PagesL W' a G := h.keep hb (Nat.le_refl _)
theorem PagesL.cell {W : World} {a : Option Addr} {G : List PG} (h : PagesL W a G) {k : Nat} (hk : k < G.length) : ∃ b off, a = some ⟨b, off, none⟩ ∧ W.cell? ⟨b, off + k * 2, none⟩ = some (G.getD k PG.nil).d.v ∧ W.cell? ⟨b, off + k * 2 + 1, none⟩ = some (G.getD k PG.nil).o.v := by
  obtain ⟨b, off, e, hc⟩ := h.1 (by omega)
  exact ⟨b, off, e, hc k hk⟩
theorem PagesL.at {W : World} {a : Option Addr} {G : List PG} (h : PagesL W a G) {k : Nat} (hk : k < G.length) : PageOk W (G.getD k PG.nil) := h.2 _ (by simp [List.getD, hk])
theorem pagesL_nil (w : World) : PagesL w none [] := ⟨fun h => absurd h (Nat.lt_irrefl 0), fun _ h => absurd h List.not_mem_nil⟩
/-- The first 32 bytes. -/
def PS.head (p : PS) : PS := ⟨p.a, min p.n 32, p.c, p.l.take 32⟩
theorem head_ok {W : World} {p : PS} (h : PartOk W p) : PartOk W p.head := by
  obtain ⟨⟨h1, h2, h3⟩, h4, h5, h6⟩ := h
  refine ⟨⟨?_, fun x hx => h2 x (List.mem_of_mem_take hx), fun h0 => ?_⟩, ?_, h5, h6⟩
  · simp only [PS.head, List.length_take, h1]; omega
  · simp only [PS.head] at h0 ⊢
    obtain ⟨b, off, e, hc⟩ := h3 (by omega)
    refine ⟨b, off, e, fun i hi => ?_⟩
    have hi32 : i < 32 := by omega
    rw [hc i (by omega)]
    simp [List.getD, hi32]
  · simp only [PS.head]; omega
/-- A slice of pages of the call's own. -/
def OwnG (T : TypeId) (B : Nat) (w : World) (sv : Value) (G : List PG) : Prop := w.ownsRow B T 2 sv G.length (G.flatMap PG.cells)
theorem ownG_nil (T : TypeId) (B : Nat) (w : World) : OwnG T B w (.slice none 0 0) [] := World.ownsRow_nil w B _ 2
theorem OwnG.below {T : TypeId} {B : Nat} {w w' : World} {sv : Value} {G : List PG} (h : OwnG T B w sv G) (hb : Below w.heap.size w w') : OwnG T B w' sv G :=
  h.kept (row := none) ⟨hb.os, hb.tape, hb.output, hb.size, fun b hb' _ => hb.block b hb'⟩ (by cases hv : sv.ownBlock <;> simp)
theorem OwnG.alloc {T : TypeId} {B : Nat} {w : World} {sv : Value} {G : List PG} (h : OwnG T B w sv G) (o : Obj) : OwnG T B (w.alloc o) sv G := h.below (bel_alloc (Below.refl _ w) o)
theorem flat_len (G : List PG) : (G.flatMap PG.cells).length = G.length * 2 := by
  induction G with
  | nil => rfl
  | cons g G ih => rw [List.flatMap_cons, List.length_append, ih, List.length_cons]; simp [PG.cells]; omega
theorem flat_at (G : List PG) (i : Nat) (hi : i < G.length) : (G.flatMap PG.cells)[i * 2]? = some (G.getD i PG.nil).d.v ∧ (G.flatMap PG.cells)[i * 2 + 1]? = some (G.getD i PG.nil).o.v := by
  induction G generalizing i with
  | nil => simp at hi
  | cons g G ih =>
    cases i with
    | zero => simp [PG.cells]
    | succ i =>
      have hi' : i < G.length := by simpa using hi
      obtain ⟨h1, h2⟩ := ih i hi'
      have e1 : (i + 1) * 2 = i * 2 + 2 := by omega
      rw [List.flatMap_cons, e1]
      simp only [PG.cells, List.cons_append, List.nil_append, List.getElem?_cons_succ]
      exact ⟨by simpa using h1, by simpa using h2⟩
theorem cellsG_own {T : TypeId} {B : Nat} {w : World} {sv : Value} {G : List PG} (h : OwnG T B w sv G) : ∃ a cap, sv = .slice a G.length cap ∧ CellsG w a G ∧ G.length ≤ cap ∧ cap ≤ maxLen ∧ (a = none → cap = 0) := by
  have h' := h
  rcases h.2 with ⟨rfl, h0⟩ | ⟨g, cap, cur, rfl, _, _, hc, hm, _⟩
  · exact ⟨none, 0, by rw [h0], fun h1 => by omega, by omega, Nat.zero_le _, fun _ => rfl⟩
  · refine ⟨_, cap, rfl, fun _ => ⟨g, 0, rfl, fun i hi => ?_⟩, hc, hm, fun h => by cases h⟩
    obtain ⟨h1, h2⟩ := flat_at G i hi
    rw [Nat.zero_add, h'.cellAt (i * 2) (by omega), h'.cellAt (i * 2 + 1) (by omega)]
    exact ⟨h1, h2⟩
/-- What append onto sv leaves. -/
structure ApdG (T : TypeId) (B : Nat) (w : World) (sv : Value) (G : List PG) (sv' : Value) (w' : World) : Prop where
  own : OwnG T B w' sv' G
  grown : w.grownBy w' sv.ownBlock
  where_ : sv'.ownBlock = sv.ownBlock ∨ sv'.ownBlock = some w.heap.size
  below : Below B w w'
/-- One page, laid in a block of its own, is appended. -/
theorem wpList_appG {w : World} {ops : Array Oper} {rest : List Oper} {o : Oper} {a : Act} {Q : Exit → Act → World → Prop} (T TL : TypeId) (hu : Try.prog.underlying TL = some (.slice T))
    (hinfo : (Try.prog.info? T).map (fun i => (i.zero, i.size, i.bytes)) = some (some (.agg #[.slice none 0 0, .slice none 0 0]), 2, 48)) (hgd : o.guard = none) (s x : Operand)
    (ho : o.op = .call { callee := .builtin .append, args := #[s, x], argTypes := #[TL, TL] })
    (B : Nat) (sv : Value) (G : List PG) (hs : a.eval s = sv) (hown : OwnG T B w sv G) (b : Nat) (c : Nat) (g : PG) (hx : a.eval x = .slice (some ⟨b, 0, none⟩) 1 c)
    (h0 : w.cell? ⟨b, 0, none⟩ = some g.d.v) (h1 : w.cell? ⟨b, 1, none⟩ = some g.o.v) (hB : B ≤ w.heap.size) (hlen : G.length ≤ 1000000)
    (h : ∀ v' w', ApdG T B w sv (G ++ [g]) v' w' → wpList Try.prog ops Q rest (a.put o.dst v') w') : wpList Try.prog ops Q (o :: rest) a w := by
  obtain ⟨i0, hi, hz0, hz1, hz2⟩ := info_parts hinfo
  refine wpList_append_own_at w hgd s x TL ho B T i0 _ 2 48 hu hi hz0 hz1 hz2 rfl (by decide) sv _ _ hs hown ⟨b, 0, none⟩ 1 c g.cells hx rfl ?_ ?_ (by unfold maxLen; omega) (by omega) hB ?_
  · intro j u hj
    rcases (show j = 0 ∨ j = 1 by
      rcases Nat.lt_or_ge j 2 with h | h
      · omega
      · rw [List.getElem?_eq_none (by simpa [PG.cells] using h)] at hj; cases hj) with rfl | rfl
    · simp only [PG.cells, List.getElem?_cons_zero, Option.some.injEq] at hj
      subst hj
      simpa [Addr.add] using h0
    · simp only [PG.cells, List.getElem?_cons_succ, List.getElem?_cons_zero, Option.some.injEq] at hj
      subst hj
      simpa [Addr.add] using h1
  · intro u hu
    simp only [PG.cells, List.mem_cons, List.not_mem_nil, or_false] at hu
    rcases hu with rfl | rfl <;> rfl
  · intro v' w' h2 h3 _ h5
    refine h v' w' ⟨?_, h3, h5, (Below.refl B w).grown h3 hB (fun k hk => (hown.lt k hk).1)⟩
    unfold OwnG
    rw [List.flatMap_append, List.length_append]
    simpa using h2

end Go.Proofs.Ytnkkeffjnamcgaa
