/- Lists of parts of the call's own; summed. -/
import Derived.Test.YtnhklomofebfaaaXorL
import Derived.Test.YtnhklomofebfaaaWriterText
namespace Go.Proofs.Ytnhklomofebfaaa
open Go.RowKit

def PS.v (p : PS) : Value := .slice p.a p.n p.c
theorem info_bytes : (Try.prog.info? 23).map (fun i => (i.zero, i.size, i.bytes)) = some (some (.slice none 0 0), 1, 24) := by kernel_rfl
/-- A slice of parts of the call's own. -/
def OwnL (B : Nat) (w : World) (sv : Value) (L : List PS) : Prop := w.ownsRow B 23 1 sv L.length (L.map PS.v)
theorem ownL_nil (B : Nat) (w : World) : OwnL B w (.slice none 0 0) [] := World.ownsRow_nil w B _ 1
theorem OwnL.below {B : Nat} {w w' : World} {sv : Value} {L : List PS} (h : OwnL B w sv L) (hb : Below w.heap.size w w') : OwnL B w' sv L :=
  h.kept (row := none) ⟨hb.os, hb.tape, hb.output, hb.size, fun b hb' _ => hb.block b hb'⟩ (by cases hv : sv.ownBlock <;> simp)
theorem OwnL.alloc {B : Nat} {w : World} {sv : Value} {L : List PS} (h : OwnL B w sv L) (o : Obj) : OwnL B (w.alloc o) sv L := h.below (bel_alloc (Below.refl _ w) o)
/-- Cells that are parts. -/
def CellsL (w : World) (a : Option Addr) (L : List PS) : Prop := 0 < L.length → ∃ b off, a = some ⟨b, off, none⟩ ∧ ∀ i, i < L.length → w.cell? ⟨b, off + i, none⟩ = some (L.getD i PS.nil).v
theorem CellsL.step {w w' : World} {a : Option Addr} {L : List PS} (h : CellsL w a L) (hb : Below w.heap.size w w') : CellsL w' a L := fun h0 => by
  obtain ⟨b, off, e, hc⟩ := h h0
  exact ⟨b, off, e, fun i hi => (hb.cell (p := ⟨b, off + i, none⟩) (World.block_lt_of_cell? w _ (hc i hi))).trans (hc i hi)⟩
theorem cellsL_own {B : Nat} {w : World} {sv : Value} {L : List PS} (h : OwnL B w sv L) : ∃ a cap, sv = .slice a L.length cap ∧ CellsL w a L ∧ L.length ≤ cap ∧ cap ≤ maxLen ∧ (a = none → cap = 0) := by
  have h' := h
  rcases h.2 with ⟨rfl, h0⟩ | ⟨g, cap, cur, rfl, _, _, hc, hm, _⟩
  · exact ⟨none, 0, by rw [h0], fun h1 => by omega, by omega, Nat.zero_le _, fun _ => rfl⟩
  · refine ⟨_, cap, rfl, fun _ => ⟨g, 0, rfl, fun i hi => ?_⟩, hc, hm, fun h => by cases h⟩
    rw [Nat.zero_add, h'.cellAt i (by omega), List.getElem?_map, List.getElem?_eq_getElem hi]
    simp [List.getD, hi]
theorem partsL_of {w : World} {a : Option Addr} {L : List PS} (h : CellsL w a L) (hp : ∀ p ∈ L, PartOk w p) : PartsL w a L :=
  ⟨fun h0 => h h0, fun i hi => hp _ (by simp [List.getD, hi])⟩
theorem partsL_nil (w : World) : PartsL w none [] := ⟨fun h => absurd h (Nat.lt_irrefl 0), fun i hi => absurd hi (Nat.not_lt_zero i)⟩
theorem nil_le (m : Nat) : ∀ p ∈ ([] : List PS), p.n ≤ m := fun _ h => absurd h (List.not_mem_nil)
theorem PartsL.cells {w : World} {a : Option Addr} {L : List PS} (h : PartsL w a L) : CellsL w a L := h.1

/-- What append onto sv leaves. -/
structure ApdL (B : Nat) (w : World) (sv : Value) (L : List PS) (sv' : Value) (w' : World) : Prop where
  own : OwnL B w' sv' L
  grown : w.grownBy w' sv.ownBlock
  where_ : sv'.ownBlock = sv.ownBlock ∨ sv'.ownBlock = some w.heap.size
  below : Below B w w'
theorem wpList_appL {w : World} {ops : Array Oper} {rest : List Oper} {o : Oper} {a : Act} {Q : Exit → Act → World → Prop} (hgd : o.guard = none) (s x : Operand)
    (ho : o.op = .call { callee := .builtin .append, args := #[s, x], argTypes := #[101, 101] })
    (B : Nat) (sv : Value) (L : List PS) (hs : a.eval s = sv) (hown : OwnL B w sv L) (xa : Option Addr) (m c : Nat) (M : List PS) (hx : a.eval x = .slice xa m c) (hm : m = M.length)
    (hr : CellsL w xa M) (hc : xa = none → c = 0) (hB : B ≤ w.heap.size) (hlen : L.length + m ≤ 1000000)
    (h : ∀ v' w', ApdL B w sv (L ++ M) v' w' → wpList Try.prog ops Q rest (a.put o.dst v') w') : wpList Try.prog ops Q (o :: rest) a w := by
  obtain ⟨i0, hi, hz0, hz1, hz2⟩ := info_parts info_bytes
  subst hm
  cases xa with
  | none =>
    have h0 : M.length = 0 := by
      rcases Nat.eq_zero_or_pos M.length with h | h
      · exact h
      · obtain ⟨_, _, h1, _⟩ := hr h
        cases h1
    obtain rfl := hc rfl
    obtain rfl : M = [] := List.eq_nil_of_length_eq_zero h0
    refine wpList_append_own_none hgd s x 101 ho B 23 i0 1 Try.underlying101 hi sv _ _ hs hown hx ?_
    refine h sv w ⟨?_, grownBy_refl _ _, .inl rfl, Below.refl _ _⟩
    rw [List.append_nil]
    exact hown
  | some ad =>
    refine wpList_append_own_at w hgd s x 101 ho B 23 i0 (.slice none 0 0) 1 24 Try.underlying101 hi hz0 hz1 hz2 rfl (by decide) sv _ _ hs hown ad M.length c (M.map PS.v) hx (by simp) ?_ ?_ (by unfold maxLen; omega) (by omega) hB ?_
    · intro j u hj
      have hjm : j < M.length := by
        rcases Nat.lt_or_ge j M.length with h | h
        · exact h
        · rw [List.getElem?_eq_none (by simp; omega)] at hj; cases hj
      obtain ⟨b, off, h1, h2⟩ := hr (by omega)
      cases h1
      have h3 := h2 j hjm
      rw [List.getElem?_map, List.getElem?_eq_getElem hjm] at hj
      simp only [Option.map_some, Option.some.injEq] at hj
      have h4 : M.getD j PS.nil = M[j] := by simp [List.getD, hjm]
      rw [h4, hj] at h3
      unfold Addr.add
      split
      · rename_i h0; subst h0; exact h3
      · exact h3
    · intro u hu
      rw [List.mem_map] at hu
      obtain ⟨y, _, rfl⟩ := hu
      rfl
    · intro v' w' h2 h3 _ h5
      refine h v' w' ⟨?_, h3, h5, (Below.refl B w).grown h3 hB (fun k hk => (hown.lt k hk).1)⟩
      unfold OwnL
      rw [List.map_append, List.length_append]; exact h2

/-- One part, laid in a block of its own ahead of an append. -/
theorem cells_one (w : World) (p : PS) : CellsL (w.alloc (.cells #[.slice p.a p.n p.c] 23)) (some ⟨w.heap.size, 0, none⟩) [p] :=
  fun _ => ⟨_, 0, rfl, fun i hi => by obtain rfl : i = 0 := by simpa using hi
                                      exact cell_new1 _ _ _⟩
theorem own_one (w : World) (p : PS) (B : Nat) (hB : B ≤ w.heap.size) : OwnL B (w.alloc (.cells #[.slice p.a p.n p.c] 23)) (.slice (some ⟨w.heap.size, 0, none⟩) 1 1) [p] :=
  ⟨by simp, .inr ⟨w.heap.size, 1, #[.slice p.a p.n p.c], rfl, hB, heap_alloc_new w _, by simp, by unfold maxLen; omega, by simp, by simp [PS.v]⟩⟩
theorem cells_two (w : World) (p q : PS) : CellsL (w.alloc (.cells #[.slice p.a p.n p.c, .slice q.a q.n q.c] 23)) (some ⟨w.heap.size, 0, none⟩) [p, q] := by
  obtain ⟨h0, h1⟩ := cell_new2 w (.slice p.a p.n p.c) (.slice q.a q.n q.c) 23
  refine fun _ => ⟨_, 0, rfl, fun i hi => ?_⟩
  rcases (show i = 0 ∨ i = 1 by simp at hi; omega) with rfl | rfl
  · exact h0
  · exact h1
theorem PartOk.step {W W' : World} {p : PS} (h : PartOk W p) (hb : Below W.heap.size W W') : PartOk W' p := h.keep hb (Nat.le_refl _)
theorem part_lit1 (w : World) (x : Nat) (hx : x < 256) : PartOk (w.alloc (.cells #[.int .u8 (x : Int)] 5)) ⟨some ⟨w.heap.size, 0, none⟩, 1, 1, [x]⟩ :=
  ⟨row_one w x hx, Nat.le_refl _, (by unfold maxLen; simp), fun h => by cases h⟩
theorem part_lit2 (w : World) (x y : Nat) (hx : x < 256) (hy : y < 256) : PartOk (w.alloc (.cells #[.int .u8 (x : Int), .int .u8 (y : Int)] 5)) ⟨some ⟨w.heap.size, 0, none⟩, 2, 2, [x, y]⟩ := by
  obtain ⟨h0, h1⟩ := cell_new2 w (.int .u8 (x : Int)) (.int .u8 (y : Int)) 5
  refine ⟨⟨rfl, fun z hz => (by simp at hz; omega), fun _ => ⟨_, 0, rfl, fun i hi => ?_⟩⟩, Nat.le_refl _, (by unfold maxLen; simp), fun h => by cases h⟩
  rcases (show i = 0 ∨ i = 1 by simp at hi; omega) with rfl | rfl
  · exact h0
  · exact h1
/-- Bytes that a callee has handed back are a part. -/
theorem part_ret {w w' : World} {bs : List Nat} {e : Ending} (h : RetOwn w bs e w') : ∃ p : PS, e = .returned (.slice p.a p.n p.c) ∧ p.l = bs ∧ p.n = bs.length ∧ PartOk w' p ∧ Below w.heap.size w w' := by
  obtain ⟨sv, rfl, ho, hb⟩ := h
  have ho' := ho
  obtain ⟨a, c, rfl, hr, hm⟩ := row_of_own ho
  rcases ho'.1.2 with ⟨e, h0⟩ | ⟨g, cap, cur, e, _, _, hc, hm2, _⟩
  · simp only [Value.slice.injEq] at e
    obtain ⟨rfl, _, rfl⟩ := e
    exact ⟨⟨none, bs.length, 0, bs⟩, rfl, rfl, rfl, ⟨hr, by simp only; omega, Nat.zero_le _, fun _ => rfl⟩, hb⟩
  · simp only [Value.slice.injEq] at e
    obtain ⟨rfl, _, rfl⟩ := e
    exact ⟨⟨_, bs.length, c, bs⟩, rfl, rfl, rfl, ⟨hr, hc, hm2, fun h => by cases h⟩, hb⟩
/-- It lies in memory of the callee's own. -/
def Far (B : Nat) (p : PS) : Prop := ∀ x, p.a = some x → B ≤ x.block
theorem part_ret' {w w' : World} {bs : List Nat} {e : Ending} (h : RetOwn w bs e w') : ∃ p : PS, e = .returned (.slice p.a p.n p.c) ∧ p.l = bs ∧ p.n = bs.length ∧ PartOk w' p ∧ Below w.heap.size w w' ∧ Far w.heap.size p := by
  have h' := h
  obtain ⟨sv, e1, ho, _⟩ := h'
  obtain ⟨p, e2, h2, h3, h4, h5⟩ := part_ret h
  refine ⟨p, e2, h2, h3, h4, h5, fun x hx => ?_⟩
  have e3 : sv = .slice p.a p.n p.c := by
    rw [e1] at e2
    simpa using e2
  exact (own_base ho x.block (by rw [e3, hx]; rfl)).1
theorem PartOk.set {x : World} {p : PS} {B C o : Nat} {v : Value} (h : PartOk x p) (hf : Far B p) (hC : C < B) : PartOk (x.setCell ⟨C, o, none⟩ v) p := by
  obtain ⟨⟨h1, h2, h3⟩, h4⟩ := h
  refine ⟨⟨h1, h2, fun h0 => ?_⟩, h4⟩
  obtain ⟨b, off, e, hc⟩ := h3 h0
  refine ⟨b, off, e, fun i hi => ?_⟩
  have hb := hf _ e
  have hne : b ≠ C := by simp only at hb; omega
  have eb : (x.setCell ⟨C, o, none⟩ v).heap[b]? = x.heap[b]? := by
    unfold World.setCell
    simp only
    rw [Array.getElem?_modify, if_neg (Ne.symm hne)]
  rw [← hc i hi]
  simp only [World.cell?, eb]

end Go.Proofs.Ytnhklomofebfaaa
