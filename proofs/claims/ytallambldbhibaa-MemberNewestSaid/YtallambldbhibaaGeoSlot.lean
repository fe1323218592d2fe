/- geom.Slot: a range over slots. -/
import Derived.Test.YtallambldbhibaaGeoC
import Derived.RangeFuncNested
import Derived.RangeFuncBound
import Derived.RangeFuncCalls
import Derived.RangeFuncLeaves
import Derived.Shelf.Abstract
import Derived.Shelf.RegionOpen
import Derived.OwnWalkIn
import Derived.TacticsInMore
import Derived.LoopNIn
import Derived.LoopIn
import Derived.Test.YtallambldbhibaaGeoS
namespace Go.Proofs.Ytallambldbhibaa
open Go.RowKit Go.Shelf
attribute [local go_sem] Oper.semAt_some

theorem gb_of_below {w w' : World} (h : Below w.heap.size w w') : w.grownBy w' none := ⟨h.os, h.tape, h.output, h.size, fun b hb _ => h.block b hb⟩
/-- Which member has slot k, where p has the parity. -/
def memOf (p k : Nat) : Nat := if k < p then k else k + 1
theorem member_any (a b c d seg row : Int) (p k : Nat) (w : World) (hg : GoodG a b c d) (h0 : 0 ≤ seg) (h1 : seg ≤ 2000) (h2 : 0 ≤ row) (h3 : row ≤ 2000) (hp : ((p : Nat) : Int) = ParOf a c seg row) (hk : k ≤ 1000) :
    Calls Try.prog 71 #[.agg #[.int .i64 a, .int .i64 b, .int .i64 c, .int .i64 d], .agg #[.int .i64 seg, .int .i64 row, .int .i64 (k : Int)]] w fun e w' => e = .returned (.int .i64 ((memOf p k : Nat) : Int)) ∧ Below w.heap.size w w' := by
  unfold memOf
  by_cases h : k < p
  · rw [if_pos h]
    exact member_lo a b c d seg row k w hg h0 h1 h2 h3 (by omega)
  · rw [if_neg h, Int.natCast_add]
    exact member_hi a b c d seg row k w hg h0 h1 h2 h3 (by omega) (by omega) (by omega)

/-- What slots' function has captured. -/
def SlotMem (W : World) (a b c d seg row : Int) (n bm bg bs br : Nat) (x : World) : Prop :=
  GS W bg a b c d x ∧ x.cell? ⟨bm, 0, none⟩ = some (.int .i64 (n : Int)) ∧ x.cell? ⟨bs, 0, none⟩ = some (.int .i64 seg) ∧ x.cell? ⟨br, 0, none⟩ = some (.int .i64 row)
theorem SlotMem.step {W x y : World} {a b c d seg row : Int} {n bm bg bs br : Nat} (h : SlotMem W a b c d seg row n bm bg bs br x) (hb : Below x.heap.size x y) : SlotMem W a b c d seg row n bm bg bs br y :=
  ⟨h.1.step hb, cell_step h.2.1 hb, cell_step h.2.2.1 hb, cell_step h.2.2.2 hb⟩

theorem SlotMem.keep {W x y : World} {a b c d seg row : Int} {n bm bg bs br n₀ : Nat} (h : SlotMem W a b c d seg row n bm bg bs br x) (h1 : bm < n₀) (h2 : bg < n₀) (h3 : bs < n₀) (h4 : br < n₀) (hn : W.heap.size ≤ n₀) (hb : Below n₀ x y) : SlotMem W a b c d seg row n bm bg bs br y := by
  obtain ⟨⟨q0, q1, q2, q3, q4⟩, q5, q6, q7⟩ := h
  exact ⟨⟨(hb.cell (p := ⟨bg, 0, none⟩) h2).trans q0, (hb.cell (p := ⟨bg, 1, none⟩) h2).trans q1, (hb.cell (p := ⟨bg, 2, none⟩) h2).trans q2, (hb.cell (p := ⟨bg, 3, none⟩) h2).trans q3, q4.trans (hb.mono hn)⟩, (hb.cell (p := ⟨bm, 0, none⟩) h1).trans q5, (hb.cell (p := ⟨bs, 0, none⟩) h3).trans q6, (hb.cell (p := ⟨br, 0, none⟩) h4).trans q7⟩
theorem abides_mono {β : Type} {B B' : Nat} {J : β → World → Prop} (h : AbidesFrom B J) (hB : B ≤ B') : AbidesFrom B' J :=
  fun s A C row hs hg hr => h s A C row hs hg fun r e => ⟨Nat.le_trans hB (hr r e).1, (hr r e).2⟩
/-- A shape's box, and two numbers'. -/
def Box3 (W : World) (B : Nat) (a b c d seg row : Int) (x : World) : Prop :=
  GS W B a b c d x ∧ x.cell? ⟨B + 1, 0, none⟩ = some (.int .i64 seg) ∧ x.cell? ⟨B + 2, 0, none⟩ = some (.int .i64 row)
theorem box3_step {W : World} {B : Nat} {a b c d seg row : Int} {x y : World} (h : Box3 W B a b c d seg row x) (hb : Below x.heap.size x y) : Box3 W B a b c d seg row y :=
  ⟨h.1.step hb, cell_step h.2.1 hb, cell_step h.2.2 hb⟩
theorem box3_new (w : World) (a b c d seg row : Int) : Box3 w w.heap.size a b c d seg row (((w.alloc (.cells #[.int .i64 a, .int .i64 b, .int .i64 c, .int .i64 d] 54)).alloc (.cells #[.int .i64 seg] 3)).alloc (.cells #[.int .i64 row] 3)) := by
  refine ⟨((gs_new w a b c d).step (bel_alloc (Below.refl _ _) _)).step (bel_alloc (Below.refl _ _) _), cell_step (cell_new1_at (by simp)) (bel_alloc (Below.refl _ _) _), cell_new1_at (by simp)⟩

/-- What has come when k rounds are over. -/
def upto {α : Type} (f : Nat → α) (k : Nat) : List α := (List.range k).map f
theorem upto_succ {α : Type} (f : Nat → α) (k : Nat) : upto f (k + 1) = upto f k ++ [f k] := by simp [upto, List.range_succ]
theorem upto_length {α : Type} (f : Nat → α) (k : Nat) : (upto f k).length = k := by simp [upto]

theorem SlotMem.lt {W x : World} {a b c d seg row : Int} {n bm bg bs br : Nat} (h : SlotMem W a b c d seg row n bm bg bs br x) : bm < x.heap.size ∧ bg < x.heap.size ∧ bs < x.heap.size ∧ br < x.heap.size :=
  ⟨World.block_lt_of_cell? x _ h.2.1, World.block_lt_of_cell? x _ h.1.1, World.block_lt_of_cell? x _ h.2.2.1, World.block_lt_of_cell? x _ h.2.2.2⟩
/-- What Slot hands back. -/
def SlotOut (p n mm : Nat) (e : Ending) : Prop :=
  (e = .returned (.tuple #[.int .i64 0, .bool false]) ∧ ∀ k, k < n → memOf p k ≠ mm) ∨ (∃ k : Nat, k < n ∧ e = .returned (.tuple #[.int .i64 (k : Int), .bool true]) ∧ memOf p k = mm)
theorem var_new (x : World) (v : Value) (t : TypeId) : (x.alloc (.cells #[v] t)).cell? ⟨x.heap.size, 0, none⟩ = some v ∧ (x.alloc (.cells #[v] t)).frozen? ⟨x.heap.size, 0, none⟩ = false := by
  have h := World.alloc_heap_new x (.cells #[v] t)
  exact ⟨cell_new1 _ _ _, by simp only [World.frozen?, h]; rfl⟩
/-- Three variables of Slot. -/
def SlotVars (B1 B2 B3 : Nat) (mm : Nat) (x : World) : Prop :=
  x.cell? ⟨B1, 0, none⟩ = some (.int .i64 (mm : Int)) ∧ (x.cell? ⟨B2, 0, none⟩ = some (.int .i64 0) ∧ x.frozen? ⟨B2, 0, none⟩ = false) ∧ (x.cell? ⟨B3, 0, none⟩ = some (.bool false) ∧ x.frozen? ⟨B3, 0, none⟩ = false)
/-- It has found. -/
def SlotFound (B2 B3 : Nat) (k : Nat) (x : World) : Prop := x.cell? ⟨B2, 0, none⟩ = some (.int .i64 (k : Int)) ∧ x.cell? ⟨B3, 0, none⟩ = some (.bool true)
theorem frozen_step {x y : World} {B o : Nat} {v : Bool} (hlt : B < x.heap.size) (h : x.frozen? ⟨B, o, none⟩ = v) (hb : Below x.heap.size x y) : y.frozen? ⟨B, o, none⟩ = v :=
  (hb.frozen (p := ⟨B, o, none⟩) hlt).trans h
theorem SlotVars.step {B1 B2 B3 mm : Nat} {x y : World} (h : SlotVars B1 B2 B3 mm x) (hb : Below x.heap.size x y) : SlotVars B1 B2 B3 mm y := by
  obtain ⟨h1, ⟨h2, h3⟩, h4, h5⟩ := h
  exact ⟨cell_step h1 hb, ⟨cell_step h2 hb, frozen_step (World.block_lt_of_cell? x _ h2) h3 hb⟩, cell_step h4 hb, frozen_step (World.block_lt_of_cell? x _ h4) h5 hb⟩
theorem slotVars_new (w : World) (o : Obj) (mm : Nat) : SlotVars (w.heap.size + 1) (w.heap.size + 1 + 1) (w.heap.size + 1 + 1 + 1) mm ((((w.alloc o).alloc (.cells #[.int .i64 (mm : Int)] 3)).alloc (.cells #[.int .i64 0] 3)).alloc (.cells #[.bool false] 4)) := by
  have h1 := var_new (w.alloc o) (.int .i64 (mm : Int)) 3
  have h2 := var_new ((w.alloc o).alloc (.cells #[.int .i64 (mm : Int)] 3)) (.int .i64 0) 3
  have h3 := var_new (((w.alloc o).alloc (.cells #[.int .i64 (mm : Int)] 3)).alloc (.cells #[.int .i64 0] 3)) (.bool false) 4
  simp only [World.size_alloc] at h1 h2 h3
  exact ⟨cell_step (cell_step h1.1 (bel_alloc (Below.refl _ _) _)) (bel_alloc (Below.refl _ _) _), ⟨cell_step h2.1 (bel_alloc (Below.refl _ _) _), frozen_step (World.block_lt_of_cell? _ _ h2.1) h2.2 (bel_alloc (Below.refl _ _) _)⟩, h3.1, h3.2⟩

end Go.Proofs.Ytallambldbhibaa
