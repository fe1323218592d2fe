/- InodeDecodes: plain facts. -/
import Derived.Test.YtnnaijeapapehaaInDs
import Derived.Deep.DeepCutAuto
namespace Go.Proofs.Ytnnaijeapapehaa
open Go.RowKit

theorem put13 {W : World} {b : Nat} {t : TypeId} {u0 u1 u2 u3 u4 u5 u6 u7 u8 u9 u10 u11 u12 : Value} (h : W.heap[b]? = some (.cells #[u0, u1, u2, u3, u4, u5, u6, u7, u8, u9, u10, u11, u12] t (0, 0))) (v0 v1 v2 v3 v4 v5 v6 v7 v8 v9 v10 v11 v12 : Value) :
    (((((((((((((W.setCell ⟨b, 0, none⟩ v0).setCell ⟨b, 1, none⟩ v1).setCell ⟨b, 2, none⟩ v2).setCell ⟨b, 3, none⟩ v3).setCell ⟨b, 4, none⟩ v4).setCell ⟨b, 5, none⟩ v5).setCell ⟨b, 6, none⟩ v6).setCell ⟨b, 7, none⟩ v7).setCell ⟨b, 8, none⟩ v8).setCell ⟨b, 9, none⟩ v9).setCell ⟨b, 10, none⟩ v10).setCell ⟨b, 11, none⟩ v11).setCell ⟨b, 12, none⟩ v12).heap[b]? = some (.cells #[v0, v1, v2, v3, v4, v5, v6, v7, v8, v9, v10, v11, v12] t (0, 0)) := by
  have e0 := heap_setCell_same W b 0 _ _ v0 h
  have e1 := heap_setCell_same _ b 1 _ _ v1 e0
  have e2 := heap_setCell_same _ b 2 _ _ v2 e1
  have e3 := heap_setCell_same _ b 3 _ _ v3 e2
  have e4 := heap_setCell_same _ b 4 _ _ v4 e3
  have e5 := heap_setCell_same _ b 5 _ _ v5 e4
  have e6 := heap_setCell_same _ b 6 _ _ v6 e5
  have e7 := heap_setCell_same _ b 7 _ _ v7 e6
  have e8 := heap_setCell_same _ b 8 _ _ v8 e7
  have e9 := heap_setCell_same _ b 9 _ _ v9 e8
  have e10 := heap_setCell_same _ b 10 _ _ v10 e9
  have e11 := heap_setCell_same _ b 11 _ _ v11 e10
  have e12 := heap_setCell_same _ b 12 _ _ v12 e11
  simpa using e12
/-- A row of int, whatever the numbers. -/
def RowE (w : World) (a : Option Addr) (n : Nat) : Prop := ∀ i, i < n → ∃ (b off : Nat) (z : Int), a = some ⟨b, off, none⟩ ∧ w.cell? ⟨b, off + i, none⟩ = some (.int .i64 z)
theorem RowE.below {w x : World} {a : Option Addr} {n : Nat} (h : RowE w a n) (hb : Below w.heap.size w x) : RowE x a n := fun i hi => by
  obtain ⟨b, off, z, e, hc⟩ := h i hi
  exact ⟨b, off, z, e, cell_bel hb hc⟩
/-- InodeDecodes' case that comes in. -/
structure DOk (ba : Option Addr) (bn bc : Nat) (bs : List Nat) (n : Ino) (ta : Option Addr) (tn : Nat) (ca : Option Addr) (cn cc : Nat) (cs : List Nat) (w : World) : Prop where
  b_ : InB w ba bn bc bs
  n_ : n.Fits
  t_ : RowE w ta tn
  c_ : InB w ca cn cc cs
theorem dc16 {W : World} {b : Nat} {ba : Option Addr} {bn bc : Nat} {n : Ino} {ta : Option Addr} {tn tc : Nat} {ca : Option Addr} {cn cc : Nat} {t : TypeId} (h : W.heap[b]? = some (.cells #[.slice ba bn bc, .int .u8 (n.ki : Int), .int .u16 (n.ln : Int), .int .u32 (n.sz : Int), .int .u32 (n.d0 : Int), .int .u32 (n.d1 : Int), .int .u32 (n.d2 : Int), .int .u32 (n.d3 : Int), .int .u32 (n.d4 : Int), .int .u32 (n.d5 : Int), .int .u32 (n.d6 : Int), .int .u32 (n.d7 : Int), .int .u32 (n.si : Int), .int .u32 (n.db : Int), .slice ta tn tc, .slice ca cn cc] t (0, 0))) : W.cell? ⟨b, 0, none⟩ = some (.slice ba bn bc) ∧ W.cell? ⟨b, 1, none⟩ = some (.int .u8 (n.ki : Int)) ∧ W.cell? ⟨b, 2, none⟩ = some (.int .u16 (n.ln : Int)) ∧ W.cell? ⟨b, 3, none⟩ = some (.int .u32 (n.sz : Int)) ∧ W.cell? ⟨b, 4, none⟩ = some (.int .u32 (n.d0 : Int)) ∧ W.cell? ⟨b, 5, none⟩ = some (.int .u32 (n.d1 : Int)) ∧ W.cell? ⟨b, 6, none⟩ = some (.int .u32 (n.d2 : Int)) ∧ W.cell? ⟨b, 7, none⟩ = some (.int .u32 (n.d3 : Int)) ∧ W.cell? ⟨b, 8, none⟩ = some (.int .u32 (n.d4 : Int)) ∧ W.cell? ⟨b, 9, none⟩ = some (.int .u32 (n.d5 : Int)) ∧ W.cell? ⟨b, 10, none⟩ = some (.int .u32 (n.d6 : Int)) ∧ W.cell? ⟨b, 11, none⟩ = some (.int .u32 (n.d7 : Int)) ∧ W.cell? ⟨b, 12, none⟩ = some (.int .u32 (n.si : Int)) ∧ W.cell? ⟨b, 13, none⟩ = some (.int .u32 (n.db : Int)) ∧ W.cell? ⟨b, 14, none⟩ = some (.slice ta tn tc) ∧ W.cell? ⟨b, 15, none⟩ = some (.slice ca cn cc) := by
  simp [World.cell?, h]
theorem own_far {B b off : Nat} {w : World} {sv : Value} {l : List Nat} (h : Own B w sv l) (hb : b < B) (v : Value) : Own B (w.setCell ⟨b, off, none⟩ v) sv l := ⟨ownsRow_setCell_below (a := ⟨b, off, none⟩) h.1 hb _, h.2⟩
theorem own_far13 {B b : Nat} {w : World} {sv : Value} {l : List Nat} (h : Own B w sv l) (hb : b < B) (v0 v1 v2 v3 v4 v5 v6 v7 v8 v9 v10 v11 v12 : Value) : Own B (((((((((((((w.setCell ⟨b, 0, none⟩ v0).setCell ⟨b, 1, none⟩ v1).setCell ⟨b, 2, none⟩ v2).setCell ⟨b, 3, none⟩ v3).setCell ⟨b, 4, none⟩ v4).setCell ⟨b, 5, none⟩ v5).setCell ⟨b, 6, none⟩ v6).setCell ⟨b, 7, none⟩ v7).setCell ⟨b, 8, none⟩ v8).setCell ⟨b, 9, none⟩ v9).setCell ⟨b, 10, none⟩ v10).setCell ⟨b, 11, none⟩ v11).setCell ⟨b, 12, none⟩ v12) sv l :=
  own_far (own_far (own_far (own_far (own_far (own_far (own_far (own_far (own_far (own_far (own_far (own_far (own_far h hb _) hb _) hb _) hb _) hb _) hb _) hb _) hb _) hb _) hb _) hb _) hb _) hb _
theorem own_far4 {B b : Nat} {w : World} {sv : Value} {l : List Nat} (h : Own B w sv l) (hb : b < B) (v0 v1 v2 v3 : Value) : Own B ((((w.setCell ⟨b, 0, none⟩ v0).setCell ⟨b, 1, none⟩ v1).setCell ⟨b, 2, none⟩ v2).setCell ⟨b, 3, none⟩ v3) sv l :=
  own_far (own_far (own_far (own_far h hb _) hb _) hb _) hb _
theorem heap_far13 {w : World} {b q : Nat} (hq : q ≠ b) (v0 v1 v2 v3 v4 v5 v6 v7 v8 v9 v10 v11 v12 : Value) : (((((((((((((w.setCell ⟨b, 0, none⟩ v0).setCell ⟨b, 1, none⟩ v1).setCell ⟨b, 2, none⟩ v2).setCell ⟨b, 3, none⟩ v3).setCell ⟨b, 4, none⟩ v4).setCell ⟨b, 5, none⟩ v5).setCell ⟨b, 6, none⟩ v6).setCell ⟨b, 7, none⟩ v7).setCell ⟨b, 8, none⟩ v8).setCell ⟨b, 9, none⟩ v9).setCell ⟨b, 10, none⟩ v10).setCell ⟨b, 11, none⟩ v11).setCell ⟨b, 12, none⟩ v12).heap[q]? = w.heap[q]? := by
  rw [heap_setCell_other _ _ _ _ (fun e => hq e)]
  rw [heap_setCell_other _ _ _ _ (fun e => hq e)]
  rw [heap_setCell_other _ _ _ _ (fun e => hq e)]
  rw [heap_setCell_other _ _ _ _ (fun e => hq e)]
  rw [heap_setCell_other _ _ _ _ (fun e => hq e)]
  rw [heap_setCell_other _ _ _ _ (fun e => hq e)]
  rw [heap_setCell_other _ _ _ _ (fun e => hq e)]
  rw [heap_setCell_other _ _ _ _ (fun e => hq e)]
  rw [heap_setCell_other _ _ _ _ (fun e => hq e)]
  rw [heap_setCell_other _ _ _ _ (fun e => hq e)]
  rw [heap_setCell_other _ _ _ _ (fun e => hq e)]
  rw [heap_setCell_other _ _ _ _ (fun e => hq e)]
  rw [heap_setCell_other _ _ _ _ (fun e => hq e)]
theorem heap_far4 {w : World} {b q : Nat} (hq : q ≠ b) (v0 v1 v2 v3 : Value) : ((((w.setCell ⟨b, 0, none⟩ v0).setCell ⟨b, 1, none⟩ v1).setCell ⟨b, 2, none⟩ v2).setCell ⟨b, 3, none⟩ v3).heap[q]? = w.heap[q]? := by
  rw [heap_setCell_other _ _ _ _ (fun e => hq e)]
  rw [heap_setCell_other _ _ _ _ (fun e => hq e)]
  rw [heap_setCell_other _ _ _ _ (fun e => hq e)]
  rw [heap_setCell_other _ _ _ _ (fun e => hq e)]
theorem bel_far13 {B b : Nat} {x w : World} (h : Below B x w) (hb : B ≤ b) (v0 v1 v2 v3 v4 v5 v6 v7 v8 v9 v10 v11 v12 : Value) : Below B x (((((((((((((w.setCell ⟨b, 0, none⟩ v0).setCell ⟨b, 1, none⟩ v1).setCell ⟨b, 2, none⟩ v2).setCell ⟨b, 3, none⟩ v3).setCell ⟨b, 4, none⟩ v4).setCell ⟨b, 5, none⟩ v5).setCell ⟨b, 6, none⟩ v6).setCell ⟨b, 7, none⟩ v7).setCell ⟨b, 8, none⟩ v8).setCell ⟨b, 9, none⟩ v9).setCell ⟨b, 10, none⟩ v10).setCell ⟨b, 11, none⟩ v11).setCell ⟨b, 12, none⟩ v12) :=
  (((((((((((((h).setCell (p := ⟨b, 0, none⟩) hb _).setCell (p := ⟨b, 1, none⟩) hb _).setCell (p := ⟨b, 2, none⟩) hb _).setCell (p := ⟨b, 3, none⟩) hb _).setCell (p := ⟨b, 4, none⟩) hb _).setCell (p := ⟨b, 5, none⟩) hb _).setCell (p := ⟨b, 6, none⟩) hb _).setCell (p := ⟨b, 7, none⟩) hb _).setCell (p := ⟨b, 8, none⟩) hb _).setCell (p := ⟨b, 9, none⟩) hb _).setCell (p := ⟨b, 10, none⟩) hb _).setCell (p := ⟨b, 11, none⟩) hb _).setCell (p := ⟨b, 12, none⟩) hb _
theorem bel_far4 {B b : Nat} {x w : World} (h : Below B x w) (hb : B ≤ b) (v0 v1 v2 v3 : Value) : Below B x ((((w.setCell ⟨b, 0, none⟩ v0).setCell ⟨b, 1, none⟩ v1).setCell ⟨b, 2, none⟩ v2).setCell ⟨b, 3, none⟩ v3) :=
  ((((h).setCell (p := ⟨b, 0, none⟩) hb _).setCell (p := ⟨b, 1, none⟩) hb _).setCell (p := ⟨b, 2, none⟩) hb _).setCell (p := ⟨b, 3, none⟩) hb _
theorem row_oneD (w : World) (y : Nat) (hy : y < 256) : Row (w.alloc (.cells #[.int .u8 (y : Int)] 5)).drew (some ⟨w.heap.size, 0, none⟩) 1 [y] := by
  exact row_keepB (row_one w y hy) (Below.refl _ _).drew
theorem eql_zzn (w : World) : (binOp .neq 26 (.agg #[.int .u8 0, .int .u16 0, .int .u32 0, .int .u32 0, .int .u32 0, .int .u32 0, .int .u32 0, .int .u32 0, .int .u32 0, .int .u32 0, .int .u32 0, .int .u32 0, .int .u32 0]) (.agg #[.int .u8 0, .int .u16 0, .int .u32 0, .int .u32 0, .int .u32 0, .int .u32 0, .int .u32 0, .int .u32 0, .int .u32 0, .int .u32 0, .int .u32 0, .int .u32 0, .int .u32 0])).run Try.prog w = .ok (.bool false) w := by
  have h := (eql_ino Ino.zero Ino.zero zero_fits zero_fits w).2
  rw [show eqI Ino.zero Ino.zero = true from (eqI_iff _ _).2 rfl] at h
  exact h
end Go.Proofs.Ytnnaijeapapehaa
