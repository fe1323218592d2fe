/- geom's plain functions. -/
import Derived.Test.YtallambldbhibaaAppend
import Derived.Deep.RegionHeld3
import Derived.Deep.DeepCutAuto
namespace Go.Proofs.Ytallambldbhibaa
open Go.RowKit

def In64 (x : Int) : Prop := -9223372036854775808 ≤ x ∧ x ≤ 9223372036854775807
def In64x4 (a b c d : Int) : Prop := In64 a ∧ In64 b ∧ In64 c ∧ In64 d
def GoodG (a b c d : Int) : Prop := 3 ≤ a ∧ a ≤ 16 ∧ 16 ≤ b ∧ b ≤ 64 ∧ 4 ≤ c ∧ c ≤ 32 ∧ 256 ≤ d ∧ d ≤ 1024 ∧ d % 64 = 0
instance (a b c d : Int) : Decidable (GoodG a b c d) := by unfold GoodG; infer_instance
/-- A shape's box, and what was there ahead of it. -/
def GS (W : World) (B : Nat) (a b c d : Int) (x : World) : Prop :=
  x.cell? ⟨B, 0, none⟩ = some (.int .i64 a) ∧ x.cell? ⟨B, 1, none⟩ = some (.int .i64 b) ∧ x.cell? ⟨B, 2, none⟩ = some (.int .i64 c) ∧ x.cell? ⟨B, 3, none⟩ = some (.int .i64 d) ∧ Below W.heap.size W x
theorem cell_step {x y : World} {B o : Nat} {v : Value} (h : x.cell? ⟨B, o, none⟩ = some v) (hb : Below x.heap.size x y) : y.cell? ⟨B, o, none⟩ = some v :=
  (hb.cell (p := ⟨B, o, none⟩) (World.block_lt_of_cell? x _ h)).trans h
theorem GS.step {W x y : World} {B : Nat} {a b c d : Int} (h : GS W B a b c d x) (hb : Below x.heap.size x y) : GS W B a b c d y := by
  obtain ⟨h0, h1, h2, h3, h4⟩ := h
  exact ⟨cell_step h0 hb, cell_step h1 hb, cell_step h2 hb, cell_step h3 hb, h4.trans (hb.mono h4.size)⟩
theorem GS.drew {W x : World} {B : Nat} {a b c d : Int} (h : GS W B a b c d x) : GS W B a b c d x.drew := h.step ((Below.refl _ x).drew)
theorem four_new (w : World) (v0 v1 v2 v3 : Value) (t : TypeId) : (w.alloc (.cells #[v0, v1, v2, v3] t)).cell? ⟨w.heap.size, 0, none⟩ = some v0 ∧ (w.alloc (.cells #[v0, v1, v2, v3] t)).cell? ⟨w.heap.size, 1, none⟩ = some v1 ∧ (w.alloc (.cells #[v0, v1, v2, v3] t)).cell? ⟨w.heap.size, 2, none⟩ = some v2 ∧ (w.alloc (.cells #[v0, v1, v2, v3] t)).cell? ⟨w.heap.size, 3, none⟩ = some v3 := by
  refine ⟨?_, ?_, ?_, ?_⟩
  · rw [World.cell?_alloc_mark]; rfl
  · rw [World.cell?_alloc_mark]; rfl
  · rw [World.cell?_alloc_mark]; rfl
  · rw [World.cell?_alloc_mark]; rfl
theorem three_new (w : World) (v0 v1 v2 : Value) (t : TypeId) : (w.alloc (.cells #[v0, v1, v2] t)).cell? ⟨w.heap.size, 0, none⟩ = some v0 ∧ (w.alloc (.cells #[v0, v1, v2] t)).cell? ⟨w.heap.size, 1, none⟩ = some v1 ∧ (w.alloc (.cells #[v0, v1, v2] t)).cell? ⟨w.heap.size, 2, none⟩ = some v2 := by
  refine ⟨?_, ?_, ?_⟩
  · rw [World.cell?_alloc_mark]; rfl
  · rw [World.cell?_alloc_mark]; rfl
  · rw [World.cell?_alloc_mark]; rfl
theorem gs_new (w : World) (a b c d : Int) : GS w w.heap.size a b c d (w.alloc (.cells #[.int .i64 a, .int .i64 b, .int .i64 c, .int .i64 d] 54)) := by
  obtain ⟨h0, h1, h2, h3⟩ := four_new w (.int .i64 a) (.int .i64 b) (.int .i64 c) (.int .i64 d) 54
  exact ⟨h0, h1, h2, h3, bel_alloc (Below.refl _ w) _⟩

set_option maxHeartbeats 800000 in
theorem check_good (a b c d : Int) (w : World) (h : GoodG a b c d) : Calls Try.prog 60 #[.agg #[.int .i64 a, .int .i64 b, .int .i64 c, .int .i64 d]] w fun e w' => e = .returned (.int .i64 0) ∧ Below w.heap.size w w' := by
  obtain ⟨h1, h2, h3, h4, h5, h6, h7, h8, h9⟩ := h
  have k1 : decide (a < 3) = false := by simp; omega
  have k2 : decide (16 < a) = false := by simp; omega
  have k3 : decide (b < 16) = false := by simp; omega
  have k4 : decide (64 < b) = false := by simp; omega
  have k5 : decide (c < 4) = false := by simp; omega
  have k6 : decide (32 < c) = false := by simp; omega
  have k7 : decide (d < 256) = false := by simp; omega
  have k8 : decide (1024 < d) = false := by simp; omega
  have k9 : (d % 64 != 0) = false := by simp; omega
  have k0 : (0 : Int) ≤ d := by omega
  clear h1 h2 h3 h4 h5 h6 h7 h8 h9
  go_enter Try.func60, Try.ntmps60
  go_wp2
  go_ret
  exact ⟨rfl, bel_alloc (Below.refl _ w) _⟩

set_option maxHeartbeats 400000 in
theorem modulo_any (n y : Int) (w : World) (h0 : 0 ≤ n) (h1 : n ≤ 1000000) (h2 : 1 ≤ y) (h3 : y ≤ 1000) :
    Calls Try.prog 138 #[.int .i64 n, .int .i64 y] w fun e w' => e = .returned (.int .i64 (n % y)) ∧ w' = w := by
  have k0 : decide (n % y < 0) = false := by have := Int.emod_nonneg n (b := y) (by omega); simp; omega
  go_enter Try.func138, Try.ntmps138
  go_wp2
  go_ret
  exact ⟨rfl, rfl⟩

theorem virtual_any (a b c d : Int) (w : World) (h0 : 0 ≤ b) (h1 : b ≤ 1000) :
    Calls Try.prog 136 #[.agg #[.int .i64 a, .int .i64 b, .int .i64 c, .int .i64 d]] w fun e w' => e = .returned (.int .i64 (b - 5)) ∧ Below w.heap.size w w' := by
  go_enter Try.func136, Try.ntmps136
  go_wp2
  go_ret
  exact ⟨ret_int (by omega), bel_alloc (Below.refl _ w) _⟩

theorem width_any (a b c d : Int) (w : World) (h0 : 3 ≤ a) (h1 : a ≤ 1000) :
    Calls Try.prog 112 #[.agg #[.int .i64 a, .int .i64 b, .int .i64 c, .int .i64 d]] w fun e w' => e = .returned (.int .i64 (a - 1)) ∧ Below w.heap.size w w' := by
  have k : (if a < 2 then (2 : Int) else a) = a := by rw [if_neg (by omega)]
  go_enter Try.func112, Try.ntmps112
  go_wp2
  go_ret
  exact ⟨rfl, bel_alloc (Below.refl _ w) _⟩

theorem pairs_any (a b c d : Int) (w : World) (h0 : 3 ≤ a) (h1 : a ≤ 1000) :
    Calls Try.prog 85 #[.agg #[.int .i64 a, .int .i64 b, .int .i64 c, .int .i64 d]] w fun e w' => e = .returned (.int .i64 (a / 2)) ∧ Below w.heap.size w w' := by
  have k : (if a < 0 then (0 : Int) else a) = a := by rw [if_neg (by omega)]
  go_enter Try.func85, Try.ntmps85
  go_wp2
  go_ret
  exact ⟨rfl, bel_alloc (Below.refl _ w) _⟩

end Go.Proofs.Ytallambldbhibaa
