/- geom's plain functions. -/
import Derived.Test.YthgcjiocelcblaaGreatK00
import Derived.Deep.RegionHeld3
import Derived.Deep.DeepCutAuto
import Derived.Deep.OwnRows
import Derived.RangeFuncNested
import Derived.RangeFuncBound
import Derived.RangeFuncCalls
import Derived.RangeFuncLeaves
import Derived.Shelf.Abstract
import Derived.Shelf.RegionOpen
import Derived.OwnWalkIn
import Derived.TacticsInMore
import Derived.LoopNIn
import Derived.LoopIn
namespace Go.Proofs.YthgcjiocelcblaaGreat
open Go.RowKit

def In64 (x : Int) : Prop := -9223372036854775808 ≤ x ∧ x ≤ 9223372036854775807
def In64x4 (a b c d : Int) : Prop := In64 a ∧ In64 b ∧ In64 c ∧ In64 d
def GoodG (a b c d : Int) : Prop := 3 ≤ a ∧ a ≤ 16 ∧ 16 ≤ b ∧ b ≤ 64 ∧ 4 ≤ c ∧ c ≤ 32 ∧ 256 ≤ d ∧ d ≤ 1024 ∧ d % 64 = 0
instance (a b c d : Int) : Decidable (GoodG a b c d) := by unfold GoodG; infer_instance
/-- A shape's box, and what was there ahead of it. -/
def GS (W : World) (B : Nat) (a b c d : Int) (x : World) : Prop :=
  x.cell? ⟨B, 0, none⟩ = some (.int .i64 a) ∧ x.cell? ⟨B, 1, none⟩ = some (.int .i64 b) ∧ x.cell? ⟨B, 2, none⟩ = some (.int .i64 c) ∧ x.cell? ⟨B, 3, none⟩ = some (.int .i64 d) ∧ Below W.heap.size W x
theorem cell_step {x y : World} {B o : Nat} {v : Value} (h : x.cell? ⟨B, o, none⟩ = some v) (hb : Below x.heap.size x y) : y.cell? ⟨B, o, none⟩ = some v :=
  (hb.cell (p := ⟨B, o, none⟩) (World.block_lt_of_cell? x _ h)).trans h
theorem GS.step {W x y : World} {B : Nat} {a b c d : Int} (h : GS W B a b c d x) (hb : Below x.heap.size x y) : GS W B a b c d y := by
  obtain ⟨h0, h1, h2, h3, h4⟩ := h
  exact ⟨cell_step h0 hb, cell_step h1 hb, cell_step h2 hb, cell_step h3 hb, h4.trans (hb.mono h4.size)⟩
theorem GS.drew {W x : World} {B : Nat} {a b c d : Int} (h : GS W B a b c d x) : GS W B a b c d x.drew := h.step ((Below.refl _ x).drew)
theorem four_new (w : World) (v0 v1 v2 v3 : Value) (t : TypeId) : (w.alloc (.cells #[v0, v1, v2, v3] t)).cell? ⟨w.heap.size, 0, none⟩ = some v0 ∧ (w.alloc (.cells #[v0, v1, v2, v3] t)).cell? ⟨w.heap.size, 1, none⟩ = some v1 ∧ (w.alloc (.cells #[v0, v1, v2, v3] t)).cell? ⟨w.heap.size, 2, none⟩ = some v2 ∧ (w.alloc (.cells #[v0, v1, v2, v3] t)).cell? ⟨w.heap.size, 3, none⟩ = some v3 := by
  refine ⟨?_, ?_, ?_, ?_⟩
  · rw [World.cell?_alloc_mark]; rfl
  · rw [World.cell?_alloc_mark]; rfl
  · rw [World.cell?_alloc_mark]; rfl
  · rw [World.cell?_alloc_mark]; rfl
theorem three_new (w : World) (v0 v1 v2 : Value) (t : TypeId) : (w.alloc (.cells #[v0, v1, v2] t)).cell? ⟨w.heap.size, 0, none⟩ = some v0 ∧ (w.alloc (.cells #[v0, v1, v2] t)).cell? ⟨w.heap.size, 1, none⟩ = some v1 ∧ (w.alloc (.cells #[v0, v1, v2] t)).cell? ⟨w.heap.size, 2, none⟩ = some v2 := by
  refine ⟨?_, ?_, ?_⟩
  · rw [World.cell?_alloc_mark]; rfl
  · rw [World.cell?_alloc_mark]; rfl
  · rw [World.cell?_alloc_mark]; rfl
theorem gs_new (w : World) (a b c d : Int) : GS w w.heap.size a b c d (w.alloc (.cells #[.int .i64 a, .int .i64 b, .int .i64 c, .int .i64 d] 49)) := by
  obtain ⟨h0, h1, h2, h3⟩ := four_new w (.int .i64 a) (.int .i64 b) (.int .i64 c) (.int .i64 d) 49
  exact ⟨h0, h1, h2, h3, bel_alloc (Below.refl _ w) _⟩

set_option maxHeartbeats 800000 in
theorem check_good (a b c d : Int) (w : World) (h : GoodG a b c d) : Calls Tryz.prog 35 #[.agg #[.int .i64 a, .int .i64 b, .int .i64 c, .int .i64 d]] w fun e w' => e = .returned (.int .i64 0) ∧ Below w.heap.size w w' := by
  obtain ⟨h1, h2, h3, h4, h5, h6, h7, h8, h9⟩ := h
  have k1 : decide (a < 3) = false := by simp; omega
  have k2 : decide (16 < a) = false := by simp; omega
  have k3 : decide (b < 16) = false := by simp; omega
  have k4 : decide (64 < b) = false := by simp; omega
  have k5 : decide (c < 4) = false := by simp; omega
  have k6 : decide (32 < c) = false := by simp; omega
  have k7 : decide (d < 256) = false := by simp; omega
  have k8 : decide (1024 < d) = false := by simp; omega
  have k9 : (d % 64 != 0) = false := by simp; omega
  have k0 : (0 : Int) ≤ d := by omega
  clear h1 h2 h3 h4 h5 h6 h7 h8 h9
  go_enter Tryz.func35, Tryz.ntmps35
  go_wp2
  go_ret
  exact ⟨rfl, bel_alloc (Below.refl _ w) _⟩

set_option maxHeartbeats 400000 in
theorem modulo_any (n y : Int) (w : World) (h0 : 0 ≤ n) (h1 : n ≤ 1000000) (h2 : 1 ≤ y) (h3 : y ≤ 1000) :
    Calls Tryz.prog 94 #[.int .i64 n, .int .i64 y] w fun e w' => e = .returned (.int .i64 (n % y)) ∧ w' = w := by
  have k0 : decide (n % y < 0) = false := by have := Int.emod_nonneg n (b := y) (by omega); simp; omega
  go_enter Tryz.func94, Tryz.ntmps94
  go_wp2
  go_ret
  exact ⟨rfl, rfl⟩

theorem virtual_any (a b c d : Int) (w : World) (h0 : 0 ≤ b) (h1 : b ≤ 1000) :
    Calls Tryz.prog 87 #[.agg #[.int .i64 a, .int .i64 b, .int .i64 c, .int .i64 d]] w fun e w' => e = .returned (.int .i64 (b - 5)) ∧ Below w.heap.size w w' := by
  go_enter Tryz.func87, Tryz.ntmps87
  go_wp2
  go_ret
  exact ⟨ret_int (by omega), bel_alloc (Below.refl _ w) _⟩

theorem width_any (a b c d : Int) (w : World) (h0 : 3 ≤ a) (h1 : a ≤ 1000) :
    Calls Tryz.prog 39 #[.agg #[.int .i64 a, .int .i64 b, .int .i64 c, .int .i64 d]] w fun e w' => e = .returned (.int .i64 (a - 1)) ∧ Below w.heap.size w w' := by
  have k : (if a < 2 then (2 : Int) else a) = a := by rw [if_neg (by omega)]
  go_enter Tryz.func39, Tryz.ntmps39
  go_wp2
  go_ret
  exact ⟨rfl, bel_alloc (Below.refl _ w) _⟩

end Go.Proofs.YthgcjiocelcblaaGreat

namespace Go.Proofs.YthgcjiocelcblaaGreat
open Go.RowKit

theorem mul_bd {x y m n : Int} (h0 : 0 ≤ x) (h1 : x ≤ m) (h2 : 0 ≤ y) (h3 : y ≤ n) : 0 ≤ x * y ∧ x * y ≤ m * n :=
  ⟨Int.mul_nonneg h0 h2, Int.mul_le_mul h1 h3 h2 (Int.le_trans h0 h1)⟩
theorem wrap_of {x : Int} (h0 : -1000000000000 ≤ x) (h1 : x ≤ 1000000000000) : IntKind.i64.wrap x = x := by rw [IntKind.wrap_i64]; omega

set_option maxHeartbeats 800000 in
theorem pages_any (a b c d : Int) (w : World) (h0 : 3 ≤ a) (h1 : a ≤ 1000) (h2 : 0 ≤ c) (h3 : c ≤ 1000) :
    Calls Tryz.prog 37 #[.agg #[.int .i64 a, .int .i64 b, .int .i64 c, .int .i64 d]] w fun e w' => e = .returned (.int .i64 (c * (a - 1))) ∧ Below w.heap.size w w' := by
  have HW := Lib.hid fun x : World => width_any a b c d x h0 h1
  have hS0 := (gs_new w a b c d).drew
  have hm := mul_bd h2 h3 (show (0 : Int) ≤ a - 1 by omega) (show a - 1 ≤ 1000 by omega)
  have hwr : IntKind.i64.wrap (c * (a - 1)) = c * (a - 1) := wrap_of (by omega) (by omega)
  clear hm
  go_enter Tryz.func37, Tryz.ntmps37
  go_wp2
  go_region_held3 (fun x => x.cell? ⟨w.heap.size, 0, none⟩ = some (.int .i64 a) ∧ x.cell? ⟨w.heap.size, 1, none⟩ = some (.int .i64 b) ∧ x.cell? ⟨w.heap.size, 2, none⟩ = some (.int .i64 c) ∧ x.cell? ⟨w.heap.size, 3, none⟩ = some (.int .i64 d) ∧ Below w.heap.size w x)
    (first | exact hS1 | exact hS0)
    (first | (go_simp; go_at_call 39; ((with_reducible refine (HW.out _).mono ?_)); (rintro e w1 ⟨rfl, hb⟩; have hS1 := hS0.step hb; clear hb)))
  all_goals
    go_wp2
    go_ret
    exact ⟨rfl, hS1.2.2.2.2⟩

end Go.Proofs.YthgcjiocelcblaaGreat

namespace Go.Proofs.YthgcjiocelcblaaGreat
open Go.RowKit

/-- A shape's box and a place's. -/
def GP (W : World) (B : Nat) (a b c d : Int) (C : Nat) (p q r : Int) (x : World) : Prop :=
  GS W B a b c d x ∧ x.cell? ⟨C, 0, none⟩ = some (.int .i64 p) ∧ x.cell? ⟨C, 1, none⟩ = some (.int .i64 q) ∧ x.cell? ⟨C, 2, none⟩ = some (.int .i64 r)
theorem GP.step {W x y : World} {B C : Nat} {a b c d p q r : Int} (h : GP W B a b c d C p q r x) (hb : Below x.heap.size x y) : GP W B a b c d C p q r y :=
  ⟨h.1.step hb, cell_step h.2.1 hb, cell_step h.2.2.1 hb, cell_step h.2.2.2 hb⟩
theorem GP.drew {W x : World} {B C : Nat} {a b c d p q r : Int} (h : GP W B a b c d C p q r x) : GP W B a b c d C p q r x.drew := h.step ((Below.refl _ x).drew)
theorem gp_new (w : World) (a b c d p q r : Int) : GP w w.heap.size a b c d (w.heap.size + 1) p q r ((w.alloc (.cells #[.int .i64 a, .int .i64 b, .int .i64 c, .int .i64 d] 49)).alloc (.cells #[.int .i64 p, .int .i64 q, .int .i64 r] 130)) := by
  obtain ⟨h0, h1, h2⟩ := three_new (w.alloc (.cells #[.int .i64 a, .int .i64 b, .int .i64 c, .int .i64 d] 49)) (.int .i64 p) (.int .i64 q) (.int .i64 r) 130
  rw [World.size_alloc] at h0 h1 h2
  exact ⟨(gs_new w a b c d).step (bel_alloc (Below.refl _ _) _), h0, h1, h2⟩
def ParOf (a c seg row : Int) : Int := (seg * c + row) % a
theorem par_eq2 (seg row c a : Int) : (seg % a * (c % a) + row) % a = ParOf a c seg row := by
  unfold ParOf; rw [Int.add_emod (seg % a * (c % a)) row a, ← Int.mul_emod, ← Int.add_emod]

theorem bel_dn {B : Nat} {w a : World} (h : Below B w a) (n : Nat) : Below B w (a.drewN n) := h.trans ⟨rfl, rfl, rfl, Nat.le_refl _, fun _ _ => rfl⟩

set_option maxRecDepth 100000 in
set_option maxHeartbeats 1600000 in
theorem parity_any (a b c d seg row : Int) (w : World) (hg : GoodG a b c d) (h0 : 0 ≤ seg) (h1 : seg ≤ 2000) (h2 : 0 ≤ row) (h3 : row ≤ 2000) :
    Calls Tryz.prog 73 #[.agg #[.int .i64 a, .int .i64 b, .int .i64 c, .int .i64 d], .int .i64 seg, .int .i64 row] w fun e w' => e = .returned (.int .i64 (ParOf a c seg row)) ∧ Below w.heap.size w w' := by
  obtain ⟨g1, g2, g3, g4, g5, g6, g7, g8, g9⟩ := hg
  have hS0 := gs_new w a b c d
  have e1 := Int.emod_nonneg seg (b := a) (by omega)
  have e2 := Int.emod_lt_of_pos seg (b := a) (by omega)
  have e3 := Int.emod_nonneg c (b := a) (by omega)
  have e4 := Int.emod_lt_of_pos c (b := a) (by omega)
  have e5 := Int.emod_nonneg row (b := a) (by omega)
  have e6 := Int.emod_lt_of_pos row (b := a) (by omega)
  have hm := mul_bd e1 (show seg % a ≤ 16 by omega) e3 (show c % a ≤ 16 by omega)
  have hw1 : IntKind.i64.wrap (seg % a * (c % a)) = seg % a * (c % a) := wrap_of (by omega) (by omega)
  have hw2 : IntKind.i64.wrap (seg % a * (c % a) + row % a) = seg % a * (c % a) + row % a := wrap_of (by omega) (by omega)
  have H4 := Lib.hid fun x : World => modulo_any (seg % a * (c % a) + row % a) a x (by omega) (by omega) (by omega) (by omega)
  have k : decide (a < 1) = false := by simp; omega
  clear g3 g4 g7 g8 g9 e1 e2 e3 e4 e5 e6 hm
  obtain ⟨c0, c1, c2, c3, hb0⟩ := hS0
  go_enter Tryz.func73, Tryz.ntmps73
  go_wp2
  go_quiet ((go_at_call 94; exact Calls.quiet_of_same (modulo_any _ _ _ (by omega) (by omega) (by omega) (by omega))))
  go_wp2_with fail
  ((with_reducible refine (H4.out _).mono ?_))
  rintro e w1 ⟨rfl, rfl⟩
  go_wp2
  go_ret
  exact ⟨ret_int (par_eq2 seg row c a), bel_dn hb0 _⟩

set_option maxRecDepth 100000 in
set_option maxHeartbeats 1600000 in
theorem member_lo (a b c d seg row sl : Int) (w : World) (hg : GoodG a b c d) (h0 : 0 ≤ seg) (h1 : seg ≤ 2000) (h2 : 0 ≤ row) (h3 : row ≤ 2000) (hl : sl < ParOf a c seg row) :
    Calls Tryz.prog 71 #[.agg #[.int .i64 a, .int .i64 b, .int .i64 c, .int .i64 d], .agg #[.int .i64 seg, .int .i64 row, .int .i64 sl]] w fun e w' => e = .returned (.int .i64 sl) ∧ Below w.heap.size w w' := by
  have HP := Lib.hid fun x : World => parity_any a b c d seg row x hg h0 h1 h2 h3
  have hS0 : GP w w.heap.size a b c d (w.heap.size + 1) seg row sl ((w.alloc (.cells #[.int .i64 a, .int .i64 b, .int .i64 c, .int .i64 d] 49)).alloc (.cells #[.int .i64 seg, .int .i64 row, .int .i64 sl] 130)).drew := (gp_new w a b c d seg row sl).drew
  have k : decide (sl < ParOf a c seg row) = true := by simpa using hl
  obtain ⟨par, hpar⟩ : ∃ par, par = ParOf a c seg row := ⟨_, rfl⟩
  rw [← hpar] at HP k
  clear hpar hl h0 h1 h2 h3 hg
  go_enter Tryz.func71, Tryz.ntmps71
  go_wp2
  go_region_held3 (fun x => (x.cell? ⟨w.heap.size, 0, none⟩ = some (.int .i64 a) ∧ x.cell? ⟨w.heap.size, 1, none⟩ = some (.int .i64 b) ∧ x.cell? ⟨w.heap.size, 2, none⟩ = some (.int .i64 c) ∧ x.cell? ⟨w.heap.size, 3, none⟩ = some (.int .i64 d) ∧ Below w.heap.size w x) ∧ x.cell? ⟨w.heap.size + 1, 0, none⟩ = some (.int .i64 seg) ∧ x.cell? ⟨w.heap.size + 1, 1, none⟩ = some (.int .i64 row) ∧ x.cell? ⟨w.heap.size + 1, 2, none⟩ = some (.int .i64 sl))
    (first | exact hS1 | exact hS0)
    (first | (go_simp; go_at_call 73; ((with_reducible refine (HP.out _).mono ?_)); (rintro e w1 ⟨rfl, hb⟩; have hS1 := hS0.step hb; clear hb)))
  all_goals
    go_wp2
    go_ret
    exact ⟨rfl, hS1.1.2.2.2.2⟩

end Go.Proofs.YthgcjiocelcblaaGreat

namespace Go.Proofs.YthgcjiocelcblaaGreat
open Go.RowKit

set_option maxHeartbeats 3200000 in
theorem check_bad (a b c d : Int) (w : World) (h : ¬ GoodG a b c d) : Calls Tryz.prog 35 #[.agg #[.int .i64 a, .int .i64 b, .int .i64 c, .int .i64 d]] w fun e w' => e = .returned (.int .i64 34) ∧ Below w.heap.size w w' := by
  unfold GoodG at h
  by_cases q0 : a < 3
  · have k0 : decide (a < 3) = true := by simp; omega
    clear h q0
    go_enter Tryz.func35, Tryz.ntmps35
    go_wp2
    go_ret
    exact ⟨rfl, bel_alloc (Below.refl _ w) _⟩
  · have k0 : decide (a < 3) = false := by simp; omega
    by_cases q1 : 16 < a
    · have k1 : decide (16 < a) = true := by simp; omega
      clear h q0 q1
      go_enter Tryz.func35, Tryz.ntmps35
      go_wp2
      go_ret
      exact ⟨rfl, bel_alloc (Below.refl _ w) _⟩
    · have k1 : decide (16 < a) = false := by simp; omega
      by_cases q2 : b < 16
      · have k2 : decide (b < 16) = true := by simp; omega
        clear h q0 q1 q2
        go_enter Tryz.func35, Tryz.ntmps35
        go_wp2
        go_ret
        exact ⟨rfl, bel_alloc (Below.refl _ w) _⟩
      · have k2 : decide (b < 16) = false := by simp; omega
        by_cases q3 : 64 < b
        · have k3 : decide (64 < b) = true := by simp; omega
          clear h q0 q1 q2 q3
          go_enter Tryz.func35, Tryz.ntmps35
          go_wp2
          go_ret
          exact ⟨rfl, bel_alloc (Below.refl _ w) _⟩
        · have k3 : decide (64 < b) = false := by simp; omega
          by_cases q4 : c < 4
          · have k4 : decide (c < 4) = true := by simp; omega
            clear h q0 q1 q2 q3 q4
            go_enter Tryz.func35, Tryz.ntmps35
            go_wp2
            go_ret
            exact ⟨rfl, bel_alloc (Below.refl _ w) _⟩
          · have k4 : decide (c < 4) = false := by simp; omega
            by_cases q5 : 32 < c
            · have k5 : decide (32 < c) = true := by simp; omega
              clear h q0 q1 q2 q3 q4 q5
              go_enter Tryz.func35, Tryz.ntmps35
              go_wp2
              go_ret
              exact ⟨rfl, bel_alloc (Below.refl _ w) _⟩
            · have k5 : decide (32 < c) = false := by simp; omega
              by_cases q6 : d < 256
              · have k6 : decide (d < 256) = true := by simp; omega
                clear h q0 q1 q2 q3 q4 q5 q6
                go_enter Tryz.func35, Tryz.ntmps35
                go_wp2
                go_ret
                exact ⟨rfl, bel_alloc (Below.refl _ w) _⟩
              · have k6 : decide (d < 256) = false := by simp; omega
                by_cases q7 : 1024 < d
                · have k7 : decide (1024 < d) = true := by simp; omega
                  clear h q0 q1 q2 q3 q4 q5 q6 q7
                  go_enter Tryz.func35, Tryz.ntmps35
                  go_wp2
                  go_ret
                  exact ⟨rfl, bel_alloc (Below.refl _ w) _⟩
                · have k7 : decide (1024 < d) = false := by simp; omega
                  have k8 : (d % 64 != 0) = true := by simp; omega
                  have k9 : (0 : Int) ≤ d := by omega
                  clear h q0 q1 q2 q3 q4 q5 q6 q7
                  go_enter Tryz.func35, Tryz.ntmps35
                  go_wp2
                  go_ret
                  exact ⟨rfl, bel_alloc (Below.refl _ w) _⟩

set_option maxRecDepth 100000 in
set_option maxHeartbeats 1600000 in
theorem member_hi (a b c d seg row sl : Int) (w : World) (hg : GoodG a b c d) (h0 : 0 ≤ seg) (h1 : seg ≤ 2000) (h2 : 0 ≤ row) (h3 : row ≤ 2000) (hl : ParOf a c seg row ≤ sl) (hs0 : 0 ≤ sl) (hs : sl ≤ 2000) :
    Calls Tryz.prog 71 #[.agg #[.int .i64 a, .int .i64 b, .int .i64 c, .int .i64 d], .agg #[.int .i64 seg, .int .i64 row, .int .i64 sl]] w fun e w' => e = .returned (.int .i64 (sl + 1)) ∧ Below w.heap.size w w' := by
  have HP := Lib.hid fun x : World => parity_any a b c d seg row x hg h0 h1 h2 h3
  have hS0 : GP w w.heap.size a b c d (w.heap.size + 1) seg row sl ((w.alloc (.cells #[.int .i64 a, .int .i64 b, .int .i64 c, .int .i64 d] 49)).alloc (.cells #[.int .i64 seg, .int .i64 row, .int .i64 sl] 130)).drew := (gp_new w a b c d seg row sl).drew
  have k : decide (sl < ParOf a c seg row) = false := by simpa using hl
  obtain ⟨par, hpar⟩ : ∃ par, par = ParOf a c seg row := ⟨_, rfl⟩
  rw [← hpar] at HP k
  clear hpar hl h0 h1 h2 h3 hg
  go_enter Tryz.func71, Tryz.ntmps71
  go_wp2
  go_region_held3 (fun x => (x.cell? ⟨w.heap.size, 0, none⟩ = some (.int .i64 a) ∧ x.cell? ⟨w.heap.size, 1, none⟩ = some (.int .i64 b) ∧ x.cell? ⟨w.heap.size, 2, none⟩ = some (.int .i64 c) ∧ x.cell? ⟨w.heap.size, 3, none⟩ = some (.int .i64 d) ∧ Below w.heap.size w x) ∧ x.cell? ⟨w.heap.size + 1, 0, none⟩ = some (.int .i64 seg) ∧ x.cell? ⟨w.heap.size + 1, 1, none⟩ = some (.int .i64 row) ∧ x.cell? ⟨w.heap.size + 1, 2, none⟩ = some (.int .i64 sl))
    (first | exact hS1 | exact hS0)
    (first | (go_simp; go_at_call 73; ((with_reducible refine (HP.out _).mono ?_)); (rintro e w1 ⟨rfl, hb⟩; have hS1 := hS0.step hb; clear hb)))
  all_goals
    go_wp2
    go_ret
    exact ⟨rfl, hS1.1.2.2.2.2⟩

def HalfOf (a b c : Int) : Int := (b - 11 - 4) * (c * (a - 1)) / 2
def RoomOf (a b c d : Int) : Int := (c * (a - 1) * d - 32) / 4 - (b - 5)
def LessOf (a b c d : Int) : Int := if RoomOf a b c d < HalfOf a b c then RoomOf a b c d else HalfOf a b c
def CapOf (a b c d : Int) : Int := if LessOf a b c d < 0 then 0 else LessOf a b c d

/-- What the sums of Capacity are. -/
structure CapF (a b c d P H R M K : Int) : Prop where
  p : P = c * (a - 1)
  pb : 8 ≤ P ∧ P ≤ 480
  w1 : IntKind.i64.wrap (b - 11 - 4) = b - 11 - 4
  w2 : IntKind.i64.wrap ((b - 11 - 4) * P) = (b - 11 - 4) * P
  q1 : ((b - 11 - 4) * P).tdiv 2 = H
  q1' : (b - 11 - 4) * P / 2 = H
  n1 : 0 ≤ (b - 11 - 4) * P ∧ (b - 11 - 4) * P ≤ 30000
  w3 : IntKind.i64.wrap (P * d) = P * d
  w4 : IntKind.i64.wrap (P * d - 32) = P * d - 32
  n2 : 2016 ≤ P * d - 32 ∧ P * d - 32 ≤ 600000
  q2 : (P * d - 32).tdiv 4 = R + (b - 5)
  q2' : (P * d - 32) / 4 = R + (b - 5)
  w5 : IntKind.i64.wrap (R + (b - 5) - (b - 5)) = R
  m : (if R < H then R else H) = M
  k : (if M < 0 then 0 else M) = K
  hb : 0 ≤ H ∧ H ≤ 30000
  rb : -1000 ≤ R ∧ R ≤ 600000
  wh : IntKind.i64.wrap H = H
  wr : IntKind.i64.wrap (R + (b - 5)) = R + (b - 5)
theorem capF (a b c d : Int) (hg : GoodG a b c d) : ∃ P H R M, CapF a b c d P H R M (CapOf a b c d) := by
  obtain ⟨g1, g2, g3, g4, g5, g6, g7, g8, g9⟩ := hg
  have p0 : 4 * 2 ≤ c * (a - 1) := Int.mul_le_mul g5 (by omega) (by omega) (by omega)
  have p1 : c * (a - 1) ≤ 32 * 15 := Int.mul_le_mul g6 (by omega) (by omega) (by omega)
  obtain ⟨P, hP⟩ : ∃ P, P = c * (a - 1) := ⟨_, rfl⟩
  rw [← hP] at p0 p1
  have m1 := mul_bd (show (0 : Int) ≤ b - 11 - 4 by omega) (show b - 11 - 4 ≤ 49 by omega) (show 0 ≤ P by omega) (show P ≤ 480 by omega)
  have m2 : 8 * 256 ≤ P * d := Int.mul_le_mul (by omega) (by omega) (by omega) (by omega)
  have m3 : P * d ≤ 480 * 1024 := Int.mul_le_mul (by omega) (by omega) (by omega) (by omega)
  refine ⟨P, HalfOf a b c, RoomOf a b c d, LessOf a b c d, hP, ⟨by omega, by omega⟩, wrap_of (by omega) (by omega), wrap_of (by omega) (by omega), ?_, ?_, ⟨by omega, by omega⟩, wrap_of (by omega) (by omega), wrap_of (by omega) (by omega), ⟨by omega, by omega⟩, ?_, ?_, ?_, rfl, rfl, ?_, ?_, wrap_of (by unfold HalfOf; rw [← hP]; omega) (by unfold HalfOf; rw [← hP]; omega), wrap_of (by unfold RoomOf; rw [← hP]; omega) (by unfold RoomOf; rw [← hP]; omega)⟩
  · unfold HalfOf; rw [← hP]; exact Int.tdiv_eq_ediv_of_nonneg m1.1
  · unfold HalfOf; rw [← hP]
  · unfold RoomOf; rw [← hP, Int.tdiv_eq_ediv_of_nonneg (by omega)]; omega
  · unfold RoomOf; rw [← hP]; omega
  · rw [Int.add_sub_cancel]; exact wrap_of (by unfold RoomOf; rw [← hP]; omega) (by unfold RoomOf; rw [← hP]; omega)
  · unfold HalfOf; rw [← hP]; omega
  · unfold RoomOf; rw [← hP]; omega

end Go.Proofs.YthgcjiocelcblaaGreat

namespace Go.Proofs.YthgcjiocelcblaaGreat
open Go.RowKit Go.Deep

theorem info_int : (Tryz.prog.info? 3).map (fun i => (i.zero, i.size, i.bytes)) = some (some (.int .i64 0), 1, 8) := by kernel_rfl
/-- Which members have been seen, k of them. -/
def seenC (f : Nat → Nat) (k j : Nat) : Value := .int .i64 (if ∃ i, i < k ∧ f i = j then 1 else 0)
theorem seenC_zero (f : Nat → Nat) (j : Nat) : seenC f 0 j = .int .i64 0 := by unfold seenC; rw [if_neg (by rintro ⟨i, hi, _⟩; omega)]
theorem seenC_new {f : Nat → Nat} {k : Nat} (h : ∀ i, i < k → f i ≠ f k) : seenC f k (f k) = .int .i64 0 := by unfold seenC; rw [if_neg (by rintro ⟨i, hi, e⟩; exact h i hi e)]
theorem seenC_succ (f : Nat → Nat) (k j : Nat) : (if j = f k then Value.int .i64 1 else seenC f k j) = seenC f (k + 1) j := by
  unfold seenC
  by_cases h : j = f k
  · rw [if_pos h, if_pos ⟨k, by omega, h.symm⟩]
  · rw [if_neg h]
    by_cases h2 : ∃ i, i < k ∧ f i = j
    · obtain ⟨i, hi, e⟩ := h2
      rw [if_pos ⟨i, hi, e⟩, if_pos ⟨i, by omega, e⟩]
    · rw [if_neg h2, if_neg]
      rintro ⟨i, hi, e⟩
      rcases Nat.lt_or_ge i k with h3 | h3
      · exact h2 ⟨i, h3, e⟩
      · obtain rfl : i = k := by omega
        exact h e.symm
theorem cell_other {x : World} {B s o k : Nat} {v u : Value} (h : x.cell? ⟨B, k, none⟩ = some u) (hne : B ≠ s) : (x.setCell ⟨s, o, none⟩ v).cell? ⟨B, k, none⟩ = some u := by
  have e : (x.setCell ⟨s, o, none⟩ v).heap[B]? = x.heap[B]? := blk_setCell_other _ _ _ _ hne
  rw [← h]; simp only [World.cell?, e]
theorem GS.set {W x : World} {B s : Nat} {a b c d : Int} (h : GS W B a b c d x) (hne : B ≠ s) (hs : W.heap.size ≤ s) (o : Nat) (v : Value) : GS W B a b c d (x.setCell ⟨s, o, none⟩ v) := by
  obtain ⟨h0, h1, h2, h3, h4⟩ := h
  exact ⟨cell_other h0 hne, cell_other h1 hne, cell_other h2 hne, cell_other h3 hne, h4.setCell (p := ⟨s, o, none⟩) hs _⟩
theorem seen_set {x : World} {s n : Nat} {f : Nat → Nat} {k m : Nat} (h : x.rowIs s 3 n (seenC f k)) (e : ∀ j, (if j = m then Value.int .i64 1 else seenC f k j) = seenC f (k + 1) j) : (x.setCell ⟨s, m, none⟩ (.int .i64 1)).rowIs s 3 n (seenC f (k + 1)) :=
  (h.set m (.int .i64 1)).congr fun j _ => e j

end Go.Proofs.YthgcjiocelcblaaGreat

namespace Go.Proofs.YthgcjiocelcblaaGreat
open Go.RowKit Go.Shelf
attribute [local go_sem] Oper.semAt_some

theorem gb_of_below {w w' : World} (h : Below w.heap.size w w') : w.grownBy w' none := ⟨h.os, h.tape, h.output, h.size, fun b hb _ => h.block b hb⟩
/-- Which member has slot k, where p has the parity. -/
def memOf (p k : Nat) : Nat := if k < p then k else k + 1
theorem member_any (a b c d seg row : Int) (p k : Nat) (w : World) (hg : GoodG a b c d) (h0 : 0 ≤ seg) (h1 : seg ≤ 2000) (h2 : 0 ≤ row) (h3 : row ≤ 2000) (hp : ((p : Nat) : Int) = ParOf a c seg row) (hk : k ≤ 1000) :
    Calls Tryz.prog 71 #[.agg #[.int .i64 a, .int .i64 b, .int .i64 c, .int .i64 d], .agg #[.int .i64 seg, .int .i64 row, .int .i64 (k : Int)]] w fun e w' => e = .returned (.int .i64 ((memOf p k : Nat) : Int)) ∧ Below w.heap.size w w' := by
  unfold memOf
  by_cases h : k < p
  · rw [if_pos h]
    exact member_lo a b c d seg row k w hg h0 h1 h2 h3 (by omega)
  · rw [if_neg h, Int.natCast_add]
    exact member_hi a b c d seg row k w hg h0 h1 h2 h3 (by omega) (by omega) (by omega)

/-- What slots' function has captured. -/
def SlotMem (W : World) (a b c d seg row : Int) (n bm bg bs br : Nat) (x : World) : Prop :=
  GS W bg a b c d x ∧ x.cell? ⟨bm, 0, none⟩ = some (.int .i64 (n : Int)) ∧ x.cell? ⟨bs, 0, none⟩ = some (.int .i64 seg) ∧ x.cell? ⟨br, 0, none⟩ = some (.int .i64 row)
theorem SlotMem.step {W x y : World} {a b c d seg row : Int} {n bm bg bs br : Nat} (h : SlotMem W a b c d seg row n bm bg bs br x) (hb : Below x.heap.size x y) : SlotMem W a b c d seg row n bm bg bs br y :=
  ⟨h.1.step hb, cell_step h.2.1 hb, cell_step h.2.2.1 hb, cell_step h.2.2.2 hb⟩

theorem SlotMem.keep {W x y : World} {a b c d seg row : Int} {n bm bg bs br n₀ : Nat} (h : SlotMem W a b c d seg row n bm bg bs br x) (h1 : bm < n₀) (h2 : bg < n₀) (h3 : bs < n₀) (h4 : br < n₀) (hn : W.heap.size ≤ n₀) (hb : Below n₀ x y) : SlotMem W a b c d seg row n bm bg bs br y := by
  obtain ⟨⟨q0, q1, q2, q3, q4⟩, q5, q6, q7⟩ := h
  exact ⟨⟨(hb.cell (p := ⟨bg, 0, none⟩) h2).trans q0, (hb.cell (p := ⟨bg, 1, none⟩) h2).trans q1, (hb.cell (p := ⟨bg, 2, none⟩) h2).trans q2, (hb.cell (p := ⟨bg, 3, none⟩) h2).trans q3, q4.trans (hb.mono hn)⟩, (hb.cell (p := ⟨bm, 0, none⟩) h1).trans q5, (hb.cell (p := ⟨bs, 0, none⟩) h3).trans q6, (hb.cell (p := ⟨br, 0, none⟩) h4).trans q7⟩
theorem abides_mono {β : Type} {B B' : Nat} {J : β → World → Prop} (h : AbidesFrom B J) (hB : B ≤ B') : AbidesFrom B' J :=
  fun s A C row hs hg hr => h s A C row hs hg fun r e => ⟨Nat.le_trans hB (hr r e).1, (hr r e).2⟩
/-- A shape's box, and two numbers'. -/
def Box3 (W : World) (B : Nat) (a b c d seg row : Int) (x : World) : Prop :=
  GS W B a b c d x ∧ x.cell? ⟨B + 1, 0, none⟩ = some (.int .i64 seg) ∧ x.cell? ⟨B + 2, 0, none⟩ = some (.int .i64 row)
theorem box3_step {W : World} {B : Nat} {a b c d seg row : Int} {x y : World} (h : Box3 W B a b c d seg row x) (hb : Below x.heap.size x y) : Box3 W B a b c d seg row y :=
  ⟨h.1.step hb, cell_step h.2.1 hb, cell_step h.2.2 hb⟩
theorem box3_new (w : World) (a b c d seg row : Int) : Box3 w w.heap.size a b c d seg row (((w.alloc (.cells #[.int .i64 a, .int .i64 b, .int .i64 c, .int .i64 d] 49)).alloc (.cells #[.int .i64 seg] 3)).alloc (.cells #[.int .i64 row] 3)) := by
  refine ⟨((gs_new w a b c d).step (bel_alloc (Below.refl _ _) _)).step (bel_alloc (Below.refl _ _) _), cell_step (cell_new1_at (by simp)) (bel_alloc (Below.refl _ _) _), cell_new1_at (by simp)⟩

/-- What has come when k rounds are over. -/
def upto {α : Type} (f : Nat → α) (k : Nat) : List α := (List.range k).map f
theorem upto_succ {α : Type} (f : Nat → α) (k : Nat) : upto f (k + 1) = upto f k ++ [f k] := by simp [upto, List.range_succ]
theorem upto_length {α : Type} (f : Nat → α) (k : Nat) : (upto f k).length = k := by simp [upto]

theorem SlotMem.lt {W x : World} {a b c d seg row : Int} {n bm bg bs br : Nat} (h : SlotMem W a b c d seg row n bm bg bs br x) : bm < x.heap.size ∧ bg < x.heap.size ∧ bs < x.heap.size ∧ br < x.heap.size :=
  ⟨World.block_lt_of_cell? x _ h.2.1, World.block_lt_of_cell? x _ h.1.1, World.block_lt_of_cell? x _ h.2.2.1, World.block_lt_of_cell? x _ h.2.2.2⟩
/-- What Slot hands back. -/
def SlotOut (p n mm : Nat) (e : Ending) : Prop :=
  (e = .returned (.tuple #[.int .i64 0, .bool false]) ∧ ∀ k, k < n → memOf p k ≠ mm) ∨ (∃ k : Nat, k < n ∧ e = .returned (.tuple #[.int .i64 (k : Int), .bool true]) ∧ memOf p k = mm)
theorem var_new (x : World) (v : Value) (t : TypeId) : (x.alloc (.cells #[v] t)).cell? ⟨x.heap.size, 0, none⟩ = some v ∧ (x.alloc (.cells #[v] t)).frozen? ⟨x.heap.size, 0, none⟩ = false := by
  have h := World.alloc_heap_new x (.cells #[v] t)
  exact ⟨cell_new1 _ _ _, by simp only [World.frozen?, h]; rfl⟩
/-- Three variables of Slot. -/
def SlotVars (B1 B2 B3 : Nat) (mm : Nat) (x : World) : Prop :=
  x.cell? ⟨B1, 0, none⟩ = some (.int .i64 (mm : Int)) ∧ (x.cell? ⟨B2, 0, none⟩ = some (.int .i64 0) ∧ x.frozen? ⟨B2, 0, none⟩ = false) ∧ (x.cell? ⟨B3, 0, none⟩ = some (.bool false) ∧ x.frozen? ⟨B3, 0, none⟩ = false)
/-- It has found. -/
def SlotFound (B2 B3 : Nat) (k : Nat) (x : World) : Prop := x.cell? ⟨B2, 0, none⟩ = some (.int .i64 (k : Int)) ∧ x.cell? ⟨B3, 0, none⟩ = some (.bool true)
theorem frozen_step {x y : World} {B o : Nat} {v : Bool} (hlt : B < x.heap.size) (h : x.frozen? ⟨B, o, none⟩ = v) (hb : Below x.heap.size x y) : y.frozen? ⟨B, o, none⟩ = v :=
  (hb.frozen (p := ⟨B, o, none⟩) hlt).trans h
theorem SlotVars.step {B1 B2 B3 mm : Nat} {x y : World} (h : SlotVars B1 B2 B3 mm x) (hb : Below x.heap.size x y) : SlotVars B1 B2 B3 mm y := by
  obtain ⟨h1, ⟨h2, h3⟩, h4, h5⟩ := h
  exact ⟨cell_step h1 hb, ⟨cell_step h2 hb, frozen_step (World.block_lt_of_cell? x _ h2) h3 hb⟩, cell_step h4 hb, frozen_step (World.block_lt_of_cell? x _ h4) h5 hb⟩
theorem slotVars_new (w : World) (o : Obj) (mm : Nat) : SlotVars (w.heap.size + 1) (w.heap.size + 1 + 1) (w.heap.size + 1 + 1 + 1) mm ((((w.alloc o).alloc (.cells #[.int .i64 (mm : Int)] 3)).alloc (.cells #[.int .i64 0] 3)).alloc (.cells #[.bool false] 4)) := by
  have h1 := var_new (w.alloc o) (.int .i64 (mm : Int)) 3
  have h2 := var_new ((w.alloc o).alloc (.cells #[.int .i64 (mm : Int)] 3)) (.int .i64 0) 3
  have h3 := var_new (((w.alloc o).alloc (.cells #[.int .i64 (mm : Int)] 3)).alloc (.cells #[.int .i64 0] 3)) (.bool false) 4
  simp only [World.size_alloc] at h1 h2 h3
  exact ⟨cell_step (cell_step h1.1 (bel_alloc (Below.refl _ _) _)) (bel_alloc (Below.refl _ _) _), ⟨cell_step h2.1 (bel_alloc (Below.refl _ _) _), frozen_step (World.block_lt_of_cell? _ _ h2.1) h2.2 (bel_alloc (Below.refl _ _) _)⟩, h3.1, h3.2⟩

end Go.Proofs.YthgcjiocelcblaaGreat

namespace Go.Proofs.YthgcjiocelcblaaGreat
open Go.RowKit Go.Deep

theorem ownsRow_below {B : Nat} {w w' : World} {e : TypeId} {size : Nat} {v : Value} {n : Nat} {xs : List Value} (h : w.ownsRow B e size v n xs) (hb : Below w.heap.size w w') : w'.ownsRow B e size v n xs :=
  h.kept (gb_of_below hb) (by cases hv : v.ownBlock <;> simp)
theorem GS.grown {W x y : World} {B : Nat} {a b c d : Int} {row : Option Nat} (h : GS W B a b c d x) (hr : ∀ q, row = some q → B < q) (hg : x.grownBy y row) (hB : W.heap.size ≤ B := by omega) : GS W B a b c d y := by
  obtain ⟨h0, h1, h2, h3, h4⟩ := h
  have hne : some B ≠ row := fun e => by have := hr B e.symm; omega
  exact ⟨hg.cell h0 hne, hg.cell h1 hne, hg.cell h2 hne, hg.cell h3 hne, h4.grown hg h4.size (fun k e => by have := hr k e; omega)⟩
/-- The first k members but p. -/
def memsTo (p k : Nat) : List Nat := (List.range k).filter (· ≠ p)
theorem memsTo_succ (p k : Nat) : memsTo p (k + 1) = memsTo p k ++ (if k = p then [] else [k]) := by
  unfold memsTo
  rw [List.range_succ, List.filter_append]
  by_cases h : k = p <;> simp [h]
theorem memsTo_le (p k : Nat) : (memsTo p k).length ≤ k := by
  unfold memsTo
  have := List.length_filter_le (fun x : Nat => decide (x ≠ p)) (List.range k)
  simpa using this
theorem memsTo_low (p k : Nat) (h : k ≤ p) : memsTo p k = List.range k := by
  unfold memsTo
  rw [List.filter_eq_self]
  intro x hx
  have := List.mem_range.1 hx
  simp; omega
theorem memsTo_all (p k : Nat) : memsTo p k = upto (memOf p) (if k ≤ p then k else k - 1) := by
  induction k with
  | zero => simp [memsTo, upto]
  | succ k ih =>
    rw [memsTo_succ, ih]
    by_cases h : k = p
    · subst h
      rw [if_pos rfl, if_pos (Nat.le_refl _), if_neg (by omega), List.append_nil, Nat.add_sub_cancel]
    · rw [if_neg h]
      by_cases h2 : k < p
      · rw [if_pos (by omega), if_pos (by omega), upto_succ]
        unfold memOf; rw [if_pos h2]
      · rw [if_neg (by omega), if_neg (by omega), show k + 1 - 1 = k - 1 + 1 by omega, upto_succ]
        unfold memOf; rw [if_neg (by omega), show k - 1 + 1 = k by omega]
theorem memsTo_end (p n : Nat) (h : p ≤ n) : memsTo p (n + 1) = upto (memOf p) n := by rw [memsTo_all, if_neg (by omega), Nat.add_sub_cancel]

def vals (l : List Nat) : List Value := l.map fun (x : Nat) => Value.int .i64 (x : Int)
theorem info_int2 : (Tryz.prog.info? 3).map (fun i => (i.zero, i.size, i.bytes)) = some (some (.int .i64 0), 1, 8) := by kernel_rfl
theorem wpList_appI {w : World} {ops : Array Oper} {rest : List Oper} {o : Oper} {a : Act} {Q : Exit → Act → World → Prop} (hgd : o.guard = none) (s x : Operand)
    (ho : o.op = .call { callee := .builtin .append, args := #[s, x], argTypes := #[56, 56] })
    (B : Nat) (sv : Value) (xs : List Nat) (hs : a.eval s = sv) (hown : w.ownsRow B 3 1 sv xs.length (vals xs)) (ad : Addr) (y c : Nat) (hx : a.eval x = .slice (some ad) 1 c)
    (hc : w.cell? ad = some (.int .i64 (y : Int))) (hB : B ≤ w.heap.size) (hlen : xs.length ≤ 1000000)
    (h : ∀ v' w', w'.ownsRow B 3 1 v' (xs ++ [y]).length (vals (xs ++ [y])) → w.grownBy w' sv.ownBlock → (v'.ownBlock = sv.ownBlock ∨ v'.ownBlock = some w.heap.size) → wpList Tryz.prog ops Q rest (a.put o.dst v') w') : wpList Tryz.prog ops Q (o :: rest) a w := by
  obtain ⟨i0, hi, hz0, hz1, hz2⟩ := info_parts info_int2
  refine wpList_append_own_at w hgd s x 56 ho B 3 i0 (.int .i64 0) 1 8 Tryz.underlying56 hi hz0 hz1 hz2 rfl (by decide) sv _ _ hs hown ad 1 c (vals [y]) hx (by simp [vals]) ?_ ?_ (by unfold maxLen; omega) (by omega) hB ?_
  · intro j u hj
    have hj0 : j = 0 := by
      rcases Nat.eq_zero_or_pos j with h | h
      · exact h
      · rw [List.getElem?_eq_none (by simp [vals]; omega)] at hj; cases hj
    subst hj0
    simp [vals] at hj
    subst hj
    simpa [Addr.add] using hc
  · intro u hu
    simp [vals] at hu
    subst hu; rfl
  · intro v' w' h2 h3 _ h5
    refine h v' w' ?_ h3 h5
    have e : vals (xs ++ [y]) = vals xs ++ vals [y] := by simp [vals]
    rw [e, List.length_append]
    exact h2
/-- What Members hands back. -/
def MemsRet (p n : Nat) (w : World) (e : Ending) (w' : World) : Prop :=
  ∃ v, e = .returned v ∧ w'.ownsRow w.heap.size 3 1 v n (vals (upto (memOf p) n)) ∧ Below w.heap.size w w'
end Go.Proofs.YthgcjiocelcblaaGreat
