/- geom's Segments, Parity, Member, Capacity; the reference's. -/
import Derived.Test.YtallambldbhibaaGeoA
namespace Go.Proofs.Ytallambldbhibaa
open Go.RowKit

/-- A shape's box and a place's. -/
def GP (W : World) (B : Nat) (a b c d : Int) (C : Nat) (p q r : Int) (x : World) : Prop :=
  GS W B a b c d x ∧ x.cell? ⟨C, 0, none⟩ = some (.int .i64 p) ∧ x.cell? ⟨C, 1, none⟩ = some (.int .i64 q) ∧ x.cell? ⟨C, 2, none⟩ = some (.int .i64 r)
theorem GP.step {W x y : World} {B C : Nat} {a b c d p q r : Int} (h : GP W B a b c d C p q r x) (hb : Below x.heap.size x y) : GP W B a b c d C p q r y :=
  ⟨h.1.step hb, cell_step h.2.1 hb, cell_step h.2.2.1 hb, cell_step h.2.2.2 hb⟩
theorem GP.drew {W x : World} {B C : Nat} {a b c d p q r : Int} (h : GP W B a b c d C p q r x) : GP W B a b c d C p q r x.drew := h.step ((Below.refl _ x).drew)
theorem gp_new (w : World) (a b c d p q r : Int) : GP w w.heap.size a b c d (w.heap.size + 1) p q r ((w.alloc (.cells #[.int .i64 a, .int .i64 b, .int .i64 c, .int .i64 d] 54)).alloc (.cells #[.int .i64 p, .int .i64 q, .int .i64 r] 82)) := by
  obtain ⟨h0, h1, h2⟩ := three_new (w.alloc (.cells #[.int .i64 a, .int .i64 b, .int .i64 c, .int .i64 d] 54)) (.int .i64 p) (.int .i64 q) (.int .i64 r) 82
  rw [World.size_alloc] at h0 h1 h2
  exact ⟨(gs_new w a b c d).step (bel_alloc (Below.refl _ _) _), h0, h1, h2⟩
def ParOf (a c seg row : Int) : Int := (seg * c + row) % a
theorem par_eq2 (seg row c a : Int) : (seg % a * (c % a) + row) % a = ParOf a c seg row := by
  unfold ParOf; rw [Int.add_emod (seg % a * (c % a)) row a, ← Int.mul_emod, ← Int.add_emod]

theorem bel_dn {B : Nat} {w a : World} (h : Below B w a) (n : Nat) : Below B w (a.drewN n) := h.trans ⟨rfl, rfl, rfl, Nat.le_refl _, fun _ _ => rfl⟩

set_option maxRecDepth 100000 in
set_option maxHeartbeats 1600000 in
theorem parity_any (a b c d seg row : Int) (w : World) (hg : GoodG a b c d) (h0 : 0 ≤ seg) (h1 : seg ≤ 2000) (h2 : 0 ≤ row) (h3 : row ≤ 2000) :
    Calls Try.prog 110 #[.agg #[.int .i64 a, .int .i64 b, .int .i64 c, .int .i64 d], .int .i64 seg, .int .i64 row] w fun e w' => e = .returned (.int .i64 (ParOf a c seg row)) ∧ Below w.heap.size w w' := by
  obtain ⟨g1, g2, g3, g4, g5, g6, g7, g8, g9⟩ := hg
  have hS0 := gs_new w a b c d
  have e1 := Int.emod_nonneg seg (b := a) (by omega)
  have e2 := Int.emod_lt_of_pos seg (b := a) (by omega)
  have e3 := Int.emod_nonneg c (b := a) (by omega)
  have e4 := Int.emod_lt_of_pos c (b := a) (by omega)
  have e5 := Int.emod_nonneg row (b := a) (by omega)
  have e6 := Int.emod_lt_of_pos row (b := a) (by omega)
  have hm := mul_bd e1 (show seg % a ≤ 16 by omega) e3 (show c % a ≤ 16 by omega)
  have hw1 : IntKind.i64.wrap (seg % a * (c % a)) = seg % a * (c % a) := wrap_of (by omega) (by omega)
  have hw2 : IntKind.i64.wrap (seg % a * (c % a) + row % a) = seg % a * (c % a) + row % a := wrap_of (by omega) (by omega)
  have H4 := Lib.hid fun x : World => modulo_any (seg % a * (c % a) + row % a) a x (by omega) (by omega) (by omega) (by omega)
  have k : decide (a < 1) = false := by simp; omega
  clear g3 g4 g7 g8 g9 e1 e2 e3 e4 e5 e6 hm
  obtain ⟨c0, c1, c2, c3, hb0⟩ := hS0
  go_enter Try.func110, Try.ntmps110
  go_wp2
  go_quiet ((go_at_call 138; exact Calls.quiet_of_same (modulo_any _ _ _ (by omega) (by omega) (by omega) (by omega))))
  go_wp2_with fail
  ((with_reducible refine (H4.out _).mono ?_))
  rintro e w1 ⟨rfl, rfl⟩
  go_wp2
  go_ret
  exact ⟨ret_int (par_eq2 seg row c a), bel_dn hb0 _⟩

set_option maxRecDepth 100000 in
set_option maxHeartbeats 1600000 in
theorem member_lo (a b c d seg row sl : Int) (w : World) (hg : GoodG a b c d) (h0 : 0 ≤ seg) (h1 : seg ≤ 2000) (h2 : 0 ≤ row) (h3 : row ≤ 2000) (hl : sl < ParOf a c seg row) :
    Calls Try.prog 71 #[.agg #[.int .i64 a, .int .i64 b, .int .i64 c, .int .i64 d], .agg #[.int .i64 seg, .int .i64 row, .int .i64 sl]] w fun e w' => e = .returned (.int .i64 sl) ∧ Below w.heap.size w w' := by
  have HP := Lib.hid fun x : World => parity_any a b c d seg row x hg h0 h1 h2 h3
  have hS0 : GP w w.heap.size a b c d (w.heap.size + 1) seg row sl ((w.alloc (.cells #[.int .i64 a, .int .i64 b, .int .i64 c, .int .i64 d] 54)).alloc (.cells #[.int .i64 seg, .int .i64 row, .int .i64 sl] 82)).drew := (gp_new w a b c d seg row sl).drew
  have k : decide (sl < ParOf a c seg row) = true := by simpa using hl
  obtain ⟨par, hpar⟩ : ∃ par, par = ParOf a c seg row := ⟨_, rfl⟩
  rw [← hpar] at HP k
  clear hpar hl h0 h1 h2 h3 hg
  go_enter Try.func71, Try.ntmps71
  go_wp2
  go_region_held3 (fun x => (x.cell? ⟨w.heap.size, 0, none⟩ = some (.int .i64 a) ∧ x.cell? ⟨w.heap.size, 1, none⟩ = some (.int .i64 b) ∧ x.cell? ⟨w.heap.size, 2, none⟩ = some (.int .i64 c) ∧ x.cell? ⟨w.heap.size, 3, none⟩ = some (.int .i64 d) ∧ Below w.heap.size w x) ∧ x.cell? ⟨w.heap.size + 1, 0, none⟩ = some (.int .i64 seg) ∧ x.cell? ⟨w.heap.size + 1, 1, none⟩ = some (.int .i64 row) ∧ x.cell? ⟨w.heap.size + 1, 2, none⟩ = some (.int .i64 sl))
    (first | exact hS1 | exact hS0)
    (first | (go_simp; go_at_call 110; ((with_reducible refine (HP.out _).mono ?_)); (rintro e w1 ⟨rfl, hb⟩; have hS1 := hS0.step hb; clear hb)))
  all_goals
    go_wp2
    go_ret
    exact ⟨rfl, hS1.1.2.2.2.2⟩

end Go.Proofs.Ytallambldbhibaa
