/- wear: segments as data; the orders; spread. -/
import Derived.Test.YtjimgbeockfpmaaWd
import Derived.Deep.DeepCutAuto
import Derived.Deep.RegionHeld3
import Derived.Deep.RegionWith
import Derived.StillTailTactics
namespace Go.Proofs.Ytjimgbeockfpmaa
open Go.RowKit

theorem wbel_alloc {w a : World} (h : Below w.heap.size w a) (o : Obj) : Below w.heap.size w (a.alloc o) := h.alloc h.size o
theorem wbel_trans {w a b : World} (h : Below w.heap.size w a) (k : Below a.heap.size a b) : Below w.heap.size w b := h.trans (k.mono h.size)
theorem wcell_step {x y : World} {B o : Nat} {v : Value} (h : x.cell? ⟨B, o, none⟩ = some v) (hb : Below x.heap.size x y) : y.cell? ⟨B, o, none⟩ = some v :=
  (hb.cell (p := ⟨B, o, none⟩) (World.block_lt_of_cell? x _ h)).trans h
/-- A segment. -/
structure SegV where
  k : Int
  l : Int
  e : Nat
def SegV.nil : SegV := ⟨0, 0, 0⟩
def SegV.cl (s : SegV) : List Value := [.int .i64 s.k, .int .i64 s.l, .int .u32 (s.e : Int)]
def SegV.v (s : SegV) : Value := .agg #[.int .i64 s.k, .int .i64 s.l, .int .u32 (s.e : Int)]
/-- Where a list of segments stands. -/
def RowG (w : World) (a : Option Addr) (len : Nat) (G : List SegV) : Prop :=
  G.length = len ∧ (∀ s ∈ G, s.e < 4294967296) ∧ (0 < len → ∃ b off, a = some ⟨b, off, none⟩ ∧ ∀ i, i < len → w.cell? ⟨b, off + i * 3, none⟩ = some (.int .i64 (G.getD i SegV.nil).k) ∧ w.cell? ⟨b, off + i * 3 + 1, none⟩ = some (.int .i64 (G.getD i SegV.nil).l) ∧ w.cell? ⟨b, off + i * 3 + 2, none⟩ = some (.int .u32 ((G.getD i SegV.nil).e : Int)))
theorem RowG.step {x y : World} {a : Option Addr} {len : Nat} {G : List SegV} (h : RowG x a len G) (hb : Below x.heap.size x y) : RowG y a len G := by
  obtain ⟨h1, h2, h3⟩ := h
  refine ⟨h1, h2, fun h0 => ?_⟩
  obtain ⟨b, off, e, hc⟩ := h3 h0
  refine ⟨b, off, e, fun i hi => ?_⟩
  obtain ⟨c0, c1, c2⟩ := hc i hi
  exact ⟨wcell_step c0 hb, wcell_step c1 hb, wcell_step c2 hb⟩
def cmpI (x y : Int) : Int := if x < y then -1 else if y < x then 1 else 0
theorem nan32_any (x : Int) (w : World) : Calls Try.prog 24 #[.int .u32 x] w fun e w' => e = .returned (.bool false) ∧ w' = w := by
  go_enter Try.func24, Try.ntmps24
  go_wp2
  go_ret
  exact ⟨rfl, rfl⟩
theorem nan64_any (x : Int) (w : World) : Calls Try.prog 25 #[.int .i64 x] w fun e w' => e = .returned (.bool false) ∧ w' = w := by
  go_enter Try.func25, Try.ntmps25
  go_wp2
  go_ret
  exact ⟨rfl, rfl⟩
theorem cmp32_any (x y : Int) (w : World) : Calls Try.prog 21 #[.int .u32 x, .int .u32 y] w fun e w' => e = .returned (.int .i64 (cmpI x y)) ∧ w' = w := by
  unfold cmpI
  by_cases h : x < y
  · rw [if_pos h]
    have t1 : decide (x < y) = true := by simpa using h
    go_enter Try.func21, Try.ntmps21
    go_wp2_with (first | (go_at_call 24; refine (nan32_any _ _).mono ?_; rintro e w' ⟨rfl, rfl⟩))
    go_ret
    exact ⟨rfl, rfl⟩
  · rw [if_neg h]
    have t1 : decide (x < y) = false := by simpa using h
    by_cases h2 : y < x
    · rw [if_pos h2]
      have t2 : decide (y < x) = true := by simpa using h2
      go_enter Try.func21, Try.ntmps21
      go_wp2_with (first | (go_at_call 24; refine (nan32_any _ _).mono ?_; rintro e w' ⟨rfl, rfl⟩))
      go_ret
      exact ⟨rfl, rfl⟩
    · rw [if_neg h2]
      have t2 : decide (y < x) = false := by simpa using h2
      go_enter Try.func21, Try.ntmps21
      go_wp2_with (first | (go_at_call 24; refine (nan32_any _ _).mono ?_; rintro e w' ⟨rfl, rfl⟩))
      go_ret
      exact ⟨rfl, rfl⟩
theorem cmp64_any (x y : Int) (w : World) : Calls Try.prog 23 #[.int .i64 x, .int .i64 y] w fun e w' => e = .returned (.int .i64 (cmpI x y)) ∧ w' = w := by
  unfold cmpI
  by_cases h : x < y
  · rw [if_pos h]
    have t1 : decide (x < y) = true := by simpa using h
    go_enter Try.func23, Try.ntmps23
    go_wp2_with (first | (go_at_call 25; refine (nan64_any _ _).mono ?_; rintro e w' ⟨rfl, rfl⟩))
    go_ret
    exact ⟨rfl, rfl⟩
  · rw [if_neg h]
    have t1 : decide (x < y) = false := by simpa using h
    by_cases h2 : y < x
    · rw [if_pos h2]
      have t2 : decide (y < x) = true := by simpa using h2
      go_enter Try.func23, Try.ntmps23
      go_wp2_with (first | (go_at_call 25; refine (nan64_any _ _).mono ?_; rintro e w' ⟨rfl, rfl⟩))
      go_ret
      exact ⟨rfl, rfl⟩
    · rw [if_neg h2]
      have t2 : decide (y < x) = false := by simpa using h2
      go_enter Try.func23, Try.ntmps23
      go_wp2_with (first | (go_at_call 25; refine (nan64_any _ _).mono ?_; rintro e w' ⟨rfl, rfl⟩))
      go_ret
      exact ⟨rfl, rfl⟩
/-- The first of two that isn't nought. -/
def or2 (x y : Int) : Int := if x = 0 then y else x
theorem or2_any (b : Nat) (c : Nat) (x y : Int) (w : World) (h0 : w.cell? ⟨b, 0, none⟩ = some (.int .i64 x)) (h1 : w.cell? ⟨b, 1, none⟩ = some (.int .i64 y)) :
    Calls Try.prog 22 #[.slice (some ⟨b, 0, none⟩) 2 c] w fun e w' => e = .returned (.int .i64 (or2 x y)) ∧ w' = w := by
  unfold or2
  go_enter Try.func22, Try.ntmps22
  go_wp2_with fail
  go_loopw [8] (fun i wr => wr = w ∧ ∃ k : Nat, k ≤ 2 ∧ i = .int .i64 (k : Int) ∧ (0 < k → x = 0) ∧ (1 < k → y = 0)) (fun i _ => 2 - (intOf i).toNat)
  case atStart => exact ⟨rfl, 0, by omega, rfl, by omega, by omega⟩
  case round =>
    obtain ⟨rfl, k, hk, rfl, g0, g1⟩ := hrel
    rcases (show k = 0 ∨ k = 1 ∨ k = 2 by omega) with rfl | rfl | rfl
    · by_cases hx : x = 0
      · subst hx
        clear g0 g1
        go_wp2
        go_roundw
        case rel => exact ⟨trivial, 1, by omega, by go_num, by simp, by simp⟩
        case measure => simp [intOf]
      · have t : (x == 0) = false := by simpa using hx
        clear g0 g1
        go_wp2
        go_ret
        exact ⟨by simp, rfl⟩
    · have hx : x = 0 := g0 (by omega)
      subst hx
      by_cases hy : y = 0
      · subst hy
        clear g0 g1
        go_wp2
        go_roundw
        case rel => exact ⟨trivial, 2, by omega, by go_num, by simp, by simp⟩
        case measure => simp [intOf]
      · have t : (y == 0) = false := by simpa using hy
        clear g0 g1
        go_wp2
        go_ret
        exact ⟨by simp, rfl⟩
    · have hx : x = 0 := g0 (by omega)
      have hy : y = 0 := g1 (by omega)
      subst hx hy
      clear g0 g1
      go_wp2
      go_ret
      exact ⟨by simp, rfl⟩
theorem cell_two {w : World} {n : Nat} {v0 v1 : Value} {t : TypeId} (h : w.heap.size = n) : (w.alloc (.cells #[v0, v1] t)).cell? ⟨n, 0, none⟩ = some v0 ∧ (w.alloc (.cells #[v0, v1] t)).cell? ⟨n, 1, none⟩ = some v1 := by
  subst h; exact cell_new2 w v0 v1 t
/-- Fewer erases ahead, then fewer pages. -/
def ordE (a b : SegV) : Int := or2 (cmpI (a.e : Int) (b.e : Int)) (cmpI a.l b.l)
def ordV (a b : SegV) : Int := or2 (cmpI a.l b.l) (cmpI (a.e : Int) (b.e : Int))
def ordN (a b : SegV) : Int := cmpI (a.e : Int) (b.e : Int)
theorem ordN_any (a b : SegV) (w : World) : Calls Try.prog 20 #[a.v, b.v] w fun e w' => e = .returned (.int .i64 (ordN a b)) ∧ Below w.heap.size w w' := by
  unfold SegV.v ordN
  go_enter Try.func20, Try.ntmps20
  go_wp2_with fail
  refine (cmp32_any _ _ _).mono ?_
  rintro e w' ⟨rfl, rfl⟩
  go_wp2
  go_ret
  exact ⟨rfl, wbel_alloc (wbel_alloc (Below.refl _ w) _) _⟩
theorem ordE_any (a b : SegV) (w : World) : Calls Try.prog 18 #[a.v, b.v] w fun e w' => e = .returned (.int .i64 (ordE a b)) ∧ Below w.heap.size w w' := by
  unfold SegV.v ordE
  go_enter Try.func18, Try.ntmps18
  go_upto_region 1 with fail
  obtain ⟨w1, hw1⟩ : ∃ x, x = ((w.alloc (.cells #[.int .i64 a.k, .int .i64 a.l, .int .u32 (a.e : Int)] 33)).alloc (.cells #[.int .i64 b.k, .int .i64 b.l, .int .u32 (b.e : Int)] 33)) := ⟨_, rfl⟩
  have hb1 : Below w.heap.size w w1 := by rw [hw1]; exact wbel_alloc (wbel_alloc (Below.refl _ w) _) _
  have q0 : ∀ (o : Nat) (v : Value), (#[Value.int .i64 a.k, .int .i64 a.l, .int .u32 (a.e : Int)] : Array Value)[o]? = some v → w1.cell? ⟨w.heap.size, o, none⟩ = some v := by
    intro o v h; rw [hw1]
    exact wcell_step (x := w.alloc (.cells #[.int .i64 a.k, .int .i64 a.l, .int .u32 (a.e : Int)] 33)) (by rw [World.cell?_alloc_mark w _ _ (0, 0) o]; exact h) (wbel_alloc (Below.refl _ _) _)
  have q1 : ∀ (o : Nat) (v : Value), (#[Value.int .i64 b.k, .int .i64 b.l, .int .u32 (b.e : Int)] : Array Value)[o]? = some v → w1.cell? ⟨w.heap.size + 1, o, none⟩ = some v := by
    intro o v h; rw [hw1]
    have e := World.cell?_alloc_mark (w.alloc (.cells #[.int .i64 a.k, .int .i64 a.l, .int .u32 (a.e : Int)] 33)) #[Value.int .i64 b.k, .int .i64 b.l, .int .u32 (b.e : Int)] 33 (0, 0) o
    rw [show (w.alloc (.cells #[.int .i64 a.k, .int .i64 a.l, .int .u32 (a.e : Int)] 33)).heap.size = w.heap.size + 1 by simp] at e
    rw [e]; exact h
  rw [← hw1]
  have a1 := q0 1 _ rfl
  have a2 := q0 2 _ rfl
  have b1 := q1 1 _ rfl
  have b2 := q1 2 _ rfl
  clear q0 q1 hw1
  refine wp_region_still_tail 10 (by kernel_rfl) (by kernel_rfl) ?_
  simp only [List.take_succ_cons, List.take_zero, List.drop_succ_cons, List.drop_zero]
  still_step
  still_step
  still_step
  still_step
  still_call (cmp32_any _ _ _)
  still_step
  still_step
  still_step
  still_step
  still_call (cmp64_any _ _ _)
  refine wpStill_nil ?_
  change wpList _ _ _ _ _ w1.drew
  have hb2 := hb1.drew
  generalize w1.drew = w2 at hb2 ⊢
  go_wp2_with fail
  refine (or2_any _ _ (cmpI (a.e : Int) (b.e : Int)) (cmpI a.l b.l) _ (cell_two rfl).1 (cell_two rfl).2).mono ?_
  rintro e w' ⟨rfl, rfl⟩
  go_wp2
  go_ret
  exact ⟨rfl, hb2.trans (wbel_alloc (Below.refl _ _) _ |>.mono hb2.size)⟩
theorem ordV_any (a b : SegV) (w : World) : Calls Try.prog 19 #[a.v, b.v] w fun e w' => e = .returned (.int .i64 (ordV a b)) ∧ Below w.heap.size w w' := by
  unfold SegV.v ordV
  go_enter Try.func19, Try.ntmps19
  go_upto_region 1 with fail
  obtain ⟨w1, hw1⟩ : ∃ x, x = ((w.alloc (.cells #[.int .i64 a.k, .int .i64 a.l, .int .u32 (a.e : Int)] 33)).alloc (.cells #[.int .i64 b.k, .int .i64 b.l, .int .u32 (b.e : Int)] 33)) := ⟨_, rfl⟩
  have hb1 : Below w.heap.size w w1 := by rw [hw1]; exact wbel_alloc (wbel_alloc (Below.refl _ w) _) _
  have q0 : ∀ (o : Nat) (v : Value), (#[Value.int .i64 a.k, .int .i64 a.l, .int .u32 (a.e : Int)] : Array Value)[o]? = some v → w1.cell? ⟨w.heap.size, o, none⟩ = some v := by
    intro o v h; rw [hw1]
    exact wcell_step (x := w.alloc (.cells #[.int .i64 a.k, .int .i64 a.l, .int .u32 (a.e : Int)] 33)) (by rw [World.cell?_alloc_mark w _ _ (0, 0) o]; exact h) (wbel_alloc (Below.refl _ _) _)
  have q1 : ∀ (o : Nat) (v : Value), (#[Value.int .i64 b.k, .int .i64 b.l, .int .u32 (b.e : Int)] : Array Value)[o]? = some v → w1.cell? ⟨w.heap.size + 1, o, none⟩ = some v := by
    intro o v h; rw [hw1]
    have e := World.cell?_alloc_mark (w.alloc (.cells #[.int .i64 a.k, .int .i64 a.l, .int .u32 (a.e : Int)] 33)) #[Value.int .i64 b.k, .int .i64 b.l, .int .u32 (b.e : Int)] 33 (0, 0) o
    rw [show (w.alloc (.cells #[.int .i64 a.k, .int .i64 a.l, .int .u32 (a.e : Int)] 33)).heap.size = w.heap.size + 1 by simp] at e
    rw [e]; exact h
  rw [← hw1]
  have a1 := q0 1 _ rfl
  have a2 := q0 2 _ rfl
  have b1 := q1 1 _ rfl
  have b2 := q1 2 _ rfl
  clear q0 q1 hw1
  refine wp_region_still_tail 10 (by kernel_rfl) (by kernel_rfl) ?_
  simp only [List.take_succ_cons, List.take_zero, List.drop_succ_cons, List.drop_zero]
  still_step
  still_step
  still_step
  still_step
  still_call (cmp64_any _ _ _)
  still_step
  still_step
  still_step
  still_step
  still_call (cmp32_any _ _ _)
  refine wpStill_nil ?_
  change wpList _ _ _ _ _ w1.drew
  have hb2 := hb1.drew
  generalize w1.drew = w2 at hb2 ⊢
  go_wp2_with fail
  refine (or2_any _ _ (cmpI a.l b.l) (cmpI (a.e : Int) (b.e : Int)) _ (cell_two rfl).1 (cell_two rfl).2).mono ?_
  rintro e w' ⟨rfl, rfl⟩
  go_wp2
  go_ret
  exact ⟨rfl, hb2.trans (wbel_alloc (Below.refl _ _) _ |>.mono hb2.size)⟩
end Go.Proofs.Ytjimgbeockfpmaa
