/- geom.Slot: a range over slots. -/
import Derived.Test.YtmggjknljbpbgaaGeoC
import Derived.RangeFuncNested
import Derived.RangeFuncBound
import Derived.RangeFuncCalls
import Derived.RangeFuncLeaves
import Derived.Shelf.Abstract
import Derived.Shelf.RegionOpen
import Derived.OwnWalkIn
import Derived.TacticsInMore
import Derived.LoopNIn
import Derived.LoopIn
import Derived.Test.YtmggjknljbpbgaaGeoS
namespace Go.Proofs.Ytmggjknljbpbgaa
open Go.RowKit Go.Shelf
attribute [local go_sem] Oper.semAt_some

theorem gb_of_below {w w' : World} (h : Below w.heap.size w w') : w.grownBy w' none := ⟨h.os, h.tape, h.output, h.size, fun b hb _ => h.block b hb⟩
/-- Which member has slot k, where p has the parity. -/
def memOf (p k : Nat) : Nat := if k < p then k else k + 1
theorem member_any (a b c d seg row : Int) (p k : Nat) (w : World) (hg : GoodG a b c d) (h0 : 0 ≤ seg) (h1 : seg ≤ 2000) (h2 : 0 ≤ row) (h3 : row ≤ 2000) (hp : ((p : Nat) : Int) = ParOf a c seg row) (hk : k ≤ 1000) :
    Calls Try.prog 22 #[.agg #[.int .i64 a, .int .i64 b, .int .i64 c, .int .i64 d], .agg #[.int .i64 seg, .int .i64 row, .int .i64 (k : Int)]] w fun e w' => e = .returned (.int .i64 ((memOf p k : Nat) : Int)) ∧ Below w.heap.size w w' := by
  unfold memOf
  by_cases h : k < p
  · rw [if_pos h]
    exact member_lo a b c d seg row k w hg h0 h1 h2 h3 (by omega)
  · rw [if_neg h, Int.natCast_add]
    exact member_hi a b c d seg row k w hg h0 h1 h2 h3 (by omega) (by omega) (by omega)

/-- What slots' function has captured. -/
def SlotMem (W : World) (a b c d seg row : Int) (n bm bg bs br : Nat) (x : World) : Prop :=
  GS W bg a b c d x ∧ x.cell? ⟨bm, 0, none⟩ = some (.int .i64 (n : Int)) ∧ x.cell? ⟨bs, 0, none⟩ = some (.int .i64 seg) ∧ x.cell? ⟨br, 0, none⟩ = some (.int .i64 row)
theorem SlotMem.step {W x y : World} {a b c d seg row : Int} {n bm bg bs br : Nat} (h : SlotMem W a b c d seg row n bm bg bs br x) (hb : Below x.heap.size x y) : SlotMem W a b c d seg row n bm bg bs br y :=
  ⟨h.1.step hb, cell_step h.2.1 hb, cell_step h.2.2.1 hb, cell_step h.2.2.2 hb⟩

theorem SlotMem.keep {W x y : World} {a b c d seg row : Int} {n bm bg bs br n₀ : Nat} (h : SlotMem W a b c d seg row n bm bg bs br x) (h1 : bm < n₀) (h2 : bg < n₀) (h3 : bs < n₀) (h4 : br < n₀) (hn : W.heap.size ≤ n₀) (hb : Below n₀ x y) : SlotMem W a b c d seg row n bm bg bs br y := by
  obtain ⟨⟨q0, q1, q2, q3, q4⟩, q5, q6, q7⟩ := h
  exact ⟨⟨(hb.cell (p := ⟨bg, 0, none⟩) h2).trans q0, (hb.cell (p := ⟨bg, 1, none⟩) h2).trans q1, (hb.cell (p := ⟨bg, 2, none⟩) h2).trans q2, (hb.cell (p := ⟨bg, 3, none⟩) h2).trans q3, q4.trans (hb.mono hn)⟩, (hb.cell (p := ⟨bm, 0, none⟩) h1).trans q5, (hb.cell (p := ⟨bs, 0, none⟩) h3).trans q6, (hb.cell (p := ⟨br, 0, none⟩) h4).trans q7⟩
theorem abides_mono {β : Type} {B B' : Nat} {J : β → World → Prop} (h : AbidesFrom B J) (hB : B ≤ B') : AbidesFrom B' J :=
  fun s A C row hs hg hr => h s A C row hs hg fun r e => ⟨Nat.le_trans hB (hr r e).1, (hr r e).2⟩
/-- A shape's box, and two numbers'. -/
def Box3 (W : World) (B : Nat) (a b c d seg row : Int) (x : World) : Prop :=
  GS W B a b c d x ∧ x.cell? ⟨B + 1, 0, none⟩ = some (.int .i64 seg) ∧ x.cell? ⟨B + 2, 0, none⟩ = some (.int .i64 row)
theorem box3_step {W : World} {B : Nat} {a b c d seg row : Int} {x y : World} (h : Box3 W B a b c d seg row x) (hb : Below x.heap.size x y) : Box3 W B a b c d seg row y :=
  ⟨h.1.step hb, cell_step h.2.1 hb, cell_step h.2.2 hb⟩
theorem box3_new (w : World) (a b c d seg row : Int) : Box3 w w.heap.size a b c d seg row (((w.alloc (.cells #[.int .i64 a, .int .i64 b, .int .i64 c, .int .i64 d] 23)).alloc (.cells #[.int .i64 seg] 3)).alloc (.cells #[.int .i64 row] 3)) := by
  refine ⟨((gs_new w a b c d).step (bel_alloc (Below.refl _ _) _)).step (bel_alloc (Below.refl _ _) _), cell_step (cell_new1_at (by simp)) (bel_alloc (Below.refl _ _) _), cell_new1_at (by simp)⟩

/-- slots hands back its function. -/
def SlotsRet (a b c d seg row : Int) (w : World) (e : Ending) (w' : World) : Prop :=
  ∃ bm bg bs br, e = .returned (.func (.func 58) #[] #[.pointer (some ⟨bm, 0, none⟩), .pointer (some ⟨bg, 0, none⟩), .pointer (some ⟨bs, 0, none⟩), .pointer (some ⟨br, 0, none⟩)]) ∧
    SlotMem w a b c d seg row (a - 1).toNat bm bg bs br w'
set_option maxRecDepth 100000 in
set_option maxHeartbeats 1600000 in
theorem slots_any (a b c d seg row : Int) (w : World) (hg : GoodG a b c d) :
    Calls Try.prog 47 #[.agg #[.int .i64 a, .int .i64 b, .int .i64 c, .int .i64 d], .int .i64 seg, .int .i64 row] w (SlotsRet a b c d seg row w) := by
  have g1 := hg.1
  have g2 := hg.2.1
  have HW := Lib.hid fun x : World => width_any a b c d x (by omega) (by omega)
  have k1 : (if 15 < a - 1 then (15 : Int) else a - 1) = a - 1 := by rw [if_neg (by omega)]
  have hS0 := box3_new w a b c d seg row
  clear hg
  go_enter Try.func47, Try.ntmps47
  obtain ⟨⟨c0, c1, c2, c3, _⟩, _⟩ := id hS0
  have HS0 := Lib.hid hS0
  clear hS0
  go_wp2_with fail
  ((with_reducible refine (HW.out _).mono ?_))
  rintro e w1 ⟨rfl, hb⟩
  have H2 := Lib.hid (box3_step HS0.out hb)
  clear hb c0 c1 c2 c3 HS0
  go_wp2
  go_ret
  obtain ⟨q1, q2, q3⟩ := H2.out
  have hn : (((a - 1).toNat : Nat) : Int) = a - 1 := Int.toNat_of_nonneg (by omega)
  refine ⟨w1.heap.size, _, _, _, rfl, q1.step (bel_alloc (Below.refl _ w1) _), ?_, cell_step q2 (bel_alloc (Below.refl _ w1) _), cell_step q3 (bel_alloc (Below.refl _ w1) _)⟩
  rw [hn]
  exact cell_new1 _ _ _

/-- What has come when k rounds are over. -/
def upto {α : Type} (f : Nat → α) (k : Nat) : List α := (List.range k).map f
theorem upto_succ {α : Type} (f : Nat → α) (k : Nat) : upto f (k + 1) = upto f k ++ [f k] := by simp [upto, List.range_succ]
theorem upto_length {α : Type} (f : Nat → α) (k : Nat) : (upto f k).length = k := by simp [upto]

set_option maxRecDepth 100000 in
set_option maxHeartbeats 2000000 in
/-- slots' function, for every loop body that keeps what lay below n₀. -/
theorem slots1_in (m : Nat) (hm1 : 1 ≤ m) (l n₀ bm bg bs br n p : Nat) (a b c d seg row : Int) (W0 : World) (hn0 : W0.heap.size ≤ n₀)
    (HM : Hid (∀ (k : Nat) (x : World), k ≤ 1000 → Calls Try.prog 22 #[.agg #[.int .i64 a, .int .i64 b, .int .i64 c, .int .i64 d], .agg #[.int .i64 seg, .int .i64 row, .int .i64 (k : Int)]] x fun e w' => e = .returned (.int .i64 ((memOf p k : Nat) : Int)) ∧ Below x.heap.size x w'))
    (hn : n ≤ 1000) (J Jx : List (Nat × Nat) → World → Prop)
    (hb1 : bm < n₀) (hb2 : bg < n₀) (hb3 : bs < n₀) (hb4 : br < n₀)
    (W : World) (hJ : AbidesFrom W.heap.size J)
    (hY : ∀ pre x W, J pre W → pre.length < n → YieldAt Fence.wide (m - 1) Try.prog l #[.int .i64 ((x : Nat × Nat).1 : Int), .int .i64 (x.2 : Int)] W fun e W' =>
      (e = .returned (.bool true) ∧ J (pre ++ [x]) W' ∧ Below n₀ W W') ∨ (e = .returned (.bool false) ∧ Jx (pre ++ [x]) W'))
    (hS : SlotMem W0 a b c d seg row n bm bg bs br W) (hle : n₀ ≤ W.heap.size) (h0 : J [] W) :
    CallsIn Fence.wide m Try.prog 58 #[.func (.yield l) #[] #[], .pointer (some ⟨bm, 0, none⟩), .pointer (some ⟨bg, 0, none⟩), .pointer (some ⟨bs, 0, none⟩), .pointer (some ⟨br, 0, none⟩)] W fun e W' => (∃ v, e = .returned v) ∧
      ((∃ ys, ys = upto (fun j => (j, memOf p j)) n ∧ J ys W') ∨ (∃ pre, (∃ k, k ≤ n ∧ pre = upto (fun j => (j, memOf p j)) k) ∧ Jx pre W')) := by
  refine callsIn_of_wp Try.func58 rfl trivial ?_ rfl
  simp only [Try.ntmps58, List.size_toArray, List.length_cons, List.length_nil, Nat.reduceAdd, Nat.reduceSub, Array.replicate_succ, Array.replicate_zero, List.push_toArray, List.append_toArray, List.nil_append, List.cons_append]
  have HS := Lib.hid hS
  obtain ⟨_, q1, _, _⟩ := hS
  gi_wp2
  clear q1
  gi_loopw [8] (fun i wr => ∃ k : Nat, k ≤ n ∧ i = .int .i64 k ∧ J (upto (fun j => (j, memOf p j)) k) wr ∧ Below n₀ W wr ∧ Hid (SlotMem W0 a b c d seg row n bm bg bs br wr) ∧ Hid (AbidesFrom wr.heap.size J))
    (fun i _ => n - (intOf i).toNat)
  case atStart => exact ⟨0, Nat.zero_le _, rfl, h0, Below.refl _ _, HS, Lib.hid hJ⟩
  case round =>
    obtain ⟨k, hk, rfl, hJs, hnx, HSM, HA⟩ := hrel
    by_cases hlt : k < n
    · obtain ⟨⟨c0, c1, c2, c3, _⟩, _, c4, c5⟩ := HSM.out
      gi_wp2_with (refine ⟨trivial, ?_⟩; gi_at_call 22; refine (callsIn_wide.2 (HM.out k _ (by omega))).mono ?_; rintro e w3 ⟨rfl, hb⟩; have hJ3 := HA.out _ wr w3 none hJs (gb_of_below hb) (fun r e => by cases e); have HSM3 := Lib.hid (HSM.out.step hb); have hnx3 := hnx.trans (hb.mono (Nat.le_trans hle hnx.size)); obtain ⟨fn, tmps, assign, body, hy, hR⟩ := hY _ (k, memOf p k) w3 hJ3 (by rw [upto_length]; exact hlt); dsimp only at hy; clear c0 c1 c2 c3 c4 c5 hb)
      refine hR.mono ?_
      rintro e W4 (⟨rfl, hJ4, hk4⟩ | ⟨rfl, hJx4⟩)
      · have hnx4 := hnx3.trans hk4
        have HSM4 := Lib.hid (HS.out.keep hb1 hb2 hb3 hb4 hn0 hnx4)
        have HA4 := Lib.hid (abides_mono hJ hnx4.size)
        gi_wp2
        go_roundw
        case rel => exact ⟨k + 1, by omega, by simp, by rw [upto_succ]; exact hJ4, hnx4, HSM4, HA4⟩
        case measure => simp [intOf]; omega
      · gi_wp2
        refine bodyPost_ret (results_none rfl _ _ _) rfl ?_
        exact ⟨⟨_, rfl⟩, .inr ⟨_, ⟨k + 1, by omega, (upto_succ _ _).symm⟩, hJx4⟩⟩
    · obtain rfl : k = n := by omega
      gi_wp2
      go_end0
      exact ⟨⟨_, rfl⟩, .inl ⟨_, rfl, hJs⟩⟩

/-- slots' function stops: (0, its member), (1, its member), .., or the first of them. -/
theorem slots_stops (m : Nat) (hm1 : 1 ≤ m) (n₀ bm bg bs br n p : Nat) (a b c d seg row : Int) (W0 w : World) (hn0 : W0.heap.size ≤ n₀)
    (HM : Hid (∀ (k : Nat) (x : World), k ≤ 1000 → Calls Try.prog 22 #[.agg #[.int .i64 a, .int .i64 b, .int .i64 c, .int .i64 d], .agg #[.int .i64 seg, .int .i64 row, .int .i64 (k : Int)]] x fun e w' => e = .returned (.int .i64 ((memOf p k : Nat) : Int)) ∧ Below x.heap.size x w'))
    (hn : n ≤ 1000) (hb1 : bm < n₀) (hb2 : bg < n₀) (hb3 : bs < n₀) (hb4 : br < n₀) (hS : SlotMem W0 a b c d seg row n bm bg bs br w) (hle : n₀ ≤ w.heap.size) :
    SeqStopsK Fence.wide m Try.prog 58 #[.pointer (some ⟨bm, 0, none⟩), .pointer (some ⟨bg, 0, none⟩), .pointer (some ⟨bs, 0, none⟩), .pointer (some ⟨br, 0, none⟩)] (fun x : Nat × Nat => #[Value.int .i64 (x.1 : Int), Value.int .i64 (x.2 : Int)]) (Below n₀)
      (fun ys => ys = upto (fun j => (j, memOf p j)) n) (fun pre => ∃ k, k ≤ n ∧ pre = upto (fun j => (j, memOf p j)) k) n w := fun l J Jx W hW hJ _ hY h0 =>
  slots1_in m hm1 l n₀ bm bg bs br n p a b c d seg row W0 hn0 HM hn J Jx hb1 hb2 hb3 hb4 W hJ hY (hS.keep hb1 hb2 hb3 hb4 hn0 (hW.mono hle)) (Nat.le_trans hle hW.size) h0

theorem SlotMem.lt {W x : World} {a b c d seg row : Int} {n bm bg bs br : Nat} (h : SlotMem W a b c d seg row n bm bg bs br x) : bm < x.heap.size ∧ bg < x.heap.size ∧ bs < x.heap.size ∧ br < x.heap.size :=
  ⟨World.block_lt_of_cell? x _ h.2.1, World.block_lt_of_cell? x _ h.1.1, World.block_lt_of_cell? x _ h.2.2.1, World.block_lt_of_cell? x _ h.2.2.2⟩
/-- What Slot hands back. -/
def SlotOut (p n mm : Nat) (e : Ending) : Prop :=
  (e = .returned (.tuple #[.int .i64 0, .bool false]) ∧ ∀ k, k < n → memOf p k ≠ mm) ∨ (∃ k : Nat, k < n ∧ e = .returned (.tuple #[.int .i64 (k : Int), .bool true]) ∧ memOf p k = mm)
theorem var_new (x : World) (v : Value) (t : TypeId) : (x.alloc (.cells #[v] t)).cell? ⟨x.heap.size, 0, none⟩ = some v ∧ (x.alloc (.cells #[v] t)).frozen? ⟨x.heap.size, 0, none⟩ = false := by
  have h := World.alloc_heap_new x (.cells #[v] t)
  exact ⟨cell_new1 _ _ _, by simp only [World.frozen?, h]; rfl⟩
/-- Three variables of Slot. -/
def SlotVars (B1 B2 B3 : Nat) (mm : Nat) (x : World) : Prop :=
  x.cell? ⟨B1, 0, none⟩ = some (.int .i64 (mm : Int)) ∧ (x.cell? ⟨B2, 0, none⟩ = some (.int .i64 0) ∧ x.frozen? ⟨B2, 0, none⟩ = false) ∧ (x.cell? ⟨B3, 0, none⟩ = some (.bool false) ∧ x.frozen? ⟨B3, 0, none⟩ = false)
/-- It has found. -/
def SlotFound (B2 B3 : Nat) (k : Nat) (x : World) : Prop := x.cell? ⟨B2, 0, none⟩ = some (.int .i64 (k : Int)) ∧ x.cell? ⟨B3, 0, none⟩ = some (.bool true)
theorem frozen_step {x y : World} {B o : Nat} {v : Bool} (hlt : B < x.heap.size) (h : x.frozen? ⟨B, o, none⟩ = v) (hb : Below x.heap.size x y) : y.frozen? ⟨B, o, none⟩ = v :=
  (hb.frozen (p := ⟨B, o, none⟩) hlt).trans h
theorem SlotVars.step {B1 B2 B3 mm : Nat} {x y : World} (h : SlotVars B1 B2 B3 mm x) (hb : Below x.heap.size x y) : SlotVars B1 B2 B3 mm y := by
  obtain ⟨h1, ⟨h2, h3⟩, h4, h5⟩ := h
  exact ⟨cell_step h1 hb, ⟨cell_step h2 hb, frozen_step (World.block_lt_of_cell? x _ h2) h3 hb⟩, cell_step h4 hb, frozen_step (World.block_lt_of_cell? x _ h4) h5 hb⟩
theorem slotVars_new (w : World) (o : Obj) (mm : Nat) : SlotVars (w.heap.size + 1) (w.heap.size + 1 + 1) (w.heap.size + 1 + 1 + 1) mm ((((w.alloc o).alloc (.cells #[.int .i64 (mm : Int)] 3)).alloc (.cells #[.int .i64 0] 3)).alloc (.cells #[.bool false] 4)) := by
  have h1 := var_new (w.alloc o) (.int .i64 (mm : Int)) 3
  have h2 := var_new ((w.alloc o).alloc (.cells #[.int .i64 (mm : Int)] 3)) (.int .i64 0) 3
  have h3 := var_new (((w.alloc o).alloc (.cells #[.int .i64 (mm : Int)] 3)).alloc (.cells #[.int .i64 0] 3)) (.bool false) 4
  simp only [World.size_alloc] at h1 h2 h3
  exact ⟨cell_step (cell_step h1.1 (bel_alloc (Below.refl _ _) _)) (bel_alloc (Below.refl _ _) _), ⟨cell_step h2.1 (bel_alloc (Below.refl _ _) _), frozen_step (World.block_lt_of_cell? _ _ h2.1) h2.2 (bel_alloc (Below.refl _ _) _)⟩, h3.1, h3.2⟩

set_option maxRecDepth 100000 in
set_option maxHeartbeats 4000000 in
theorem slot_any (a b c d seg row : Int) (p n mm : Nat) (w : World) (hg : GoodG a b c d) (h0 : 0 ≤ seg) (h1 : seg ≤ 2000) (h2 : 0 ≤ row) (h3 : row ≤ 2000) (hp : ((p : Nat) : Int) = ParOf a c seg row) (hn : (n : Int) = a - 1) :
    Calls Try.prog 23 #[.agg #[.int .i64 a, .int .i64 b, .int .i64 c, .int .i64 d], .int .i64 seg, .int .i64 row, .int .i64 (mm : Int)] w fun e w' => SlotOut p n mm e ∧ Below w.heap.size w w' := by
  refine (callsIn_wide (n := 3)).1 ?_
  have HM := Lib.hid fun (k : Nat) (x : World) (hk : k ≤ 1000) => member_any a b c d seg row p k x hg h0 h1 h2 h3 hp hk
  have hnt : (a - 1).toNat = n := by omega
  have hn1 : n ≤ 1000 := by have := hg.2.1; omega
  have HSl := Lib.hid fun x : World => slots_any a b c d seg row x hg
  have HV := Lib.hid (slotVars_new w (.cells #[.int .i64 a, .int .i64 b, .int .i64 c, .int .i64 d] 23) mm)
  have HS := Lib.hid ((((gs_new w a b c d).step (bel_alloc (Below.refl _ _) (.cells #[.int .i64 (mm : Int)] 3))).step (bel_alloc (Below.refl _ _) (.cells #[.int .i64 0] 3))).step (bel_alloc (Below.refl _ _) (.cells #[.bool false] 4)))
  have HN := Lib.hid hnt
  clear hg h0 h1 h2 h3 hp hn hnt
  refine callsIn_of_wp_marks Try.func23 rfl trivial ?_ rfl
  simp only [Try.ntmps23, List.size_toArray, List.length_cons, List.length_nil, Nat.reduceAdd, Nat.reduceSub, Array.replicate_succ, Array.replicate_zero, List.push_toArray, List.append_toArray, List.nil_append, List.cons_append]
  obtain ⟨c0, c1, c2, c3, _⟩ := HS.out
  gi_wp2_with (refine ⟨trivial, ?_⟩; gi_at_call 47; refine (callsIn_wide.2 (HSl.out _)).mono ?_; intro e w5 hq; obtain ⟨bm, bg, bs, br, rfl, hSM⟩ := hq; clear c0 c1 c2 c3)
  have HSM : Hid (SlotMem w a b c d seg row n bm bg bs br w5) := Lib.hid ⟨⟨hSM.1.1, hSM.1.2.1, hSM.1.2.2.1, hSM.1.2.2.2.1, HS.out.2.2.2.2.trans (hSM.1.2.2.2.2.mono HS.out.2.2.2.2.size)⟩, by rw [← HN.out]; exact hSM.2.1, hSM.2.2.1, hSM.2.2.2⟩
  have HV5 := Lib.hid (HV.out.step hSM.1.2.2.2.2)
  clear hSM HV HS HSl HN
  obtain ⟨B1, hB1⟩ : ∃ B1, B1 = w.heap.size + 1 := ⟨_, rfl⟩
  obtain ⟨B2, hB2⟩ : ∃ B2, B2 = w.heap.size + 1 + 1 := ⟨_, rfl⟩
  obtain ⟨B3, hB3⟩ : ∃ B3, B3 = w.heap.size + 1 + 1 + 1 := ⟨_, rfl⟩
  rw [← hB3, ← hB2, ← hB1] at HV5 ⊢
  have hz2 : w.heap.size ≤ B2 := by omega
  have hz3 : w.heap.size ≤ B3 := by omega
  have hz23 : B2 ≠ B3 := by omega
  have hz4 : w.heap.size ≤ w5.heap.size := HSM.out.1.2.2.2.2.size
  clear hB1 hB2 hB3
  obtain ⟨l1, l2, l3, l4⟩ := HSM.out.lt
  refine wpIn_rangeFunc_ownG rfl (by omega) (gf := 58) (lb := #[.pointer (some ⟨bm, 0, none⟩), .pointer (some ⟨bg, 0, none⟩), .pointer (some ⟨bs, 0, none⟩), .pointer (some ⟨br, 0, none⟩)]) rfl trivial (enters_of Try.func58 (by kernel_rfl) rfl)
    (slots_stops 2 (by omega) w5.heap.size bm bg bs br n p a b c d seg row w w5 hz4 HM hn1 l1 l2 l3 l4 HSM.out (Nat.le_refl _)) belowK_t (belowK_b (Nat.le_refl _)) (Below.refl _ _) (fun _ => rfl)
    (fun pre W => ((∀ q ∈ pre, q.2 ≠ mm) ∧ SlotVars B1 B2 B3 mm W) ∧ Below w.heap.size w W)
    (fun c pre W => (c = .ret ∧ ∃ ini last, pre = ini ++ [last] ∧ last.2 = mm ∧ SlotFound B2 B3 last.1 W) ∧ Below w.heap.size w W)
    (OwnFrom.and (Own.from (fun s A B row hs hg hr => ⟨hs.1, cell_kept hs.2.1 hg hr, ⟨cell_kept hs.2.2.1.1 hg hr, (frozen_kept hs.2.2.1.1 hg hr).trans hs.2.2.1.2⟩, cell_kept hs.2.2.2.1 hg hr, (frozen_kept hs.2.2.2.1 hg hr).trans hs.2.2.2.2⟩) _) (ownFrom_below (Nat.le_refl _) hz4))
    (fun c => OwnFrom.and (Own.from (fun s A B row hs hg hr => by obtain ⟨hc, ini, last, e1, e2, e3, e4⟩ := hs; exact ⟨hc, ini, last, e1, e2, cell_kept e3 hg hr, cell_kept e4 hg hr⟩) _) (ownFrom_below (Nat.le_refl _) hz4))
    ⟨⟨by simp, HV5.out⟩, HSM.out.1.2.2.2.2⟩
    (fun x => { tmps := #[.agg #[.int .i64 a, .int .i64 b, .int .i64 c, .int .i64 d], .int .i64 seg, .int .i64 row, .int .i64 (mm : Int), .pointer (some ⟨w.heap.size, 0, none⟩), undef, undef, .pointer (some ⟨B1, 0, none⟩), .pointer (some ⟨B2, 0, none⟩), .pointer (some ⟨B3, 0, none⟩), .int .i64 (x.1 : Int), .int .i64 (x.2 : Int), .agg #[.int .i64 a, .int .i64 b, .int .i64 c, .int .i64 d], .int .i64 seg, .int .i64 row, .func (.func 58) #[] #[.pointer (some ⟨bm, 0, none⟩), .pointer (some ⟨bg, 0, none⟩), .pointer (some ⟨bs, 0, none⟩), .pointer (some ⟨br, 0, none⟩)], .int .i64 (x.1 : Int), .int .i64 (x.2 : Int), undef, undef, undef, undef], defers := [] }) ?assign ?body ?done ?stop
  case assign =>
    intro l x W K hK
    gi_wp2
    exact hK
  case body =>
    rintro l pre x W ⟨⟨hp, hcm, ⟨hc2, hf2⟩, hc3, hf3⟩, hB⟩ _
    by_cases hx : x.2 = mm
    · have hx' : ((x.2 : Int) == (mm : Int)) = true := by rw [hx]; simp
      have hxx := Lib.hid hx
      clear hx
      gi_wp2
      exact ⟨((KeepsOthers.setCell _ _ _).trans (KeepsOthers.setCell _ _ _)).from _, ⟨rfl, pre, x, rfl, hxx.out, cell_other (World.cell?_setCell_same' _ _ _ (by rw [hc2]; rfl)) hz23, World.cell?_setCell_same' _ _ _ (by rw [cell_other hc3 (Ne.symm hz23)]; rfl)⟩, (hB.setCell (p := ⟨B2, 0, none⟩) hz2 _).setCell (p := ⟨B3, 0, none⟩) hz3 _⟩
    · have hx' : ((x.2 : Int) == (mm : Int)) = false := by simp; omega
      have hxx := Lib.hid hx
      clear hx
      gi_wp2
      exact ⟨KeepsFrom.refl _ _, Below.refl _ _, ⟨fun q hq => (List.mem_append.1 hq).elim (hp q) (fun e => by simp at e; subst e; exact hxx.out), hcm, ⟨hc2, hf2⟩, hc3, hf3⟩, hB⟩
  case done =>
    rintro D ys W hD rfl ⟨⟨hne, hcm, ⟨hc2, hf2⟩, hc3, hf3⟩, hB⟩ hK
    have HNE : Hid (∀ k, k < n → memOf p k ≠ mm) := Lib.hid fun k hk => hne (k, memOf p k) (by simp only [upto, List.mem_map, List.mem_range]; exact ⟨k, hk, rfl⟩)
    clear hne
    gi_wp2
    obtain ⟨W2, hW2⟩ : ∃ W2, W2 = (W.setCell ⟨B2, 0, none⟩ (.int .i64 0)).setCell ⟨B3, 0, none⟩ (.bool false) := ⟨_, rfl⟩
    rw [← hW2]
    have hK' : W2.heap[D]? = some (.deferred (some [])) := by
      rw [hW2]; exact ((KeepsOthers.setCell W ⟨B2, 0, none⟩ (.int .i64 0)).trans (KeepsOthers.setCell _ ⟨B3, 0, none⟩ (.bool false))).same D _ hK rfl
    have q2 : W2.cell? ⟨B2, 0, none⟩ = some (.int .i64 0) := by rw [hW2]; exact cell_other (World.cell?_setCell_same' _ _ _ (by rw [hc2]; rfl)) hz23
    have q3 : W2.cell? ⟨B3, 0, none⟩ = some (.bool false) := by rw [hW2]; exact World.cell?_setCell_same' _ _ _ (by rw [cell_other hc3 (Ne.symm hz23)]; rfl)
    have hB2 : Below w.heap.size w W2 := by rw [hW2]; exact (hB.setCell (p := ⟨B2, 0, none⟩) hz2 _).setCell (p := ⟨B3, 0, none⟩) hz3 _
    refine ⟨by simp, .inl ⟨_, _, rfl, run_takeDeferred hK', ?_⟩⟩
    have r2 := cell_kept q2 (grownBy_putObj' _ D (.deferred none)) (fun r e => by cases e; exact ⟨_, hK', rfl⟩)
    have r3 := cell_kept q3 (grownBy_putObj' _ D (.deferred none)) (fun r e => by cases e; exact ⟨_, hK', rfl⟩)
    refine ⟨.tuple #[.int .i64 0, .bool false], ?_, .inl ⟨rfl, HNE.out⟩, hB2.trans (belowK_b (w := w5) hz4 _ D _ _ hD hK' rfl rfl)⟩
    simp [results, Try.results23, go_sem, r2, r3]
  case stop =>
    rintro D c pre W hD ⟨k, hk, rfl⟩ ⟨⟨rfl, ini, last, e1, e2, e3, e4⟩, hB⟩ hK
    gi_wp2
    refine ⟨by simp, .inl ⟨_, _, rfl, run_takeDeferred hK, ?_⟩⟩
    have r2 := cell_kept e3 (grownBy_putObj' _ D (.deferred none)) (fun r e => by cases e; exact ⟨_, hK, rfl⟩)
    have r3 := cell_kept e4 (grownBy_putObj' _ D (.deferred none)) (fun r e => by cases e; exact ⟨_, hK, rfl⟩)
    obtain ⟨k', rfl⟩ : ∃ k', k = k' + 1 := by
      cases k with
      | zero => simp [upto] at e1
      | succ k' => exact ⟨k', rfl⟩
    rw [upto_succ] at e1
    obtain ⟨rfl, e5⟩ := List.append_inj' e1 rfl
    obtain rfl : (k', memOf p k') = last := by simpa using e5
    refine ⟨.tuple #[.int .i64 (k' : Int), .bool true], ?_, .inr ⟨k', by omega, rfl, e2⟩, hB.trans (belowK_b (w := w5) hz4 W D _ _ hD hK rfl rfl)⟩
    simp [results, Try.results23, go_sem, r2, r3]

end Go.Proofs.Ytmggjknljbpbgaa
