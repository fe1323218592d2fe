/- RecordTells: the walk. -/
import Derived.Test.YtjnjkoodeacpdaaRSealed
import Derived.Test.YtjnjkoodeacpdaaRTell
import Derived.Deep.DeepCutAuto
namespace Go.Proofs.Ytjnjkoodeacpdaa
open Go.RowKit

theorem neq_hdr' (h k : RH) (w : World) : (binOp .neq 86 (.agg h.cells) (.agg k.cells)).run Try.prog w = .ok (.bool (!(eqH h k))) w := by
  have h1 := eql_hdr h k w
  rw [run_eql_struct] at h1
  rw [run_neq_struct]
  cases h2 : (Op.equalIn 10000 86 (.agg h.cells) (.agg k.cells)).run Try.prog w with
  | ok b w' =>
    rw [h2] at h1
    simp [Result.andThen] at h1 ⊢
    exact ⟨by rw [h1.1], h1.2⟩
  | halt x w' =>
    rw [h2] at h1
    simp [Result.andThen] at h1
theorem eql_data0 (w : World) : (binOp .eql 110 (.agg #[.int .u32 0, .int .u32 0, .int .i64 0, .int .i64 0, .int .u32 0]) (.agg #[.int .u32 0, .int .u32 0, .int .i64 0, .int .i64 0, .int .u32 0])).run Try.prog w = .ok (.bool true) w := by kernel_rfl
theorem saidK_table (e i c : Nat) (hi : i < 65536) (hc : c < 65536) (W : World) : Calls Try.prog 89 #[.iface 170 (.agg #[.int .u32 ((e : Nat) : Int), .int .i64 ((i : Nat) : Int), .int .i64 ((c : Nat) : Int)])] W fun e' w' => e' = .returned (.tuple #[.agg (⟨1, e, 0, i, c, 0, 0⟩ : RH).cells, .bool true]) ∧ Below W.heap.size W w' := by
  have h := said_table e (i : Int) (c : Int) W (by omega) (by omega)
  have hf : Fits16 (i : Int) (c : Int) := by unfold Fits16; omega
  have hw : withH ⟨1, e, 0, 0, 0, 0, 0⟩ (i : Int) (c : Int) = ⟨1, e, 0, i, c, 0, 0⟩ := by unfold withH; rw [if_pos hf]; simp
  rw [hw, decide_eq_true hf] at h
  exact h
theorem saidK_member (e : Nat) (W : World) : Calls Try.prog 89 #[.iface 172 (.agg #[.int .u32 ((e : Nat) : Int)])] W fun e' w' => e' = .returned (.tuple #[.agg (⟨2, e, 0, 0, 1, 0, 0⟩ : RH).cells, .bool true]) ∧ Below W.heap.size W w' := by
  have h := said_member e W
  have hf : Fits16 0 1 := by unfold Fits16; omega
  have hw : withH ⟨2, e, 0, 0, 0, 0, 0⟩ 0 1 = ⟨2, e, 0, 0, 1, 0, 0⟩ := by unfold withH; rw [if_pos hf]; rfl
  rw [hw, decide_eq_true hf] at h
  exact h
theorem saidK_point (e i c : Nat) (hi : i < 65536) (hc : c < 65536) (W : World) : Calls Try.prog 89 #[.iface 173 (.agg #[.int .u32 ((e : Nat) : Int), .int .i64 ((i : Nat) : Int), .int .i64 ((c : Nat) : Int)])] W fun e' w' => e' = .returned (.tuple #[.agg (⟨3, e, 0, i, c, 0, 0⟩ : RH).cells, .bool true]) ∧ Below W.heap.size W w' := by
  have h := said_point e (i : Int) (c : Int) W (by omega) (by omega)
  have hf : Fits16 (i : Int) (c : Int) := by unfold Fits16; omega
  have hw : withH ⟨3, e, 0, 0, 0, 0, 0⟩ (i : Int) (c : Int) = ⟨3, e, 0, i, c, 0, 0⟩ := by unfold withH; rw [if_pos hf]; simp
  rw [hw, decide_eq_true hf] at h
  exact h
theorem saidK_data (e b i c l : Nat) (hi : i < 65536) (hc : c < 65536) (W : World) : Calls Try.prog 89 #[.iface 110 (.agg #[.int .u32 ((e : Nat) : Int), .int .u32 ((b : Nat) : Int), .int .i64 ((i : Nat) : Int), .int .i64 ((c : Nat) : Int), .int .u32 ((l : Nat) : Int)])] W fun e' w' => e' = .returned (.tuple #[.agg (⟨4, e, b, i, c, l, 0⟩ : RH).cells, .bool true]) ∧ Below W.heap.size W w' := by
  have h := said_data e b (i : Int) (c : Int) l W (by omega) (by omega)
  have hf : Fits16 (i : Int) (c : Int) := by unfold Fits16; omega
  have hw : withH ⟨4, e, b, 0, 0, l, 0⟩ (i : Int) (c : Int) = ⟨4, e, b, i, c, l, 0⟩ := by unfold withH; rw [if_pos hf]; simp
  rw [hw, decide_eq_true hf] at h
  exact h
theorem saidK_parity (e b i c : Nat) (hi : i < 65536) (hc : c < 65536) (W : World) : Calls Try.prog 89 #[.iface 116 (.agg #[.int .u32 ((e : Nat) : Int), .int .u32 ((b : Nat) : Int), .int .i64 ((i : Nat) : Int), .int .i64 ((c : Nat) : Int)])] W fun e' w' => e' = .returned (.tuple #[.agg (⟨5, e, b, i, c, 0, 0⟩ : RH).cells, .bool true]) ∧ Below W.heap.size W w' := by
  have h := said_parity e b (i : Int) (c : Int) W (by omega) (by omega)
  have hf : Fits16 (i : Int) (c : Int) := by unfold Fits16; omega
  have hw : withH ⟨5, e, b, 0, 0, 0, 0⟩ (i : Int) (c : Int) = ⟨5, e, b, i, c, 0, 0⟩ := by unfold withH; rw [if_pos hf]; simp
  rw [hw, decide_eq_true hf] at h
  exact h
theorem saidK_fill (e b : Nat) (W : World) : Calls Try.prog 89 #[.iface 175 (.agg #[.int .u32 ((e : Nat) : Int), .int .u32 ((b : Nat) : Int)])] W fun e' w' => e' = .returned (.tuple #[.agg (⟨6, e, b, 0, 0, 0, 0⟩ : RH).cells, .bool true]) ∧ Below W.heap.size W w' := by
  exact said_fill e b W
set_option maxRecDepth 100000 in
set_option maxHeartbeats 3200000 in
theorem recordTells_table (e b i c l m : Nat) (hi : i < 65536) (hc : c < 65536) (w : World) :
    Calls Try.prog 13 #[.agg (⟨1, e, b, i, c, l, m⟩ : RH).cells] w fun e' w' => e' = .returned (.bool true) ∧ Below w.heap.size w w' := by
  have HT : Hid (∀ W, Calls Try.prog 49 #[.agg #[.int .u8 1, .int .u32 ((e : Nat) : Int), .int .u32 ((b : Nat) : Int), .int .u16 ((i : Nat) : Int), .int .u16 ((c : Nat) : Int), .int .u32 ((l : Nat) : Int), .int .u32 ((m : Nat) : Int)]] W fun e' w' => e' = .returned (.iface 170 (.agg #[.int .u32 ((e : Nat) : Int), .int .i64 ((i : Nat) : Int), .int .i64 ((c : Nat) : Int)])) ∧ Below W.heap.size W w') := Lib.hid fun W => tell_table e b i c l m hi hc W
  have HS : Hid (∀ W, Calls Try.prog 51 #[.iface 170 (.agg #[.int .u32 ((e : Nat) : Int), .int .i64 ((i : Nat) : Int), .int .i64 ((c : Nat) : Int)])] W fun e' w' => e' = .returned (.tuple #[.agg #[.int .u8 1, .int .u32 ((e : Nat) : Int), .int .u32 0, .int .u16 ((i : Nat) : Int), .int .u16 ((c : Nat) : Int), .int .u32 0, .int .u32 0], .bool true]) ∧ Below W.heap.size W w') := Lib.hid fun W => Said_of _ _ _ (fun w0 => saidK_table e i c hi hc w0) W
  have HE : Hid (∀ W, Calls Try.prog 50 #[.iface 170 (.agg #[.int .u32 ((e : Nat) : Int), .int .i64 ((i : Nat) : Int), .int .i64 ((c : Nat) : Int)])] W fun e' w' => e' = .returned (.tuple #[.int .u32 ((e : Nat) : Int), .int .i64 0]) ∧ Below W.heap.size W w') := Lib.hid fun W => Epoch_of _ _ _ (fun w0 => saidK_table e i c hi hc w0) W
  have HA := Lib.hid (asData_table e i c)
  unfold RH.cells
  simp only
  have hh0 := hdr_new (⟨1, e, b, i, c, l, m⟩ : RH) w
  simp only at hh0
  go_enter Try.func13, Try.ntmps13
  go_wp2_with fail
  obtain ⟨W1, hW1⟩ : ∃ W1, W1 = w.alloc (.cells #[.int .u8 1, .int .u32 ((e : Nat) : Int), .int .u32 ((b : Nat) : Int), .int .u16 ((i : Nat) : Int), .int .u16 ((c : Nat) : Int), .int .u32 ((l : Nat) : Int), .int .u32 ((m : Nat) : Int)] 86) := ⟨_, rfl⟩
  have hh1 : HdrAt (⟨1, e, b, i, c, l, m⟩ : RH) w.heap.size W1 := by rw [hW1]; exact hh0
  have hb1 : Below w.heap.size w W1 := by rw [hW1]; exact bel_alloc (Below.refl _ w) _
  have hz1 : W1.heap.size = w.heap.size + 1 := by rw [hW1]; simp
  have e1 : w.alloc (.cells #[.int .u8 1, .int .u32 ((e : Nat) : Int), .int .u32 ((b : Nat) : Int), .int .u16 ((i : Nat) : Int), .int .u16 ((c : Nat) : Int), .int .u32 ((l : Nat) : Int), .int .u32 ((m : Nat) : Int)] 86) = W1 := hW1.symm
  clear hh0 hW1
  first | rw [e1] | skip
  refine (sealed_any _).mono ?_
  rintro e' w2 ⟨rfl, hb2⟩
  clear e1
  have hh2 := hh1.below hb2 (by omega)
  have hb02 := bel_trans hb1 hb2
  have hz2 : w.heap.size < w2.heap.size := by have := hb2.size; omega
  clear hh1 hb1 hb2 hz1
  obtain ⟨c0, c1, c2, c3, c4, c5, c6⟩ := hh2
  simp only at c0 c1 c2 c3 c4 c5 c6
  go_wp2_with fail
  refine (HT.out w2).mono ?_
  rintro e' w3 ⟨rfl, hb3⟩
  have hh3 : HdrAt (⟨1, e, b, i, c, l, m⟩ : RH) w.heap.size w3 := HdrAt.below ⟨c0, c1, c2, c3, c4, c5, c6⟩ hb3 hz2
  have hb03 := bel_trans hb02 hb3
  have hz3 : w.heap.size < w3.heap.size := by have := hb3.size; omega
  clear c0 c1 c2 c3 c4 c5 c6 hb02 hb3 hz2
  obtain ⟨c0, c1, c2, c3, c4, c5, c6⟩ := hh3
  simp only at c0 c1 c2 c3 c4 c5 c6
  go_wp2_with fail
  refine (HS.out w3).mono ?_
  rintro e' w4 ⟨rfl, hb4⟩
  have hh4 : HdrAt (⟨1, e, b, i, c, l, m⟩ : RH) w.heap.size w4 := HdrAt.below ⟨c0, c1, c2, c3, c4, c5, c6⟩ hb4 hz3
  have hb04 := bel_trans hb03 hb4
  have hz4 : w.heap.size < w4.heap.size := by have := hb4.size; omega
  clear c0 c1 c2 c3 c4 c5 c6 hb03 hb4 hz3
  have hy5 := hdr_new (⟨1, e, 0, i, c, 0, 0⟩ : RH) w4
  simp only at hy5
  have hb45 : Below w4.heap.size w4 (w4.alloc (.cells #[.int .u8 1, .int .u32 ((e : Nat) : Int), .int .u32 0, .int .u16 ((i : Nat) : Int), .int .u16 ((c : Nat) : Int), .int .u32 0, .int .u32 0] 86)) := bel_alloc (Below.refl _ w4) _
  have hh5 := hh4.below hb45 hz4
  have hz5 : (w4.alloc (.cells #[.int .u8 1, .int .u32 ((e : Nat) : Int), .int .u32 0, .int .u16 ((i : Nat) : Int), .int .u16 ((c : Nat) : Int), .int .u32 0, .int .u32 0] 86)).heap.size = w4.heap.size + 1 := by simp
  have hp6 := hdr_new (⟨1, e, 0, i, c, 0, 0⟩ : RH) (w4.alloc (.cells #[.int .u8 1, .int .u32 ((e : Nat) : Int), .int .u32 0, .int .u16 ((i : Nat) : Int), .int .u16 ((c : Nat) : Int), .int .u32 0, .int .u32 0] 86))
  simp only at hp6
  rw [hz5] at hp6
  have hb56 : Below (w4.heap.size + 1) (w4.alloc (.cells #[.int .u8 1, .int .u32 ((e : Nat) : Int), .int .u32 0, .int .u16 ((i : Nat) : Int), .int .u16 ((c : Nat) : Int), .int .u32 0, .int .u32 0] 86)) ((w4.alloc (.cells #[.int .u8 1, .int .u32 ((e : Nat) : Int), .int .u32 0, .int .u16 ((i : Nat) : Int), .int .u16 ((c : Nat) : Int), .int .u32 0, .int .u32 0] 86)).alloc (.cells #[.int .u8 1, .int .u32 ((e : Nat) : Int), .int .u32 0, .int .u16 ((i : Nat) : Int), .int .u16 ((c : Nat) : Int), .int .u32 0, .int .u32 0] 86)) := by rw [← hz5]; exact bel_alloc (Below.refl _ _) _
  obtain ⟨W6, hW6⟩ : ∃ W6, W6 = (w4.alloc (.cells #[.int .u8 1, .int .u32 ((e : Nat) : Int), .int .u32 0, .int .u16 ((i : Nat) : Int), .int .u16 ((c : Nat) : Int), .int .u32 0, .int .u32 0] 86)).alloc (.cells #[.int .u8 1, .int .u32 ((e : Nat) : Int), .int .u32 0, .int .u16 ((i : Nat) : Int), .int .u16 ((c : Nat) : Int), .int .u32 0, .int .u32 0] 86) := ⟨_, rfl⟩
  have hy6 : HdrAt (⟨1, e, 0, i, c, 0, 0⟩ : RH) w4.heap.size W6 := by rw [hW6]; exact HdrAt.below hy5 hb56 (by omega)
  have hh6 : HdrAt (⟨1, e, b, i, c, l, m⟩ : RH) w.heap.size W6 := by rw [hW6]; exact hh5.below hb56 (by omega)
  have hp6' : HdrAt (⟨1, e, 0, i, c, 0, 0⟩ : RH) (w4.heap.size + 1) W6 := by rw [hW6]; exact hp6
  have hb06 : Below w.heap.size w W6 := by rw [hW6]; exact bel_alloc (bel_alloc hb04 _) _
  have hz6 : W6.heap.size = w4.heap.size + 2 := by rw [hW6]; simp
  have hc4 : HdrAt (⟨1, e, b, i, c, l, m⟩ : RH) w.heap.size w4 := hh4
  obtain ⟨c0, c1, c2, c3, c4, c5, c6⟩ := hc4
  simp only at c0 c1 c2 c3 c4 c5 c6
  clear hy5 hh5 hp6 hb45 hb56 hz5 hh4 hb04
  have HZ6 := Lib.hid hz6
  have HW6 := Lib.hid hW6
  clear hW6 hz6
  go_wp2_with fail
  rw [← HW6.out]
  refine (HE.out W6).mono ?_
  rintro e' w7 ⟨rfl, hb7⟩
  have hz7 := hb7.size
  have hy7 := hy6.below hb7 (by have := HZ6.out; omega)
  have hh7 := hh6.below hb7 (by have := HZ6.out; omega)
  have hp7 := hp6'.below hb7 (by have := HZ6.out; omega)
  have hb07 := bel_trans hb06 hb7
  clear hy6 hh6 hp6' hb06 hb7 c0 c1 c2 c3 c4 c5 c6
  go_wp2_with fail
  refine (HA.out w7).mono ?_
  rintro e' w8 ⟨rfl, hb8⟩
  have hz8 := hb8.size
  have hy8 := hy7.below hb8 (by have := HZ6.out; omega)
  have hh8 := hh7.below hb8 (by have := HZ6.out; omega)
  have hp8 := hp7.below hb8 (by have := HZ6.out; omega)
  have hb08 := bel_trans hb07 hb8
  clear hy7 hh7 hp7 hb07 hb8
  have hb89 : Below w8.heap.size w8 (w8.alloc (.cells #[.int .u32 0, .int .u32 0, .int .i64 0, .int .i64 0, .int .u32 0] 110)) := bel_alloc (Below.refl _ w8) _
  have hy9 := hy8.below hb89 (by have := HZ6.out; omega)
  have hh9 := hh8.below hb89 (by have := HZ6.out; omega)
  have hp9 := hp8.below hb89 (by have := HZ6.out; omega)
  have hb09 := bel_trans hb08 hb89
  have hd9 : (w8.alloc (.cells #[.int .u32 0, .int .u32 0, .int .i64 0, .int .i64 0, .int .u32 0] 110)).cell? ⟨w8.heap.size, 0, none⟩ = some (.int .u32 0) ∧ (w8.alloc (.cells #[.int .u32 0, .int .u32 0, .int .i64 0, .int .i64 0, .int .u32 0] 110)).cell? ⟨w8.heap.size, 1, none⟩ = some (.int .u32 0) ∧ (w8.alloc (.cells #[.int .u32 0, .int .u32 0, .int .i64 0, .int .i64 0, .int .u32 0] 110)).cell? ⟨w8.heap.size, 2, none⟩ = some (.int .i64 0) ∧ (w8.alloc (.cells #[.int .u32 0, .int .u32 0, .int .i64 0, .int .i64 0, .int .u32 0] 110)).cell? ⟨w8.heap.size, 3, none⟩ = some (.int .i64 0) ∧ (w8.alloc (.cells #[.int .u32 0, .int .u32 0, .int .i64 0, .int .i64 0, .int .u32 0] 110)).cell? ⟨w8.heap.size, 4, none⟩ = some (.int .u32 0) := by
    refine ⟨?_, ?_, ?_, ?_, ?_⟩
    all_goals (rw [World.cell?_alloc_mark w8 #[.int .u32 0, .int .u32 0, .int .i64 0, .int .i64 0, .int .u32 0] 110 (0, 0)]; rfl)
  obtain ⟨W9, hW9⟩ : ∃ W9, W9 = w8.alloc (.cells #[.int .u32 0, .int .u32 0, .int .i64 0, .int .i64 0, .int .u32 0] 110) := ⟨_, rfl⟩
  rw [← hW9] at hy9 hh9 hp9 hb09 hd9
  have HW9 := Lib.hid hW9
  clear hW9 hy8 hh8 hp8 hb08 hb89
  obtain ⟨c0, c1, c2, c3, c4, c5, c6⟩ := hh9
  obtain ⟨y0, y1, y2, y3, y4, y5, y6⟩ := hy9
  obtain ⟨p0, p1, p2, p3, p4, p5, p6⟩ := hp9
  obtain ⟨d0, d1, d2, d3, d4⟩ := hd9
  simp only at c0 c1 c2 c3 c4 c5 c6 y0 y1 y2 y3 y4 y5 y6 p0 p1 p2 p3 p4 p5 p6
  have hq : ∀ w, (binOp .neq 86 (.agg #[.int .u8 1, .int .u32 ((e : Nat) : Int), .int .u32 0, .int .u16 ((i : Nat) : Int), .int .u16 ((c : Nat) : Int), .int .u32 0, .int .u32 0]) (.agg #[.int .u8 1, .int .u32 ((e : Nat) : Int), .int .u32 0, .int .u16 ((i : Nat) : Int), .int .u16 ((c : Nat) : Int), .int .u32 0, .int .u32 0])).run Try.prog w = .ok (.bool false) w := fun w => by
    have h := neq_hdr' (⟨1, e, 0, i, c, 0, 0⟩ : RH) (⟨1, e, 0, i, c, 0, 0⟩ : RH) w
    rw [eqH_self] at h
    exact h
  go_upto_region 20 with fail
  rw [← HW9.out]
  have hq2 := eql_data0
  go_wp2_with fail
  go_quiet (fail)
  go_wp2
  go_ret
  exact ⟨rfl, bel_trans hb09 (bel_drewN W9 _)⟩
set_option maxRecDepth 100000 in
set_option maxHeartbeats 3200000 in
theorem recordTells_member (e b i c l m : Nat) (w : World) :
    Calls Try.prog 13 #[.agg (⟨2, e, b, i, c, l, m⟩ : RH).cells] w fun e' w' => e' = .returned (.bool true) ∧ Below w.heap.size w w' := by
  have HT : Hid (∀ W, Calls Try.prog 49 #[.agg #[.int .u8 2, .int .u32 ((e : Nat) : Int), .int .u32 ((b : Nat) : Int), .int .u16 ((i : Nat) : Int), .int .u16 ((c : Nat) : Int), .int .u32 ((l : Nat) : Int), .int .u32 ((m : Nat) : Int)]] W fun e' w' => e' = .returned (.iface 172 (.agg #[.int .u32 ((e : Nat) : Int)])) ∧ Below W.heap.size W w') := Lib.hid fun W => tell_member e b i c l m W
  have HS : Hid (∀ W, Calls Try.prog 51 #[.iface 172 (.agg #[.int .u32 ((e : Nat) : Int)])] W fun e' w' => e' = .returned (.tuple #[.agg #[.int .u8 2, .int .u32 ((e : Nat) : Int), .int .u32 0, .int .u16 0, .int .u16 1, .int .u32 0, .int .u32 0], .bool true]) ∧ Below W.heap.size W w') := Lib.hid fun W => Said_of _ _ _ (fun w0 => saidK_member e w0) W
  have HE : Hid (∀ W, Calls Try.prog 50 #[.iface 172 (.agg #[.int .u32 ((e : Nat) : Int)])] W fun e' w' => e' = .returned (.tuple #[.int .u32 ((e : Nat) : Int), .int .i64 0]) ∧ Below W.heap.size W w') := Lib.hid fun W => Epoch_of _ _ _ (fun w0 => saidK_member e w0) W
  have HA := Lib.hid (asData_member e)
  unfold RH.cells
  simp only
  have hh0 := hdr_new (⟨2, e, b, i, c, l, m⟩ : RH) w
  simp only at hh0
  go_enter Try.func13, Try.ntmps13
  go_wp2_with fail
  obtain ⟨W1, hW1⟩ : ∃ W1, W1 = w.alloc (.cells #[.int .u8 2, .int .u32 ((e : Nat) : Int), .int .u32 ((b : Nat) : Int), .int .u16 ((i : Nat) : Int), .int .u16 ((c : Nat) : Int), .int .u32 ((l : Nat) : Int), .int .u32 ((m : Nat) : Int)] 86) := ⟨_, rfl⟩
  have hh1 : HdrAt (⟨2, e, b, i, c, l, m⟩ : RH) w.heap.size W1 := by rw [hW1]; exact hh0
  have hb1 : Below w.heap.size w W1 := by rw [hW1]; exact bel_alloc (Below.refl _ w) _
  have hz1 : W1.heap.size = w.heap.size + 1 := by rw [hW1]; simp
  have e1 : w.alloc (.cells #[.int .u8 2, .int .u32 ((e : Nat) : Int), .int .u32 ((b : Nat) : Int), .int .u16 ((i : Nat) : Int), .int .u16 ((c : Nat) : Int), .int .u32 ((l : Nat) : Int), .int .u32 ((m : Nat) : Int)] 86) = W1 := hW1.symm
  clear hh0 hW1
  first | rw [e1] | skip
  refine (sealed_any _).mono ?_
  rintro e' w2 ⟨rfl, hb2⟩
  clear e1
  have hh2 := hh1.below hb2 (by omega)
  have hb02 := bel_trans hb1 hb2
  have hz2 : w.heap.size < w2.heap.size := by have := hb2.size; omega
  clear hh1 hb1 hb2 hz1
  obtain ⟨c0, c1, c2, c3, c4, c5, c6⟩ := hh2
  simp only at c0 c1 c2 c3 c4 c5 c6
  go_wp2_with fail
  refine (HT.out w2).mono ?_
  rintro e' w3 ⟨rfl, hb3⟩
  have hh3 : HdrAt (⟨2, e, b, i, c, l, m⟩ : RH) w.heap.size w3 := HdrAt.below ⟨c0, c1, c2, c3, c4, c5, c6⟩ hb3 hz2
  have hb03 := bel_trans hb02 hb3
  have hz3 : w.heap.size < w3.heap.size := by have := hb3.size; omega
  clear c0 c1 c2 c3 c4 c5 c6 hb02 hb3 hz2
  obtain ⟨c0, c1, c2, c3, c4, c5, c6⟩ := hh3
  simp only at c0 c1 c2 c3 c4 c5 c6
  go_wp2_with fail
  refine (HS.out w3).mono ?_
  rintro e' w4 ⟨rfl, hb4⟩
  have hh4 : HdrAt (⟨2, e, b, i, c, l, m⟩ : RH) w.heap.size w4 := HdrAt.below ⟨c0, c1, c2, c3, c4, c5, c6⟩ hb4 hz3
  have hb04 := bel_trans hb03 hb4
  have hz4 : w.heap.size < w4.heap.size := by have := hb4.size; omega
  clear c0 c1 c2 c3 c4 c5 c6 hb03 hb4 hz3
  have hy5 := hdr_new (⟨2, e, 0, 0, 1, 0, 0⟩ : RH) w4
  simp only at hy5
  have hb45 : Below w4.heap.size w4 (w4.alloc (.cells #[.int .u8 2, .int .u32 ((e : Nat) : Int), .int .u32 0, .int .u16 0, .int .u16 1, .int .u32 0, .int .u32 0] 86)) := bel_alloc (Below.refl _ w4) _
  have hh5 := hh4.below hb45 hz4
  have hz5 : (w4.alloc (.cells #[.int .u8 2, .int .u32 ((e : Nat) : Int), .int .u32 0, .int .u16 0, .int .u16 1, .int .u32 0, .int .u32 0] 86)).heap.size = w4.heap.size + 1 := by simp
  have hp6 := hdr_new (⟨2, e, 0, 0, 1, 0, 0⟩ : RH) (w4.alloc (.cells #[.int .u8 2, .int .u32 ((e : Nat) : Int), .int .u32 0, .int .u16 0, .int .u16 1, .int .u32 0, .int .u32 0] 86))
  simp only at hp6
  rw [hz5] at hp6
  have hb56 : Below (w4.heap.size + 1) (w4.alloc (.cells #[.int .u8 2, .int .u32 ((e : Nat) : Int), .int .u32 0, .int .u16 0, .int .u16 1, .int .u32 0, .int .u32 0] 86)) ((w4.alloc (.cells #[.int .u8 2, .int .u32 ((e : Nat) : Int), .int .u32 0, .int .u16 0, .int .u16 1, .int .u32 0, .int .u32 0] 86)).alloc (.cells #[.int .u8 2, .int .u32 ((e : Nat) : Int), .int .u32 0, .int .u16 0, .int .u16 1, .int .u32 0, .int .u32 0] 86)) := by rw [← hz5]; exact bel_alloc (Below.refl _ _) _
  obtain ⟨W6, hW6⟩ : ∃ W6, W6 = (w4.alloc (.cells #[.int .u8 2, .int .u32 ((e : Nat) : Int), .int .u32 0, .int .u16 0, .int .u16 1, .int .u32 0, .int .u32 0] 86)).alloc (.cells #[.int .u8 2, .int .u32 ((e : Nat) : Int), .int .u32 0, .int .u16 0, .int .u16 1, .int .u32 0, .int .u32 0] 86) := ⟨_, rfl⟩
  have hy6 : HdrAt (⟨2, e, 0, 0, 1, 0, 0⟩ : RH) w4.heap.size W6 := by rw [hW6]; exact HdrAt.below hy5 hb56 (by omega)
  have hh6 : HdrAt (⟨2, e, b, i, c, l, m⟩ : RH) w.heap.size W6 := by rw [hW6]; exact hh5.below hb56 (by omega)
  have hp6' : HdrAt (⟨2, e, 0, 0, 1, 0, 0⟩ : RH) (w4.heap.size + 1) W6 := by rw [hW6]; exact hp6
  have hb06 : Below w.heap.size w W6 := by rw [hW6]; exact bel_alloc (bel_alloc hb04 _) _
  have hz6 : W6.heap.size = w4.heap.size + 2 := by rw [hW6]; simp
  have hc4 : HdrAt (⟨2, e, b, i, c, l, m⟩ : RH) w.heap.size w4 := hh4
  obtain ⟨c0, c1, c2, c3, c4, c5, c6⟩ := hc4
  simp only at c0 c1 c2 c3 c4 c5 c6
  clear hy5 hh5 hp6 hb45 hb56 hz5 hh4 hb04
  have HZ6 := Lib.hid hz6
  have HW6 := Lib.hid hW6
  clear hW6 hz6
  go_wp2_with fail
  rw [← HW6.out]
  refine (HE.out W6).mono ?_
  rintro e' w7 ⟨rfl, hb7⟩
  have hz7 := hb7.size
  have hy7 := hy6.below hb7 (by have := HZ6.out; omega)
  have hh7 := hh6.below hb7 (by have := HZ6.out; omega)
  have hp7 := hp6'.below hb7 (by have := HZ6.out; omega)
  have hb07 := bel_trans hb06 hb7
  clear hy6 hh6 hp6' hb06 hb7 c0 c1 c2 c3 c4 c5 c6
  go_wp2_with fail
  refine (HA.out w7).mono ?_
  rintro e' w8 ⟨rfl, hb8⟩
  have hz8 := hb8.size
  have hy8 := hy7.below hb8 (by have := HZ6.out; omega)
  have hh8 := hh7.below hb8 (by have := HZ6.out; omega)
  have hp8 := hp7.below hb8 (by have := HZ6.out; omega)
  have hb08 := bel_trans hb07 hb8
  clear hy7 hh7 hp7 hb07 hb8
  have hb89 : Below w8.heap.size w8 (w8.alloc (.cells #[.int .u32 0, .int .u32 0, .int .i64 0, .int .i64 0, .int .u32 0] 110)) := bel_alloc (Below.refl _ w8) _
  have hy9 := hy8.below hb89 (by have := HZ6.out; omega)
  have hh9 := hh8.below hb89 (by have := HZ6.out; omega)
  have hp9 := hp8.below hb89 (by have := HZ6.out; omega)
  have hb09 := bel_trans hb08 hb89
  have hd9 : (w8.alloc (.cells #[.int .u32 0, .int .u32 0, .int .i64 0, .int .i64 0, .int .u32 0] 110)).cell? ⟨w8.heap.size, 0, none⟩ = some (.int .u32 0) ∧ (w8.alloc (.cells #[.int .u32 0, .int .u32 0, .int .i64 0, .int .i64 0, .int .u32 0] 110)).cell? ⟨w8.heap.size, 1, none⟩ = some (.int .u32 0) ∧ (w8.alloc (.cells #[.int .u32 0, .int .u32 0, .int .i64 0, .int .i64 0, .int .u32 0] 110)).cell? ⟨w8.heap.size, 2, none⟩ = some (.int .i64 0) ∧ (w8.alloc (.cells #[.int .u32 0, .int .u32 0, .int .i64 0, .int .i64 0, .int .u32 0] 110)).cell? ⟨w8.heap.size, 3, none⟩ = some (.int .i64 0) ∧ (w8.alloc (.cells #[.int .u32 0, .int .u32 0, .int .i64 0, .int .i64 0, .int .u32 0] 110)).cell? ⟨w8.heap.size, 4, none⟩ = some (.int .u32 0) := by
    refine ⟨?_, ?_, ?_, ?_, ?_⟩
    all_goals (rw [World.cell?_alloc_mark w8 #[.int .u32 0, .int .u32 0, .int .i64 0, .int .i64 0, .int .u32 0] 110 (0, 0)]; rfl)
  obtain ⟨W9, hW9⟩ : ∃ W9, W9 = w8.alloc (.cells #[.int .u32 0, .int .u32 0, .int .i64 0, .int .i64 0, .int .u32 0] 110) := ⟨_, rfl⟩
  rw [← hW9] at hy9 hh9 hp9 hb09 hd9
  have HW9 := Lib.hid hW9
  clear hW9 hy8 hh8 hp8 hb08 hb89
  obtain ⟨c0, c1, c2, c3, c4, c5, c6⟩ := hh9
  obtain ⟨y0, y1, y2, y3, y4, y5, y6⟩ := hy9
  obtain ⟨p0, p1, p2, p3, p4, p5, p6⟩ := hp9
  obtain ⟨d0, d1, d2, d3, d4⟩ := hd9
  simp only at c0 c1 c2 c3 c4 c5 c6 y0 y1 y2 y3 y4 y5 y6 p0 p1 p2 p3 p4 p5 p6
  have hq : ∀ w, (binOp .neq 86 (.agg #[.int .u8 2, .int .u32 ((e : Nat) : Int), .int .u32 0, .int .u16 0, .int .u16 1, .int .u32 0, .int .u32 0]) (.agg #[.int .u8 2, .int .u32 ((e : Nat) : Int), .int .u32 0, .int .u16 0, .int .u16 1, .int .u32 0, .int .u32 0])).run Try.prog w = .ok (.bool false) w := fun w => by
    have h := neq_hdr' (⟨2, e, 0, 0, 1, 0, 0⟩ : RH) (⟨2, e, 0, 0, 1, 0, 0⟩ : RH) w
    rw [eqH_self] at h
    exact h
  go_upto_region 20 with fail
  rw [← HW9.out]
  have hq2 := eql_data0
  go_wp2_with fail
  go_quiet (fail)
  go_wp2
  go_ret
  exact ⟨rfl, bel_trans hb09 (bel_drewN W9 _)⟩
set_option maxRecDepth 100000 in
set_option maxHeartbeats 3200000 in
theorem recordTells_point (e b i c l m : Nat) (hi : i < 65536) (hc : c < 65536) (w : World) :
    Calls Try.prog 13 #[.agg (⟨3, e, b, i, c, l, m⟩ : RH).cells] w fun e' w' => e' = .returned (.bool true) ∧ Below w.heap.size w w' := by
  have HT : Hid (∀ W, Calls Try.prog 49 #[.agg #[.int .u8 3, .int .u32 ((e : Nat) : Int), .int .u32 ((b : Nat) : Int), .int .u16 ((i : Nat) : Int), .int .u16 ((c : Nat) : Int), .int .u32 ((l : Nat) : Int), .int .u32 ((m : Nat) : Int)]] W fun e' w' => e' = .returned (.iface 173 (.agg #[.int .u32 ((e : Nat) : Int), .int .i64 ((i : Nat) : Int), .int .i64 ((c : Nat) : Int)])) ∧ Below W.heap.size W w') := Lib.hid fun W => tell_point e b i c l m hi hc W
  have HS : Hid (∀ W, Calls Try.prog 51 #[.iface 173 (.agg #[.int .u32 ((e : Nat) : Int), .int .i64 ((i : Nat) : Int), .int .i64 ((c : Nat) : Int)])] W fun e' w' => e' = .returned (.tuple #[.agg #[.int .u8 3, .int .u32 ((e : Nat) : Int), .int .u32 0, .int .u16 ((i : Nat) : Int), .int .u16 ((c : Nat) : Int), .int .u32 0, .int .u32 0], .bool true]) ∧ Below W.heap.size W w') := Lib.hid fun W => Said_of _ _ _ (fun w0 => saidK_point e i c hi hc w0) W
  have HE : Hid (∀ W, Calls Try.prog 50 #[.iface 173 (.agg #[.int .u32 ((e : Nat) : Int), .int .i64 ((i : Nat) : Int), .int .i64 ((c : Nat) : Int)])] W fun e' w' => e' = .returned (.tuple #[.int .u32 ((e : Nat) : Int), .int .i64 0]) ∧ Below W.heap.size W w') := Lib.hid fun W => Epoch_of _ _ _ (fun w0 => saidK_point e i c hi hc w0) W
  have HA := Lib.hid (asData_point e i c)
  unfold RH.cells
  simp only
  have hh0 := hdr_new (⟨3, e, b, i, c, l, m⟩ : RH) w
  simp only at hh0
  go_enter Try.func13, Try.ntmps13
  go_wp2_with fail
  obtain ⟨W1, hW1⟩ : ∃ W1, W1 = w.alloc (.cells #[.int .u8 3, .int .u32 ((e : Nat) : Int), .int .u32 ((b : Nat) : Int), .int .u16 ((i : Nat) : Int), .int .u16 ((c : Nat) : Int), .int .u32 ((l : Nat) : Int), .int .u32 ((m : Nat) : Int)] 86) := ⟨_, rfl⟩
  have hh1 : HdrAt (⟨3, e, b, i, c, l, m⟩ : RH) w.heap.size W1 := by rw [hW1]; exact hh0
  have hb1 : Below w.heap.size w W1 := by rw [hW1]; exact bel_alloc (Below.refl _ w) _
  have hz1 : W1.heap.size = w.heap.size + 1 := by rw [hW1]; simp
  have e1 : w.alloc (.cells #[.int .u8 3, .int .u32 ((e : Nat) : Int), .int .u32 ((b : Nat) : Int), .int .u16 ((i : Nat) : Int), .int .u16 ((c : Nat) : Int), .int .u32 ((l : Nat) : Int), .int .u32 ((m : Nat) : Int)] 86) = W1 := hW1.symm
  clear hh0 hW1
  first | rw [e1] | skip
  refine (sealed_any _).mono ?_
  rintro e' w2 ⟨rfl, hb2⟩
  clear e1
  have hh2 := hh1.below hb2 (by omega)
  have hb02 := bel_trans hb1 hb2
  have hz2 : w.heap.size < w2.heap.size := by have := hb2.size; omega
  clear hh1 hb1 hb2 hz1
  obtain ⟨c0, c1, c2, c3, c4, c5, c6⟩ := hh2
  simp only at c0 c1 c2 c3 c4 c5 c6
  go_wp2_with fail
  refine (HT.out w2).mono ?_
  rintro e' w3 ⟨rfl, hb3⟩
  have hh3 : HdrAt (⟨3, e, b, i, c, l, m⟩ : RH) w.heap.size w3 := HdrAt.below ⟨c0, c1, c2, c3, c4, c5, c6⟩ hb3 hz2
  have hb03 := bel_trans hb02 hb3
  have hz3 : w.heap.size < w3.heap.size := by have := hb3.size; omega
  clear c0 c1 c2 c3 c4 c5 c6 hb02 hb3 hz2
  obtain ⟨c0, c1, c2, c3, c4, c5, c6⟩ := hh3
  simp only at c0 c1 c2 c3 c4 c5 c6
  go_wp2_with fail
  refine (HS.out w3).mono ?_
  rintro e' w4 ⟨rfl, hb4⟩
  have hh4 : HdrAt (⟨3, e, b, i, c, l, m⟩ : RH) w.heap.size w4 := HdrAt.below ⟨c0, c1, c2, c3, c4, c5, c6⟩ hb4 hz3
  have hb04 := bel_trans hb03 hb4
  have hz4 : w.heap.size < w4.heap.size := by have := hb4.size; omega
  clear c0 c1 c2 c3 c4 c5 c6 hb03 hb4 hz3
  have hy5 := hdr_new (⟨3, e, 0, i, c, 0, 0⟩ : RH) w4
  simp only at hy5
  have hb45 : Below w4.heap.size w4 (w4.alloc (.cells #[.int .u8 3, .int .u32 ((e : Nat) : Int), .int .u32 0, .int .u16 ((i : Nat) : Int), .int .u16 ((c : Nat) : Int), .int .u32 0, .int .u32 0] 86)) := bel_alloc (Below.refl _ w4) _
  have hh5 := hh4.below hb45 hz4
  have hz5 : (w4.alloc (.cells #[.int .u8 3, .int .u32 ((e : Nat) : Int), .int .u32 0, .int .u16 ((i : Nat) : Int), .int .u16 ((c : Nat) : Int), .int .u32 0, .int .u32 0] 86)).heap.size = w4.heap.size + 1 := by simp
  have hp6 := hdr_new (⟨3, e, 0, i, c, 0, 0⟩ : RH) (w4.alloc (.cells #[.int .u8 3, .int .u32 ((e : Nat) : Int), .int .u32 0, .int .u16 ((i : Nat) : Int), .int .u16 ((c : Nat) : Int), .int .u32 0, .int .u32 0] 86))
  simp only at hp6
  rw [hz5] at hp6
  have hb56 : Below (w4.heap.size + 1) (w4.alloc (.cells #[.int .u8 3, .int .u32 ((e : Nat) : Int), .int .u32 0, .int .u16 ((i : Nat) : Int), .int .u16 ((c : Nat) : Int), .int .u32 0, .int .u32 0] 86)) ((w4.alloc (.cells #[.int .u8 3, .int .u32 ((e : Nat) : Int), .int .u32 0, .int .u16 ((i : Nat) : Int), .int .u16 ((c : Nat) : Int), .int .u32 0, .int .u32 0] 86)).alloc (.cells #[.int .u8 3, .int .u32 ((e : Nat) : Int), .int .u32 0, .int .u16 ((i : Nat) : Int), .int .u16 ((c : Nat) : Int), .int .u32 0, .int .u32 0] 86)) := by rw [← hz5]; exact bel_alloc (Below.refl _ _) _
  obtain ⟨W6, hW6⟩ : ∃ W6, W6 = (w4.alloc (.cells #[.int .u8 3, .int .u32 ((e : Nat) : Int), .int .u32 0, .int .u16 ((i : Nat) : Int), .int .u16 ((c : Nat) : Int), .int .u32 0, .int .u32 0] 86)).alloc (.cells #[.int .u8 3, .int .u32 ((e : Nat) : Int), .int .u32 0, .int .u16 ((i : Nat) : Int), .int .u16 ((c : Nat) : Int), .int .u32 0, .int .u32 0] 86) := ⟨_, rfl⟩
  have hy6 : HdrAt (⟨3, e, 0, i, c, 0, 0⟩ : RH) w4.heap.size W6 := by rw [hW6]; exact HdrAt.below hy5 hb56 (by omega)
  have hh6 : HdrAt (⟨3, e, b, i, c, l, m⟩ : RH) w.heap.size W6 := by rw [hW6]; exact hh5.below hb56 (by omega)
  have hp6' : HdrAt (⟨3, e, 0, i, c, 0, 0⟩ : RH) (w4.heap.size + 1) W6 := by rw [hW6]; exact hp6
  have hb06 : Below w.heap.size w W6 := by rw [hW6]; exact bel_alloc (bel_alloc hb04 _) _
  have hz6 : W6.heap.size = w4.heap.size + 2 := by rw [hW6]; simp
  have hc4 : HdrAt (⟨3, e, b, i, c, l, m⟩ : RH) w.heap.size w4 := hh4
  obtain ⟨c0, c1, c2, c3, c4, c5, c6⟩ := hc4
  simp only at c0 c1 c2 c3 c4 c5 c6
  clear hy5 hh5 hp6 hb45 hb56 hz5 hh4 hb04
  have HZ6 := Lib.hid hz6
  have HW6 := Lib.hid hW6
  clear hW6 hz6
  go_wp2_with fail
  rw [← HW6.out]
  refine (HE.out W6).mono ?_
  rintro e' w7 ⟨rfl, hb7⟩
  have hz7 := hb7.size
  have hy7 := hy6.below hb7 (by have := HZ6.out; omega)
  have hh7 := hh6.below hb7 (by have := HZ6.out; omega)
  have hp7 := hp6'.below hb7 (by have := HZ6.out; omega)
  have hb07 := bel_trans hb06 hb7
  clear hy6 hh6 hp6' hb06 hb7 c0 c1 c2 c3 c4 c5 c6
  go_wp2_with fail
  refine (HA.out w7).mono ?_
  rintro e' w8 ⟨rfl, hb8⟩
  have hz8 := hb8.size
  have hy8 := hy7.below hb8 (by have := HZ6.out; omega)
  have hh8 := hh7.below hb8 (by have := HZ6.out; omega)
  have hp8 := hp7.below hb8 (by have := HZ6.out; omega)
  have hb08 := bel_trans hb07 hb8
  clear hy7 hh7 hp7 hb07 hb8
  have hb89 : Below w8.heap.size w8 (w8.alloc (.cells #[.int .u32 0, .int .u32 0, .int .i64 0, .int .i64 0, .int .u32 0] 110)) := bel_alloc (Below.refl _ w8) _
  have hy9 := hy8.below hb89 (by have := HZ6.out; omega)
  have hh9 := hh8.below hb89 (by have := HZ6.out; omega)
  have hp9 := hp8.below hb89 (by have := HZ6.out; omega)
  have hb09 := bel_trans hb08 hb89
  have hd9 : (w8.alloc (.cells #[.int .u32 0, .int .u32 0, .int .i64 0, .int .i64 0, .int .u32 0] 110)).cell? ⟨w8.heap.size, 0, none⟩ = some (.int .u32 0) ∧ (w8.alloc (.cells #[.int .u32 0, .int .u32 0, .int .i64 0, .int .i64 0, .int .u32 0] 110)).cell? ⟨w8.heap.size, 1, none⟩ = some (.int .u32 0) ∧ (w8.alloc (.cells #[.int .u32 0, .int .u32 0, .int .i64 0, .int .i64 0, .int .u32 0] 110)).cell? ⟨w8.heap.size, 2, none⟩ = some (.int .i64 0) ∧ (w8.alloc (.cells #[.int .u32 0, .int .u32 0, .int .i64 0, .int .i64 0, .int .u32 0] 110)).cell? ⟨w8.heap.size, 3, none⟩ = some (.int .i64 0) ∧ (w8.alloc (.cells #[.int .u32 0, .int .u32 0, .int .i64 0, .int .i64 0, .int .u32 0] 110)).cell? ⟨w8.heap.size, 4, none⟩ = some (.int .u32 0) := by
    refine ⟨?_, ?_, ?_, ?_, ?_⟩
    all_goals (rw [World.cell?_alloc_mark w8 #[.int .u32 0, .int .u32 0, .int .i64 0, .int .i64 0, .int .u32 0] 110 (0, 0)]; rfl)
  obtain ⟨W9, hW9⟩ : ∃ W9, W9 = w8.alloc (.cells #[.int .u32 0, .int .u32 0, .int .i64 0, .int .i64 0, .int .u32 0] 110) := ⟨_, rfl⟩
  rw [← hW9] at hy9 hh9 hp9 hb09 hd9
  have HW9 := Lib.hid hW9
  clear hW9 hy8 hh8 hp8 hb08 hb89
  obtain ⟨c0, c1, c2, c3, c4, c5, c6⟩ := hh9
  obtain ⟨y0, y1, y2, y3, y4, y5, y6⟩ := hy9
  obtain ⟨p0, p1, p2, p3, p4, p5, p6⟩ := hp9
  obtain ⟨d0, d1, d2, d3, d4⟩ := hd9
  simp only at c0 c1 c2 c3 c4 c5 c6 y0 y1 y2 y3 y4 y5 y6 p0 p1 p2 p3 p4 p5 p6
  have hq : ∀ w, (binOp .neq 86 (.agg #[.int .u8 3, .int .u32 ((e : Nat) : Int), .int .u32 0, .int .u16 ((i : Nat) : Int), .int .u16 ((c : Nat) : Int), .int .u32 0, .int .u32 0]) (.agg #[.int .u8 3, .int .u32 ((e : Nat) : Int), .int .u32 0, .int .u16 ((i : Nat) : Int), .int .u16 ((c : Nat) : Int), .int .u32 0, .int .u32 0])).run Try.prog w = .ok (.bool false) w := fun w => by
    have h := neq_hdr' (⟨3, e, 0, i, c, 0, 0⟩ : RH) (⟨3, e, 0, i, c, 0, 0⟩ : RH) w
    rw [eqH_self] at h
    exact h
  go_upto_region 20 with fail
  rw [← HW9.out]
  have hq2 := eql_data0
  go_wp2_with fail
  go_quiet (fail)
  go_wp2
  go_ret
  exact ⟨rfl, bel_trans hb09 (bel_drewN W9 _)⟩
set_option maxRecDepth 100000 in
set_option maxHeartbeats 3200000 in
theorem recordTells_parity (e b i c l m : Nat) (hi : i < 65536) (hc : c < 65536) (w : World) :
    Calls Try.prog 13 #[.agg (⟨5, e, b, i, c, l, m⟩ : RH).cells] w fun e' w' => e' = .returned (.bool true) ∧ Below w.heap.size w w' := by
  have HT : Hid (∀ W, Calls Try.prog 49 #[.agg #[.int .u8 5, .int .u32 ((e : Nat) : Int), .int .u32 ((b : Nat) : Int), .int .u16 ((i : Nat) : Int), .int .u16 ((c : Nat) : Int), .int .u32 ((l : Nat) : Int), .int .u32 ((m : Nat) : Int)]] W fun e' w' => e' = .returned (.iface 116 (.agg #[.int .u32 ((e : Nat) : Int), .int .u32 ((b : Nat) : Int), .int .i64 ((i : Nat) : Int), .int .i64 ((c : Nat) : Int)])) ∧ Below W.heap.size W w') := Lib.hid fun W => tell_parity e b i c l m hi hc W
  have HS : Hid (∀ W, Calls Try.prog 51 #[.iface 116 (.agg #[.int .u32 ((e : Nat) : Int), .int .u32 ((b : Nat) : Int), .int .i64 ((i : Nat) : Int), .int .i64 ((c : Nat) : Int)])] W fun e' w' => e' = .returned (.tuple #[.agg #[.int .u8 5, .int .u32 ((e : Nat) : Int), .int .u32 ((b : Nat) : Int), .int .u16 ((i : Nat) : Int), .int .u16 ((c : Nat) : Int), .int .u32 0, .int .u32 0], .bool true]) ∧ Below W.heap.size W w') := Lib.hid fun W => Said_of _ _ _ (fun w0 => saidK_parity e b i c hi hc w0) W
  have HE : Hid (∀ W, Calls Try.prog 50 #[.iface 116 (.agg #[.int .u32 ((e : Nat) : Int), .int .u32 ((b : Nat) : Int), .int .i64 ((i : Nat) : Int), .int .i64 ((c : Nat) : Int)])] W fun e' w' => e' = .returned (.tuple #[.int .u32 ((e : Nat) : Int), .int .i64 0]) ∧ Below W.heap.size W w') := Lib.hid fun W => Epoch_of _ _ _ (fun w0 => saidK_parity e b i c hi hc w0) W
  have HA := Lib.hid (asData_parity e b i c)
  unfold RH.cells
  simp only
  have hh0 := hdr_new (⟨5, e, b, i, c, l, m⟩ : RH) w
  simp only at hh0
  go_enter Try.func13, Try.ntmps13
  go_wp2_with fail
  obtain ⟨W1, hW1⟩ : ∃ W1, W1 = w.alloc (.cells #[.int .u8 5, .int .u32 ((e : Nat) : Int), .int .u32 ((b : Nat) : Int), .int .u16 ((i : Nat) : Int), .int .u16 ((c : Nat) : Int), .int .u32 ((l : Nat) : Int), .int .u32 ((m : Nat) : Int)] 86) := ⟨_, rfl⟩
  have hh1 : HdrAt (⟨5, e, b, i, c, l, m⟩ : RH) w.heap.size W1 := by rw [hW1]; exact hh0
  have hb1 : Below w.heap.size w W1 := by rw [hW1]; exact bel_alloc (Below.refl _ w) _
  have hz1 : W1.heap.size = w.heap.size + 1 := by rw [hW1]; simp
  have e1 : w.alloc (.cells #[.int .u8 5, .int .u32 ((e : Nat) : Int), .int .u32 ((b : Nat) : Int), .int .u16 ((i : Nat) : Int), .int .u16 ((c : Nat) : Int), .int .u32 ((l : Nat) : Int), .int .u32 ((m : Nat) : Int)] 86) = W1 := hW1.symm
  clear hh0 hW1
  first | rw [e1] | skip
  refine (sealed_any _).mono ?_
  rintro e' w2 ⟨rfl, hb2⟩
  clear e1
  have hh2 := hh1.below hb2 (by omega)
  have hb02 := bel_trans hb1 hb2
  have hz2 : w.heap.size < w2.heap.size := by have := hb2.size; omega
  clear hh1 hb1 hb2 hz1
  obtain ⟨c0, c1, c2, c3, c4, c5, c6⟩ := hh2
  simp only at c0 c1 c2 c3 c4 c5 c6
  go_wp2_with fail
  refine (HT.out w2).mono ?_
  rintro e' w3 ⟨rfl, hb3⟩
  have hh3 : HdrAt (⟨5, e, b, i, c, l, m⟩ : RH) w.heap.size w3 := HdrAt.below ⟨c0, c1, c2, c3, c4, c5, c6⟩ hb3 hz2
  have hb03 := bel_trans hb02 hb3
  have hz3 : w.heap.size < w3.heap.size := by have := hb3.size; omega
  clear c0 c1 c2 c3 c4 c5 c6 hb02 hb3 hz2
  obtain ⟨c0, c1, c2, c3, c4, c5, c6⟩ := hh3
  simp only at c0 c1 c2 c3 c4 c5 c6
  go_wp2_with fail
  refine (HS.out w3).mono ?_
  rintro e' w4 ⟨rfl, hb4⟩
  have hh4 : HdrAt (⟨5, e, b, i, c, l, m⟩ : RH) w.heap.size w4 := HdrAt.below ⟨c0, c1, c2, c3, c4, c5, c6⟩ hb4 hz3
  have hb04 := bel_trans hb03 hb4
  have hz4 : w.heap.size < w4.heap.size := by have := hb4.size; omega
  clear c0 c1 c2 c3 c4 c5 c6 hb03 hb4 hz3
  have hy5 := hdr_new (⟨5, e, b, i, c, 0, 0⟩ : RH) w4
  simp only at hy5
  have hb45 : Below w4.heap.size w4 (w4.alloc (.cells #[.int .u8 5, .int .u32 ((e : Nat) : Int), .int .u32 ((b : Nat) : Int), .int .u16 ((i : Nat) : Int), .int .u16 ((c : Nat) : Int), .int .u32 0, .int .u32 0] 86)) := bel_alloc (Below.refl _ w4) _
  have hh5 := hh4.below hb45 hz4
  have hz5 : (w4.alloc (.cells #[.int .u8 5, .int .u32 ((e : Nat) : Int), .int .u32 ((b : Nat) : Int), .int .u16 ((i : Nat) : Int), .int .u16 ((c : Nat) : Int), .int .u32 0, .int .u32 0] 86)).heap.size = w4.heap.size + 1 := by simp
  have hp6 := hdr_new (⟨5, e, b, i, c, 0, 0⟩ : RH) (w4.alloc (.cells #[.int .u8 5, .int .u32 ((e : Nat) : Int), .int .u32 ((b : Nat) : Int), .int .u16 ((i : Nat) : Int), .int .u16 ((c : Nat) : Int), .int .u32 0, .int .u32 0] 86))
  simp only at hp6
  rw [hz5] at hp6
  have hb56 : Below (w4.heap.size + 1) (w4.alloc (.cells #[.int .u8 5, .int .u32 ((e : Nat) : Int), .int .u32 ((b : Nat) : Int), .int .u16 ((i : Nat) : Int), .int .u16 ((c : Nat) : Int), .int .u32 0, .int .u32 0] 86)) ((w4.alloc (.cells #[.int .u8 5, .int .u32 ((e : Nat) : Int), .int .u32 ((b : Nat) : Int), .int .u16 ((i : Nat) : Int), .int .u16 ((c : Nat) : Int), .int .u32 0, .int .u32 0] 86)).alloc (.cells #[.int .u8 5, .int .u32 ((e : Nat) : Int), .int .u32 ((b : Nat) : Int), .int .u16 ((i : Nat) : Int), .int .u16 ((c : Nat) : Int), .int .u32 0, .int .u32 0] 86)) := by rw [← hz5]; exact bel_alloc (Below.refl _ _) _
  obtain ⟨W6, hW6⟩ : ∃ W6, W6 = (w4.alloc (.cells #[.int .u8 5, .int .u32 ((e : Nat) : Int), .int .u32 ((b : Nat) : Int), .int .u16 ((i : Nat) : Int), .int .u16 ((c : Nat) : Int), .int .u32 0, .int .u32 0] 86)).alloc (.cells #[.int .u8 5, .int .u32 ((e : Nat) : Int), .int .u32 ((b : Nat) : Int), .int .u16 ((i : Nat) : Int), .int .u16 ((c : Nat) : Int), .int .u32 0, .int .u32 0] 86) := ⟨_, rfl⟩
  have hy6 : HdrAt (⟨5, e, b, i, c, 0, 0⟩ : RH) w4.heap.size W6 := by rw [hW6]; exact HdrAt.below hy5 hb56 (by omega)
  have hh6 : HdrAt (⟨5, e, b, i, c, l, m⟩ : RH) w.heap.size W6 := by rw [hW6]; exact hh5.below hb56 (by omega)
  have hp6' : HdrAt (⟨5, e, b, i, c, 0, 0⟩ : RH) (w4.heap.size + 1) W6 := by rw [hW6]; exact hp6
  have hb06 : Below w.heap.size w W6 := by rw [hW6]; exact bel_alloc (bel_alloc hb04 _) _
  have hz6 : W6.heap.size = w4.heap.size + 2 := by rw [hW6]; simp
  have hc4 : HdrAt (⟨5, e, b, i, c, l, m⟩ : RH) w.heap.size w4 := hh4
  obtain ⟨c0, c1, c2, c3, c4, c5, c6⟩ := hc4
  simp only at c0 c1 c2 c3 c4 c5 c6
  clear hy5 hh5 hp6 hb45 hb56 hz5 hh4 hb04
  have HZ6 := Lib.hid hz6
  have HW6 := Lib.hid hW6
  clear hW6 hz6
  go_wp2_with fail
  rw [← HW6.out]
  refine (HE.out W6).mono ?_
  rintro e' w7 ⟨rfl, hb7⟩
  have hz7 := hb7.size
  have hy7 := hy6.below hb7 (by have := HZ6.out; omega)
  have hh7 := hh6.below hb7 (by have := HZ6.out; omega)
  have hp7 := hp6'.below hb7 (by have := HZ6.out; omega)
  have hb07 := bel_trans hb06 hb7
  clear hy6 hh6 hp6' hb06 hb7 c0 c1 c2 c3 c4 c5 c6
  go_wp2_with fail
  refine (HA.out w7).mono ?_
  rintro e' w8 ⟨rfl, hb8⟩
  have hz8 := hb8.size
  have hy8 := hy7.below hb8 (by have := HZ6.out; omega)
  have hh8 := hh7.below hb8 (by have := HZ6.out; omega)
  have hp8 := hp7.below hb8 (by have := HZ6.out; omega)
  have hb08 := bel_trans hb07 hb8
  clear hy7 hh7 hp7 hb07 hb8
  have hb89 : Below w8.heap.size w8 (w8.alloc (.cells #[.int .u32 0, .int .u32 0, .int .i64 0, .int .i64 0, .int .u32 0] 110)) := bel_alloc (Below.refl _ w8) _
  have hy9 := hy8.below hb89 (by have := HZ6.out; omega)
  have hh9 := hh8.below hb89 (by have := HZ6.out; omega)
  have hp9 := hp8.below hb89 (by have := HZ6.out; omega)
  have hb09 := bel_trans hb08 hb89
  have hd9 : (w8.alloc (.cells #[.int .u32 0, .int .u32 0, .int .i64 0, .int .i64 0, .int .u32 0] 110)).cell? ⟨w8.heap.size, 0, none⟩ = some (.int .u32 0) ∧ (w8.alloc (.cells #[.int .u32 0, .int .u32 0, .int .i64 0, .int .i64 0, .int .u32 0] 110)).cell? ⟨w8.heap.size, 1, none⟩ = some (.int .u32 0) ∧ (w8.alloc (.cells #[.int .u32 0, .int .u32 0, .int .i64 0, .int .i64 0, .int .u32 0] 110)).cell? ⟨w8.heap.size, 2, none⟩ = some (.int .i64 0) ∧ (w8.alloc (.cells #[.int .u32 0, .int .u32 0, .int .i64 0, .int .i64 0, .int .u32 0] 110)).cell? ⟨w8.heap.size, 3, none⟩ = some (.int .i64 0) ∧ (w8.alloc (.cells #[.int .u32 0, .int .u32 0, .int .i64 0, .int .i64 0, .int .u32 0] 110)).cell? ⟨w8.heap.size, 4, none⟩ = some (.int .u32 0) := by
    refine ⟨?_, ?_, ?_, ?_, ?_⟩
    all_goals (rw [World.cell?_alloc_mark w8 #[.int .u32 0, .int .u32 0, .int .i64 0, .int .i64 0, .int .u32 0] 110 (0, 0)]; rfl)
  obtain ⟨W9, hW9⟩ : ∃ W9, W9 = w8.alloc (.cells #[.int .u32 0, .int .u32 0, .int .i64 0, .int .i64 0, .int .u32 0] 110) := ⟨_, rfl⟩
  rw [← hW9] at hy9 hh9 hp9 hb09 hd9
  have HW9 := Lib.hid hW9
  clear hW9 hy8 hh8 hp8 hb08 hb89
  obtain ⟨c0, c1, c2, c3, c4, c5, c6⟩ := hh9
  obtain ⟨y0, y1, y2, y3, y4, y5, y6⟩ := hy9
  obtain ⟨p0, p1, p2, p3, p4, p5, p6⟩ := hp9
  obtain ⟨d0, d1, d2, d3, d4⟩ := hd9
  simp only at c0 c1 c2 c3 c4 c5 c6 y0 y1 y2 y3 y4 y5 y6 p0 p1 p2 p3 p4 p5 p6
  have hq : ∀ w, (binOp .neq 86 (.agg #[.int .u8 5, .int .u32 ((e : Nat) : Int), .int .u32 ((b : Nat) : Int), .int .u16 ((i : Nat) : Int), .int .u16 ((c : Nat) : Int), .int .u32 0, .int .u32 0]) (.agg #[.int .u8 5, .int .u32 ((e : Nat) : Int), .int .u32 ((b : Nat) : Int), .int .u16 ((i : Nat) : Int), .int .u16 ((c : Nat) : Int), .int .u32 0, .int .u32 0])).run Try.prog w = .ok (.bool false) w := fun w => by
    have h := neq_hdr' (⟨5, e, b, i, c, 0, 0⟩ : RH) (⟨5, e, b, i, c, 0, 0⟩ : RH) w
    rw [eqH_self] at h
    exact h
  go_upto_region 20 with fail
  rw [← HW9.out]
  have hq2 := eql_data0
  go_wp2_with fail
  go_quiet (fail)
  go_wp2
  go_ret
  exact ⟨rfl, bel_trans hb09 (bel_drewN W9 _)⟩
set_option maxRecDepth 100000 in
set_option maxHeartbeats 3200000 in
theorem recordTells_fill (e b i c l m : Nat) (w : World) :
    Calls Try.prog 13 #[.agg (⟨6, e, b, i, c, l, m⟩ : RH).cells] w fun e' w' => e' = .returned (.bool true) ∧ Below w.heap.size w w' := by
  have HT : Hid (∀ W, Calls Try.prog 49 #[.agg #[.int .u8 6, .int .u32 ((e : Nat) : Int), .int .u32 ((b : Nat) : Int), .int .u16 ((i : Nat) : Int), .int .u16 ((c : Nat) : Int), .int .u32 ((l : Nat) : Int), .int .u32 ((m : Nat) : Int)]] W fun e' w' => e' = .returned (.iface 175 (.agg #[.int .u32 ((e : Nat) : Int), .int .u32 ((b : Nat) : Int)])) ∧ Below W.heap.size W w') := Lib.hid fun W => tell_fill e b i c l m W
  have HS : Hid (∀ W, Calls Try.prog 51 #[.iface 175 (.agg #[.int .u32 ((e : Nat) : Int), .int .u32 ((b : Nat) : Int)])] W fun e' w' => e' = .returned (.tuple #[.agg #[.int .u8 6, .int .u32 ((e : Nat) : Int), .int .u32 ((b : Nat) : Int), .int .u16 0, .int .u16 0, .int .u32 0, .int .u32 0], .bool true]) ∧ Below W.heap.size W w') := Lib.hid fun W => Said_of _ _ _ (fun w0 => saidK_fill e b w0) W
  have HE : Hid (∀ W, Calls Try.prog 50 #[.iface 175 (.agg #[.int .u32 ((e : Nat) : Int), .int .u32 ((b : Nat) : Int)])] W fun e' w' => e' = .returned (.tuple #[.int .u32 ((e : Nat) : Int), .int .i64 0]) ∧ Below W.heap.size W w') := Lib.hid fun W => Epoch_of _ _ _ (fun w0 => saidK_fill e b w0) W
  have HA := Lib.hid (asData_fill e b)
  unfold RH.cells
  simp only
  have hh0 := hdr_new (⟨6, e, b, i, c, l, m⟩ : RH) w
  simp only at hh0
  go_enter Try.func13, Try.ntmps13
  go_wp2_with fail
  obtain ⟨W1, hW1⟩ : ∃ W1, W1 = w.alloc (.cells #[.int .u8 6, .int .u32 ((e : Nat) : Int), .int .u32 ((b : Nat) : Int), .int .u16 ((i : Nat) : Int), .int .u16 ((c : Nat) : Int), .int .u32 ((l : Nat) : Int), .int .u32 ((m : Nat) : Int)] 86) := ⟨_, rfl⟩
  have hh1 : HdrAt (⟨6, e, b, i, c, l, m⟩ : RH) w.heap.size W1 := by rw [hW1]; exact hh0
  have hb1 : Below w.heap.size w W1 := by rw [hW1]; exact bel_alloc (Below.refl _ w) _
  have hz1 : W1.heap.size = w.heap.size + 1 := by rw [hW1]; simp
  have e1 : w.alloc (.cells #[.int .u8 6, .int .u32 ((e : Nat) : Int), .int .u32 ((b : Nat) : Int), .int .u16 ((i : Nat) : Int), .int .u16 ((c : Nat) : Int), .int .u32 ((l : Nat) : Int), .int .u32 ((m : Nat) : Int)] 86) = W1 := hW1.symm
  clear hh0 hW1
  first | rw [e1] | skip
  refine (sealed_any _).mono ?_
  rintro e' w2 ⟨rfl, hb2⟩
  clear e1
  have hh2 := hh1.below hb2 (by omega)
  have hb02 := bel_trans hb1 hb2
  have hz2 : w.heap.size < w2.heap.size := by have := hb2.size; omega
  clear hh1 hb1 hb2 hz1
  obtain ⟨c0, c1, c2, c3, c4, c5, c6⟩ := hh2
  simp only at c0 c1 c2 c3 c4 c5 c6
  go_wp2_with fail
  refine (HT.out w2).mono ?_
  rintro e' w3 ⟨rfl, hb3⟩
  have hh3 : HdrAt (⟨6, e, b, i, c, l, m⟩ : RH) w.heap.size w3 := HdrAt.below ⟨c0, c1, c2, c3, c4, c5, c6⟩ hb3 hz2
  have hb03 := bel_trans hb02 hb3
  have hz3 : w.heap.size < w3.heap.size := by have := hb3.size; omega
  clear c0 c1 c2 c3 c4 c5 c6 hb02 hb3 hz2
  obtain ⟨c0, c1, c2, c3, c4, c5, c6⟩ := hh3
  simp only at c0 c1 c2 c3 c4 c5 c6
  go_wp2_with fail
  refine (HS.out w3).mono ?_
  rintro e' w4 ⟨rfl, hb4⟩
  have hh4 : HdrAt (⟨6, e, b, i, c, l, m⟩ : RH) w.heap.size w4 := HdrAt.below ⟨c0, c1, c2, c3, c4, c5, c6⟩ hb4 hz3
  have hb04 := bel_trans hb03 hb4
  have hz4 : w.heap.size < w4.heap.size := by have := hb4.size; omega
  clear c0 c1 c2 c3 c4 c5 c6 hb03 hb4 hz3
  have hy5 := hdr_new (⟨6, e, b, 0, 0, 0, 0⟩ : RH) w4
  simp only at hy5
  have hb45 : Below w4.heap.size w4 (w4.alloc (.cells #[.int .u8 6, .int .u32 ((e : Nat) : Int), .int .u32 ((b : Nat) : Int), .int .u16 0, .int .u16 0, .int .u32 0, .int .u32 0] 86)) := bel_alloc (Below.refl _ w4) _
  have hh5 := hh4.below hb45 hz4
  have hz5 : (w4.alloc (.cells #[.int .u8 6, .int .u32 ((e : Nat) : Int), .int .u32 ((b : Nat) : Int), .int .u16 0, .int .u16 0, .int .u32 0, .int .u32 0] 86)).heap.size = w4.heap.size + 1 := by simp
  have hp6 := hdr_new (⟨6, e, b, 0, 0, 0, 0⟩ : RH) (w4.alloc (.cells #[.int .u8 6, .int .u32 ((e : Nat) : Int), .int .u32 ((b : Nat) : Int), .int .u16 0, .int .u16 0, .int .u32 0, .int .u32 0] 86))
  simp only at hp6
  rw [hz5] at hp6
  have hb56 : Below (w4.heap.size + 1) (w4.alloc (.cells #[.int .u8 6, .int .u32 ((e : Nat) : Int), .int .u32 ((b : Nat) : Int), .int .u16 0, .int .u16 0, .int .u32 0, .int .u32 0] 86)) ((w4.alloc (.cells #[.int .u8 6, .int .u32 ((e : Nat) : Int), .int .u32 ((b : Nat) : Int), .int .u16 0, .int .u16 0, .int .u32 0, .int .u32 0] 86)).alloc (.cells #[.int .u8 6, .int .u32 ((e : Nat) : Int), .int .u32 ((b : Nat) : Int), .int .u16 0, .int .u16 0, .int .u32 0, .int .u32 0] 86)) := by rw [← hz5]; exact bel_alloc (Below.refl _ _) _
  obtain ⟨W6, hW6⟩ : ∃ W6, W6 = (w4.alloc (.cells #[.int .u8 6, .int .u32 ((e : Nat) : Int), .int .u32 ((b : Nat) : Int), .int .u16 0, .int .u16 0, .int .u32 0, .int .u32 0] 86)).alloc (.cells #[.int .u8 6, .int .u32 ((e : Nat) : Int), .int .u32 ((b : Nat) : Int), .int .u16 0, .int .u16 0, .int .u32 0, .int .u32 0] 86) := ⟨_, rfl⟩
  have hy6 : HdrAt (⟨6, e, b, 0, 0, 0, 0⟩ : RH) w4.heap.size W6 := by rw [hW6]; exact HdrAt.below hy5 hb56 (by omega)
  have hh6 : HdrAt (⟨6, e, b, i, c, l, m⟩ : RH) w.heap.size W6 := by rw [hW6]; exact hh5.below hb56 (by omega)
  have hp6' : HdrAt (⟨6, e, b, 0, 0, 0, 0⟩ : RH) (w4.heap.size + 1) W6 := by rw [hW6]; exact hp6
  have hb06 : Below w.heap.size w W6 := by rw [hW6]; exact bel_alloc (bel_alloc hb04 _) _
  have hz6 : W6.heap.size = w4.heap.size + 2 := by rw [hW6]; simp
  have hc4 : HdrAt (⟨6, e, b, i, c, l, m⟩ : RH) w.heap.size w4 := hh4
  obtain ⟨c0, c1, c2, c3, c4, c5, c6⟩ := hc4
  simp only at c0 c1 c2 c3 c4 c5 c6
  clear hy5 hh5 hp6 hb45 hb56 hz5 hh4 hb04
  have HZ6 := Lib.hid hz6
  have HW6 := Lib.hid hW6
  clear hW6 hz6
  go_wp2_with fail
  rw [← HW6.out]
  refine (HE.out W6).mono ?_
  rintro e' w7 ⟨rfl, hb7⟩
  have hz7 := hb7.size
  have hy7 := hy6.below hb7 (by have := HZ6.out; omega)
  have hh7 := hh6.below hb7 (by have := HZ6.out; omega)
  have hp7 := hp6'.below hb7 (by have := HZ6.out; omega)
  have hb07 := bel_trans hb06 hb7
  clear hy6 hh6 hp6' hb06 hb7 c0 c1 c2 c3 c4 c5 c6
  go_wp2_with fail
  refine (HA.out w7).mono ?_
  rintro e' w8 ⟨rfl, hb8⟩
  have hz8 := hb8.size
  have hy8 := hy7.below hb8 (by have := HZ6.out; omega)
  have hh8 := hh7.below hb8 (by have := HZ6.out; omega)
  have hp8 := hp7.below hb8 (by have := HZ6.out; omega)
  have hb08 := bel_trans hb07 hb8
  clear hy7 hh7 hp7 hb07 hb8
  have hb89 : Below w8.heap.size w8 (w8.alloc (.cells #[.int .u32 0, .int .u32 0, .int .i64 0, .int .i64 0, .int .u32 0] 110)) := bel_alloc (Below.refl _ w8) _
  have hy9 := hy8.below hb89 (by have := HZ6.out; omega)
  have hh9 := hh8.below hb89 (by have := HZ6.out; omega)
  have hp9 := hp8.below hb89 (by have := HZ6.out; omega)
  have hb09 := bel_trans hb08 hb89
  have hd9 : (w8.alloc (.cells #[.int .u32 0, .int .u32 0, .int .i64 0, .int .i64 0, .int .u32 0] 110)).cell? ⟨w8.heap.size, 0, none⟩ = some (.int .u32 0) ∧ (w8.alloc (.cells #[.int .u32 0, .int .u32 0, .int .i64 0, .int .i64 0, .int .u32 0] 110)).cell? ⟨w8.heap.size, 1, none⟩ = some (.int .u32 0) ∧ (w8.alloc (.cells #[.int .u32 0, .int .u32 0, .int .i64 0, .int .i64 0, .int .u32 0] 110)).cell? ⟨w8.heap.size, 2, none⟩ = some (.int .i64 0) ∧ (w8.alloc (.cells #[.int .u32 0, .int .u32 0, .int .i64 0, .int .i64 0, .int .u32 0] 110)).cell? ⟨w8.heap.size, 3, none⟩ = some (.int .i64 0) ∧ (w8.alloc (.cells #[.int .u32 0, .int .u32 0, .int .i64 0, .int .i64 0, .int .u32 0] 110)).cell? ⟨w8.heap.size, 4, none⟩ = some (.int .u32 0) := by
    refine ⟨?_, ?_, ?_, ?_, ?_⟩
    all_goals (rw [World.cell?_alloc_mark w8 #[.int .u32 0, .int .u32 0, .int .i64 0, .int .i64 0, .int .u32 0] 110 (0, 0)]; rfl)
  obtain ⟨W9, hW9⟩ : ∃ W9, W9 = w8.alloc (.cells #[.int .u32 0, .int .u32 0, .int .i64 0, .int .i64 0, .int .u32 0] 110) := ⟨_, rfl⟩
  rw [← hW9] at hy9 hh9 hp9 hb09 hd9
  have HW9 := Lib.hid hW9
  clear hW9 hy8 hh8 hp8 hb08 hb89
  obtain ⟨c0, c1, c2, c3, c4, c5, c6⟩ := hh9
  obtain ⟨y0, y1, y2, y3, y4, y5, y6⟩ := hy9
  obtain ⟨p0, p1, p2, p3, p4, p5, p6⟩ := hp9
  obtain ⟨d0, d1, d2, d3, d4⟩ := hd9
  simp only at c0 c1 c2 c3 c4 c5 c6 y0 y1 y2 y3 y4 y5 y6 p0 p1 p2 p3 p4 p5 p6
  have hq : ∀ w, (binOp .neq 86 (.agg #[.int .u8 6, .int .u32 ((e : Nat) : Int), .int .u32 ((b : Nat) : Int), .int .u16 0, .int .u16 0, .int .u32 0, .int .u32 0]) (.agg #[.int .u8 6, .int .u32 ((e : Nat) : Int), .int .u32 ((b : Nat) : Int), .int .u16 0, .int .u16 0, .int .u32 0, .int .u32 0])).run Try.prog w = .ok (.bool false) w := fun w => by
    have h := neq_hdr' (⟨6, e, b, 0, 0, 0, 0⟩ : RH) (⟨6, e, b, 0, 0, 0, 0⟩ : RH) w
    rw [eqH_self] at h
    exact h
  go_upto_region 20 with fail
  rw [← HW9.out]
  have hq2 := eql_data0
  go_wp2_with fail
  go_quiet (fail)
  go_wp2
  go_ret
  exact ⟨rfl, bel_trans hb09 (bel_drewN W9 _)⟩

end Go.Proofs.Ytjnjkoodeacpdaa
