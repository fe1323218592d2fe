/- record.Tell; AsData, MustData. -/
import Derived.Test.YtjnjkoodeacpdaaRSays
namespace Go.Proofs.Ytjnjkoodeacpdaa
open Go.RowKit

/-- What a header of a kind says. -/
def toldV (e b i c l : Nat) : Nat → Value
  | 1 => .iface 170 (.agg #[.int .u32 ((e : Nat) : Int), .int .i64 ((i : Nat) : Int), .int .i64 ((c : Nat) : Int)])
  | 2 => .iface 172 (.agg #[.int .u32 ((e : Nat) : Int)])
  | 3 => .iface 173 (.agg #[.int .u32 ((e : Nat) : Int), .int .i64 ((i : Nat) : Int), .int .i64 ((c : Nat) : Int)])
  | 4 => .iface 110 (.agg #[.int .u32 ((e : Nat) : Int), .int .u32 ((b : Nat) : Int), .int .i64 ((i : Nat) : Int), .int .i64 ((c : Nat) : Int), .int .u32 ((l : Nat) : Int)])
  | 5 => .iface 116 (.agg #[.int .u32 ((e : Nat) : Int), .int .u32 ((b : Nat) : Int), .int .i64 ((i : Nat) : Int), .int .i64 ((c : Nat) : Int)])
  | 6 => .iface 175 (.agg #[.int .u32 ((e : Nat) : Int), .int .u32 ((b : Nat) : Int)])
  | _ => .nilIface

set_option maxRecDepth 100000 in
set_option maxHeartbeats 800000 in
theorem tell_table (e b i c l m : Nat) (hi : i < 65536) (hc : c < 65536) (w : World) :
    Calls Try.prog 49 #[.agg (⟨1, e, b, i, c, l, m⟩ : RH).cells] w fun e' w' => e' = .returned (toldV e b i c l 1) ∧ Below w.heap.size w w' := by
  have hb := bel_alloc (Below.refl _ w) (.cells (⟨1, e, b, i, c, l, m⟩ : RH).cells 86)
  unfold RH.cells at hb ⊢
  simp only at hb ⊢
  go_enter Try.func49, Try.ntmps49
  go_wp2
  go_ret
  exact ⟨rfl, hb⟩

set_option maxRecDepth 100000 in
set_option maxHeartbeats 800000 in
theorem tell_member (e b i c l m : Nat) (w : World) :
    Calls Try.prog 49 #[.agg (⟨2, e, b, i, c, l, m⟩ : RH).cells] w fun e' w' => e' = .returned (toldV e b i c l 2) ∧ Below w.heap.size w w' := by
  have hb := bel_alloc (Below.refl _ w) (.cells (⟨2, e, b, i, c, l, m⟩ : RH).cells 86)
  unfold RH.cells at hb ⊢
  simp only at hb ⊢
  go_enter Try.func49, Try.ntmps49
  go_wp2
  go_ret
  exact ⟨rfl, hb⟩

set_option maxRecDepth 100000 in
set_option maxHeartbeats 800000 in
theorem tell_point (e b i c l m : Nat) (hi : i < 65536) (hc : c < 65536) (w : World) :
    Calls Try.prog 49 #[.agg (⟨3, e, b, i, c, l, m⟩ : RH).cells] w fun e' w' => e' = .returned (toldV e b i c l 3) ∧ Below w.heap.size w w' := by
  have hb := bel_alloc (Below.refl _ w) (.cells (⟨3, e, b, i, c, l, m⟩ : RH).cells 86)
  unfold RH.cells at hb ⊢
  simp only at hb ⊢
  go_enter Try.func49, Try.ntmps49
  go_wp2
  go_ret
  exact ⟨rfl, hb⟩

set_option maxRecDepth 100000 in
set_option maxHeartbeats 800000 in
theorem tell_data (e b i c l m : Nat) (hi : i < 65536) (hc : c < 65536) (w : World) :
    Calls Try.prog 49 #[.agg (⟨4, e, b, i, c, l, m⟩ : RH).cells] w fun e' w' => e' = .returned (toldV e b i c l 4) ∧ Below w.heap.size w w' := by
  have hb := bel_alloc (Below.refl _ w) (.cells (⟨4, e, b, i, c, l, m⟩ : RH).cells 86)
  unfold RH.cells at hb ⊢
  simp only at hb ⊢
  go_enter Try.func49, Try.ntmps49
  go_wp2
  go_ret
  exact ⟨rfl, hb⟩

set_option maxRecDepth 100000 in
set_option maxHeartbeats 800000 in
theorem tell_parity (e b i c l m : Nat) (hi : i < 65536) (hc : c < 65536) (w : World) :
    Calls Try.prog 49 #[.agg (⟨5, e, b, i, c, l, m⟩ : RH).cells] w fun e' w' => e' = .returned (toldV e b i c l 5) ∧ Below w.heap.size w w' := by
  have hb := bel_alloc (Below.refl _ w) (.cells (⟨5, e, b, i, c, l, m⟩ : RH).cells 86)
  unfold RH.cells at hb ⊢
  simp only at hb ⊢
  go_enter Try.func49, Try.ntmps49
  go_wp2
  go_ret
  exact ⟨rfl, hb⟩

set_option maxRecDepth 100000 in
set_option maxHeartbeats 800000 in
theorem tell_fill (e b i c l m : Nat) (w : World) :
    Calls Try.prog 49 #[.agg (⟨6, e, b, i, c, l, m⟩ : RH).cells] w fun e' w' => e' = .returned (toldV e b i c l 6) ∧ Below w.heap.size w w' := by
  have hb := bel_alloc (Below.refl _ w) (.cells (⟨6, e, b, i, c, l, m⟩ : RH).cells 86)
  unfold RH.cells at hb ⊢
  simp only at hb ⊢
  go_enter Try.func49, Try.ntmps49
  go_wp2
  go_ret
  exact ⟨rfl, hb⟩

set_option maxRecDepth 100000 in
set_option maxHeartbeats 800000 in
theorem tell_none (h : RH) (hk : h.ki < 1 ∨ 6 < h.ki) (w : World) :
    Calls Try.prog 49 #[.agg h.cells] w fun e' w' => e' = .returned .nilIface ∧ Below w.heap.size w w' := by
  have hb := bel_alloc (Below.refl _ w) (.cells h.cells 86)
  unfold RH.cells at hb ⊢
  have d1 : ((h.ki : Int) == 1) = false := by simp; omega
  have d2 : ((h.ki : Int) == 2) = false := by simp; omega
  have d3 : ((h.ki : Int) == 3) = false := by simp; omega
  have d4 : ((h.ki : Int) == 4) = false := by simp; omega
  have d5 : ((h.ki : Int) == 5) = false := by simp; omega
  have d6 : ((h.ki : Int) == 6) = false := by simp; omega
  clear hk
  go_enter Try.func49, Try.ntmps49
  go_wp2
  go_ret
  exact ⟨rfl, hb⟩

theorem tb_table (e i c : Nat) (w : World) : (Instr.typeAssert (.iface 170 (.agg #[.int .u32 ((e : Nat) : Int), .int .i64 ((i : Nat) : Int), .int .i64 ((c : Nat) : Int)])) 20 110 true).run Try.prog w = .ok (.tuple #[.agg #[.int .u32 0, .int .u32 0, .int .i64 0, .int .i64 0, .int .u32 0], .bool false]) w := by kernel_rfl
set_option maxRecDepth 100000 in
set_option maxHeartbeats 800000 in
theorem asData_table (e i c : Nat) (w : World) :
    Calls Try.prog 52 #[.iface 170 (.agg #[.int .u32 ((e : Nat) : Int), .int .i64 ((i : Nat) : Int), .int .i64 ((c : Nat) : Int)])] w fun e' w' => e' = .returned (.tuple #[.agg #[.int .u32 0, .int .u32 0, .int .i64 0, .int .i64 0, .int .u32 0], .bool false]) ∧ Below w.heap.size w w' := by
  have HT := Lib.hid (tb_table e i c)
  have H1 : Hid (∀ w : World, Calls Try.prog 90 #[.iface 170 (.agg #[.int .u32 ((e : Nat) : Int), .int .i64 ((i : Nat) : Int), .int .i64 ((c : Nat) : Int)])] w fun e' w' => e' = .returned (.tuple #[.agg #[.int .u32 0, .int .u32 0, .int .i64 0, .int .i64 0, .int .u32 0], .bool false]) ∧ w' = (w.alloc (.cells #[.int .u32 0, .int .u32 0, .int .i64 0, .int .i64 0, .int .u32 0] 110)).alloc (.cells #[.int .u32 0, .int .u32 0, .int .i64 0, .int .i64 0, .int .u32 0] 110)) := Lib.hid fun w => by
    have ht := HT.out
    go_enter Try.func90, Try.ntmps90
    go_wp2
    refine bodyPost_ret (v := .tuple #[.agg #[.int .u32 0, .int .u32 0, .int .i64 0, .int .i64 0, .int .u32 0], .bool false]) ?_ rfl ⟨rfl, rfl⟩
    simp [results, Try.results90, go_sem]
  clear HT
  go_enter Try.func52, Try.ntmps52
  go_wp2_with fail
  refine (H1.out _).mono ?_
  rintro e' w2 ⟨rfl, rfl⟩
  go_wp2
  refine bodyPost_ret (v := .tuple #[.agg #[.int .u32 0, .int .u32 0, .int .i64 0, .int .i64 0, .int .u32 0], .bool false]) ?_ rfl ⟨rfl, ?_⟩
  · simp [results, Try.results52, go_sem]
  · exact bel_alloc (bel_alloc (bel_alloc (Below.refl _ w) _) _) _

theorem tb_member (e : Nat) (w : World) : (Instr.typeAssert (.iface 172 (.agg #[.int .u32 ((e : Nat) : Int)])) 20 110 true).run Try.prog w = .ok (.tuple #[.agg #[.int .u32 0, .int .u32 0, .int .i64 0, .int .i64 0, .int .u32 0], .bool false]) w := by kernel_rfl
set_option maxRecDepth 100000 in
set_option maxHeartbeats 800000 in
theorem asData_member (e : Nat) (w : World) :
    Calls Try.prog 52 #[.iface 172 (.agg #[.int .u32 ((e : Nat) : Int)])] w fun e' w' => e' = .returned (.tuple #[.agg #[.int .u32 0, .int .u32 0, .int .i64 0, .int .i64 0, .int .u32 0], .bool false]) ∧ Below w.heap.size w w' := by
  have HT := Lib.hid (tb_member e)
  have H1 : Hid (∀ w : World, Calls Try.prog 90 #[.iface 172 (.agg #[.int .u32 ((e : Nat) : Int)])] w fun e' w' => e' = .returned (.tuple #[.agg #[.int .u32 0, .int .u32 0, .int .i64 0, .int .i64 0, .int .u32 0], .bool false]) ∧ w' = (w.alloc (.cells #[.int .u32 0, .int .u32 0, .int .i64 0, .int .i64 0, .int .u32 0] 110)).alloc (.cells #[.int .u32 0, .int .u32 0, .int .i64 0, .int .i64 0, .int .u32 0] 110)) := Lib.hid fun w => by
    have ht := HT.out
    go_enter Try.func90, Try.ntmps90
    go_wp2
    refine bodyPost_ret (v := .tuple #[.agg #[.int .u32 0, .int .u32 0, .int .i64 0, .int .i64 0, .int .u32 0], .bool false]) ?_ rfl ⟨rfl, rfl⟩
    simp [results, Try.results90, go_sem]
  clear HT
  go_enter Try.func52, Try.ntmps52
  go_wp2_with fail
  refine (H1.out _).mono ?_
  rintro e' w2 ⟨rfl, rfl⟩
  go_wp2
  refine bodyPost_ret (v := .tuple #[.agg #[.int .u32 0, .int .u32 0, .int .i64 0, .int .i64 0, .int .u32 0], .bool false]) ?_ rfl ⟨rfl, ?_⟩
  · simp [results, Try.results52, go_sem]
  · exact bel_alloc (bel_alloc (bel_alloc (Below.refl _ w) _) _) _

theorem tb_point (e i c : Nat) (w : World) : (Instr.typeAssert (.iface 173 (.agg #[.int .u32 ((e : Nat) : Int), .int .i64 ((i : Nat) : Int), .int .i64 ((c : Nat) : Int)])) 20 110 true).run Try.prog w = .ok (.tuple #[.agg #[.int .u32 0, .int .u32 0, .int .i64 0, .int .i64 0, .int .u32 0], .bool false]) w := by kernel_rfl
set_option maxRecDepth 100000 in
set_option maxHeartbeats 800000 in
theorem asData_point (e i c : Nat) (w : World) :
    Calls Try.prog 52 #[.iface 173 (.agg #[.int .u32 ((e : Nat) : Int), .int .i64 ((i : Nat) : Int), .int .i64 ((c : Nat) : Int)])] w fun e' w' => e' = .returned (.tuple #[.agg #[.int .u32 0, .int .u32 0, .int .i64 0, .int .i64 0, .int .u32 0], .bool false]) ∧ Below w.heap.size w w' := by
  have HT := Lib.hid (tb_point e i c)
  have H1 : Hid (∀ w : World, Calls Try.prog 90 #[.iface 173 (.agg #[.int .u32 ((e : Nat) : Int), .int .i64 ((i : Nat) : Int), .int .i64 ((c : Nat) : Int)])] w fun e' w' => e' = .returned (.tuple #[.agg #[.int .u32 0, .int .u32 0, .int .i64 0, .int .i64 0, .int .u32 0], .bool false]) ∧ w' = (w.alloc (.cells #[.int .u32 0, .int .u32 0, .int .i64 0, .int .i64 0, .int .u32 0] 110)).alloc (.cells #[.int .u32 0, .int .u32 0, .int .i64 0, .int .i64 0, .int .u32 0] 110)) := Lib.hid fun w => by
    have ht := HT.out
    go_enter Try.func90, Try.ntmps90
    go_wp2
    refine bodyPost_ret (v := .tuple #[.agg #[.int .u32 0, .int .u32 0, .int .i64 0, .int .i64 0, .int .u32 0], .bool false]) ?_ rfl ⟨rfl, rfl⟩
    simp [results, Try.results90, go_sem]
  clear HT
  go_enter Try.func52, Try.ntmps52
  go_wp2_with fail
  refine (H1.out _).mono ?_
  rintro e' w2 ⟨rfl, rfl⟩
  go_wp2
  refine bodyPost_ret (v := .tuple #[.agg #[.int .u32 0, .int .u32 0, .int .i64 0, .int .i64 0, .int .u32 0], .bool false]) ?_ rfl ⟨rfl, ?_⟩
  · simp [results, Try.results52, go_sem]
  · exact bel_alloc (bel_alloc (bel_alloc (Below.refl _ w) _) _) _

theorem tb_data (e b i c l : Nat) (w : World) : (Instr.typeAssert (.iface 110 (.agg #[.int .u32 ((e : Nat) : Int), .int .u32 ((b : Nat) : Int), .int .i64 ((i : Nat) : Int), .int .i64 ((c : Nat) : Int), .int .u32 ((l : Nat) : Int)])) 20 110 true).run Try.prog w = .ok (.tuple #[.agg #[.int .u32 ((e : Nat) : Int), .int .u32 ((b : Nat) : Int), .int .i64 ((i : Nat) : Int), .int .i64 ((c : Nat) : Int), .int .u32 ((l : Nat) : Int)], .bool true]) w := by kernel_rfl
set_option maxRecDepth 100000 in
set_option maxHeartbeats 800000 in
theorem asData_data (e b i c l : Nat) (w : World) :
    Calls Try.prog 52 #[.iface 110 (.agg #[.int .u32 ((e : Nat) : Int), .int .u32 ((b : Nat) : Int), .int .i64 ((i : Nat) : Int), .int .i64 ((c : Nat) : Int), .int .u32 ((l : Nat) : Int)])] w fun e' w' => e' = .returned (.tuple #[.agg #[.int .u32 ((e : Nat) : Int), .int .u32 ((b : Nat) : Int), .int .i64 ((i : Nat) : Int), .int .i64 ((c : Nat) : Int), .int .u32 ((l : Nat) : Int)], .bool true]) ∧ Below w.heap.size w w' := by
  have HT := Lib.hid (tb_data e b i c l)
  have H1 : Hid (∀ w : World, Calls Try.prog 90 #[.iface 110 (.agg #[.int .u32 ((e : Nat) : Int), .int .u32 ((b : Nat) : Int), .int .i64 ((i : Nat) : Int), .int .i64 ((c : Nat) : Int), .int .u32 ((l : Nat) : Int)])] w fun e' w' => e' = .returned (.tuple #[.agg #[.int .u32 ((e : Nat) : Int), .int .u32 ((b : Nat) : Int), .int .i64 ((i : Nat) : Int), .int .i64 ((c : Nat) : Int), .int .u32 ((l : Nat) : Int)], .bool true]) ∧ w' = (w.alloc (.cells #[.int .u32 ((e : Nat) : Int), .int .u32 ((b : Nat) : Int), .int .i64 ((i : Nat) : Int), .int .i64 ((c : Nat) : Int), .int .u32 ((l : Nat) : Int)] 110)).alloc (.cells #[.int .u32 ((e : Nat) : Int), .int .u32 ((b : Nat) : Int), .int .i64 ((i : Nat) : Int), .int .i64 ((c : Nat) : Int), .int .u32 ((l : Nat) : Int)] 110)) := Lib.hid fun w => by
    have ht := HT.out
    go_enter Try.func90, Try.ntmps90
    go_wp2
    refine bodyPost_ret (v := .tuple #[.agg #[.int .u32 ((e : Nat) : Int), .int .u32 ((b : Nat) : Int), .int .i64 ((i : Nat) : Int), .int .i64 ((c : Nat) : Int), .int .u32 ((l : Nat) : Int)], .bool true]) ?_ rfl ⟨rfl, rfl⟩
    simp [results, Try.results90, go_sem]
  clear HT
  go_enter Try.func52, Try.ntmps52
  go_wp2_with fail
  refine (H1.out _).mono ?_
  rintro e' w2 ⟨rfl, rfl⟩
  go_wp2
  refine bodyPost_ret (v := .tuple #[.agg #[.int .u32 ((e : Nat) : Int), .int .u32 ((b : Nat) : Int), .int .i64 ((i : Nat) : Int), .int .i64 ((c : Nat) : Int), .int .u32 ((l : Nat) : Int)], .bool true]) ?_ rfl ⟨rfl, ?_⟩
  · simp [results, Try.results52, go_sem]
  · exact bel_alloc (bel_alloc (bel_alloc (Below.refl _ w) _) _) _

theorem tb_parity (e b i c : Nat) (w : World) : (Instr.typeAssert (.iface 116 (.agg #[.int .u32 ((e : Nat) : Int), .int .u32 ((b : Nat) : Int), .int .i64 ((i : Nat) : Int), .int .i64 ((c : Nat) : Int)])) 20 110 true).run Try.prog w = .ok (.tuple #[.agg #[.int .u32 0, .int .u32 0, .int .i64 0, .int .i64 0, .int .u32 0], .bool false]) w := by kernel_rfl
set_option maxRecDepth 100000 in
set_option maxHeartbeats 800000 in
theorem asData_parity (e b i c : Nat) (w : World) :
    Calls Try.prog 52 #[.iface 116 (.agg #[.int .u32 ((e : Nat) : Int), .int .u32 ((b : Nat) : Int), .int .i64 ((i : Nat) : Int), .int .i64 ((c : Nat) : Int)])] w fun e' w' => e' = .returned (.tuple #[.agg #[.int .u32 0, .int .u32 0, .int .i64 0, .int .i64 0, .int .u32 0], .bool false]) ∧ Below w.heap.size w w' := by
  have HT := Lib.hid (tb_parity e b i c)
  have H1 : Hid (∀ w : World, Calls Try.prog 90 #[.iface 116 (.agg #[.int .u32 ((e : Nat) : Int), .int .u32 ((b : Nat) : Int), .int .i64 ((i : Nat) : Int), .int .i64 ((c : Nat) : Int)])] w fun e' w' => e' = .returned (.tuple #[.agg #[.int .u32 0, .int .u32 0, .int .i64 0, .int .i64 0, .int .u32 0], .bool false]) ∧ w' = (w.alloc (.cells #[.int .u32 0, .int .u32 0, .int .i64 0, .int .i64 0, .int .u32 0] 110)).alloc (.cells #[.int .u32 0, .int .u32 0, .int .i64 0, .int .i64 0, .int .u32 0] 110)) := Lib.hid fun w => by
    have ht := HT.out
    go_enter Try.func90, Try.ntmps90
    go_wp2
    refine bodyPost_ret (v := .tuple #[.agg #[.int .u32 0, .int .u32 0, .int .i64 0, .int .i64 0, .int .u32 0], .bool false]) ?_ rfl ⟨rfl, rfl⟩
    simp [results, Try.results90, go_sem]
  clear HT
  go_enter Try.func52, Try.ntmps52
  go_wp2_with fail
  refine (H1.out _).mono ?_
  rintro e' w2 ⟨rfl, rfl⟩
  go_wp2
  refine bodyPost_ret (v := .tuple #[.agg #[.int .u32 0, .int .u32 0, .int .i64 0, .int .i64 0, .int .u32 0], .bool false]) ?_ rfl ⟨rfl, ?_⟩
  · simp [results, Try.results52, go_sem]
  · exact bel_alloc (bel_alloc (bel_alloc (Below.refl _ w) _) _) _

theorem tb_fill (e b : Nat) (w : World) : (Instr.typeAssert (.iface 175 (.agg #[.int .u32 ((e : Nat) : Int), .int .u32 ((b : Nat) : Int)])) 20 110 true).run Try.prog w = .ok (.tuple #[.agg #[.int .u32 0, .int .u32 0, .int .i64 0, .int .i64 0, .int .u32 0], .bool false]) w := by kernel_rfl
set_option maxRecDepth 100000 in
set_option maxHeartbeats 800000 in
theorem asData_fill (e b : Nat) (w : World) :
    Calls Try.prog 52 #[.iface 175 (.agg #[.int .u32 ((e : Nat) : Int), .int .u32 ((b : Nat) : Int)])] w fun e' w' => e' = .returned (.tuple #[.agg #[.int .u32 0, .int .u32 0, .int .i64 0, .int .i64 0, .int .u32 0], .bool false]) ∧ Below w.heap.size w w' := by
  have HT := Lib.hid (tb_fill e b)
  have H1 : Hid (∀ w : World, Calls Try.prog 90 #[.iface 175 (.agg #[.int .u32 ((e : Nat) : Int), .int .u32 ((b : Nat) : Int)])] w fun e' w' => e' = .returned (.tuple #[.agg #[.int .u32 0, .int .u32 0, .int .i64 0, .int .i64 0, .int .u32 0], .bool false]) ∧ w' = (w.alloc (.cells #[.int .u32 0, .int .u32 0, .int .i64 0, .int .i64 0, .int .u32 0] 110)).alloc (.cells #[.int .u32 0, .int .u32 0, .int .i64 0, .int .i64 0, .int .u32 0] 110)) := Lib.hid fun w => by
    have ht := HT.out
    go_enter Try.func90, Try.ntmps90
    go_wp2
    refine bodyPost_ret (v := .tuple #[.agg #[.int .u32 0, .int .u32 0, .int .i64 0, .int .i64 0, .int .u32 0], .bool false]) ?_ rfl ⟨rfl, rfl⟩
    simp [results, Try.results90, go_sem]
  clear HT
  go_enter Try.func52, Try.ntmps52
  go_wp2_with fail
  refine (H1.out _).mono ?_
  rintro e' w2 ⟨rfl, rfl⟩
  go_wp2
  refine bodyPost_ret (v := .tuple #[.agg #[.int .u32 0, .int .u32 0, .int .i64 0, .int .i64 0, .int .u32 0], .bool false]) ?_ rfl ⟨rfl, ?_⟩
  · simp [results, Try.results52, go_sem]
  · exact bel_alloc (bel_alloc (bel_alloc (Below.refl _ w) _) _) _

theorem tm_data (e b i c l : Nat) (w : World) : (Instr.typeAssert (.iface 110 (.agg #[.int .u32 ((e : Nat) : Int), .int .u32 ((b : Nat) : Int), .int .i64 ((i : Nat) : Int), .int .i64 ((c : Nat) : Int), .int .u32 ((l : Nat) : Int)])) 20 110 false).run Try.prog w = .ok (.agg #[.int .u32 ((e : Nat) : Int), .int .u32 ((b : Nat) : Int), .int .i64 ((i : Nat) : Int), .int .i64 ((c : Nat) : Int), .int .u32 ((l : Nat) : Int)]) w := by kernel_rfl
set_option maxRecDepth 100000 in
set_option maxHeartbeats 800000 in
theorem mustData_data (e b i c l : Nat) (w : World) :
    Calls Try.prog 53 #[.iface 110 (.agg #[.int .u32 ((e : Nat) : Int), .int .u32 ((b : Nat) : Int), .int .i64 ((i : Nat) : Int), .int .i64 ((c : Nat) : Int), .int .u32 ((l : Nat) : Int)])] w fun e' w' => e' = .returned (.agg #[.int .u32 ((e : Nat) : Int), .int .u32 ((b : Nat) : Int), .int .i64 ((i : Nat) : Int), .int .i64 ((c : Nat) : Int), .int .u32 ((l : Nat) : Int)]) ∧ Below w.heap.size w w' := by
  have HT := Lib.hid (tm_data e b i c l)
  have H1 : Hid (∀ w : World, Calls Try.prog 91 #[.iface 110 (.agg #[.int .u32 ((e : Nat) : Int), .int .u32 ((b : Nat) : Int), .int .i64 ((i : Nat) : Int), .int .i64 ((c : Nat) : Int), .int .u32 ((l : Nat) : Int)])] w fun e' w' => e' = .returned (.agg #[.int .u32 ((e : Nat) : Int), .int .u32 ((b : Nat) : Int), .int .i64 ((i : Nat) : Int), .int .i64 ((c : Nat) : Int), .int .u32 ((l : Nat) : Int)]) ∧ w' = w.alloc (.cells #[.int .u32 ((e : Nat) : Int), .int .u32 ((b : Nat) : Int), .int .i64 ((i : Nat) : Int), .int .i64 ((c : Nat) : Int), .int .u32 ((l : Nat) : Int)] 110)) := Lib.hid fun w => by
    have ht := HT.out
    go_enter Try.func91, Try.ntmps91
    go_wp2
    refine bodyPost_ret (v := .agg #[.int .u32 ((e : Nat) : Int), .int .u32 ((b : Nat) : Int), .int .i64 ((i : Nat) : Int), .int .i64 ((c : Nat) : Int), .int .u32 ((l : Nat) : Int)]) ?_ rfl ⟨rfl, rfl⟩
    simp [results, Try.results91, go_sem]
  clear HT
  go_enter Try.func53, Try.ntmps53
  go_wp2_with fail
  refine (H1.out _).mono ?_
  rintro e' w2 ⟨rfl, rfl⟩
  go_wp2
  refine bodyPost_ret (v := .agg #[.int .u32 ((e : Nat) : Int), .int .u32 ((b : Nat) : Int), .int .i64 ((i : Nat) : Int), .int .i64 ((c : Nat) : Int), .int .u32 ((l : Nat) : Int)]) ?_ rfl ⟨rfl, ?_⟩
  · simp [results, Try.results53, go_sem]
  · exact bel_alloc (bel_alloc (Below.refl _ w) _) _

end Go.Proofs.Ytjnjkoodeacpdaa
