/- record: what a header says. -/
import Derived.Test.YtjnjkoodeacpdaaROpen
namespace Go.Proofs.Ytjnjkoodeacpdaa
open Go.RowKit

/-- Do two numbers fit? -/
def Fits16 (i c : Int) : Prop := 0 ≤ i ∧ i ≤ 65535 ∧ 0 ≤ c ∧ c ≤ 65535
instance (i c : Int) : Decidable (Fits16 i c) := by unfold Fits16; infer_instance
def withH (h : RH) (i c : Int) : RH := if Fits16 i c then { h with ix := i.toNat, ct := c.toNat } else RH.zero

set_option maxRecDepth 100000 in
set_option maxHeartbeats 800000 in
theorem with_any (h : RH) (i c : Int) (w : World) (hi : -9223372036854775808 ≤ i ∧ i ≤ 9223372036854775807) (hc : -9223372036854775808 ≤ c ∧ c ≤ 9223372036854775807) :
    Calls Try.prog 108 #[.agg h.cells, .int .i64 i, .int .i64 c] w fun e w' => e = .returned (.tuple #[.agg (withH h i c).cells, .bool (decide (Fits16 i c))]) ∧ Below w.heap.size w w' := by
  unfold RH.cells
  by_cases hf : Fits16 i c
  · have HZ := Lib.hid (show withH h i c = { h with ix := i.toNat, ct := c.toNat } by unfold withH; rw [if_pos hf])
    have HD := Lib.hid (decide_eq_true hf)
    obtain ⟨f1, f2, f3, f4⟩ := hf
    obtain ⟨i, rfl⟩ : ∃ n : Nat, i = (n : Int) := ⟨i.toNat, by omega⟩
    obtain ⟨c, rfl⟩ : ∃ n : Nat, c = (n : Int) := ⟨c.toNat, by omega⟩
    have d1 : decide ((i : Int) < 0) = false := decide_eq_false (by omega)
    have d2 : decide ((65535 : Int) < (i : Int)) = false := decide_eq_false (by omega)
    have d3 : decide ((c : Int) < 0) = false := decide_eq_false (by omega)
    have d4 : decide ((65535 : Int) < (c : Int)) = false := decide_eq_false (by omega)
    have m1 : IntKind.u16.wrap (i : Int) = (i : Int) := by rw [IntKind.wrap_u16]; omega
    have m2 : IntKind.u16.wrap (c : Int) = (c : Int) := by rw [IntKind.wrap_u16]; omega
    have m3 : (i : Int) % 65536 = (i : Int) := by omega
    have m4 : (c : Int) % 65536 = (c : Int) := by omega
    go_enter Try.func108, Try.ntmps108
    go_wp2
    refine bodyPost_ret (v := .tuple #[.agg #[.int .u8 (h.ki : Int), .int .u32 (h.ep : Int), .int .u32 (h.ba : Int), .int .u16 (i : Int), .int .u16 (c : Int), .int .u32 (h.bl : Int), .int .u32 (h.mo : Int)], .bool true]) ?_ rfl ⟨by rw [HZ.out, HD.out]; rfl, bel_alloc (bel_alloc (Below.refl _ w) _) _⟩
    simp [results, Try.results108, go_sem]
  · have HZ := Lib.hid (show withH h i c = RH.zero by unfold withH; rw [if_neg hf])
    have HD := Lib.hid (decide_eq_false hf)
    unfold Fits16 at hf
    rcases (by omega : i < 0 ∨ (¬ i < 0 ∧ 65535 < i) ∨ (¬ i < 0 ∧ ¬ 65535 < i ∧ c < 0) ∨ (¬ i < 0 ∧ ¬ 65535 < i ∧ ¬ c < 0 ∧ 65535 < c)) with h1 | ⟨h1, h2⟩ | ⟨h1, h2, h3⟩ | ⟨h1, h2, h3, h4⟩
    · have d1 : decide (i < 0) = true := decide_eq_true h1
      clear h1 hf
      go_enter Try.func108, Try.ntmps108
      go_wp2
      refine bodyPost_ret (v := .tuple #[.agg RH.zero.cells, .bool false]) ?_ rfl ⟨by rw [HZ.out, HD.out]; rfl, bel_alloc (bel_alloc (Below.refl _ w) _) _⟩
      simp [results, Try.results108, go_sem, RH.cells, RH.zero]
    · have d1 : decide (i < 0) = false := decide_eq_false h1
      have d2 : decide (65535 < i) = true := decide_eq_true h2
      clear h1 h2 hf
      go_enter Try.func108, Try.ntmps108
      go_wp2
      refine bodyPost_ret (v := .tuple #[.agg RH.zero.cells, .bool false]) ?_ rfl ⟨by rw [HZ.out, HD.out]; rfl, bel_alloc (bel_alloc (Below.refl _ w) _) _⟩
      simp [results, Try.results108, go_sem, RH.cells, RH.zero]
    · have d1 : decide (i < 0) = false := decide_eq_false h1
      have d2 : decide (65535 < i) = false := decide_eq_false h2
      have d3 : decide (c < 0) = true := decide_eq_true h3
      clear h1 h2 h3 hf
      go_enter Try.func108, Try.ntmps108
      go_wp2
      refine bodyPost_ret (v := .tuple #[.agg RH.zero.cells, .bool false]) ?_ rfl ⟨by rw [HZ.out, HD.out]; rfl, bel_alloc (bel_alloc (Below.refl _ w) _) _⟩
      simp [results, Try.results108, go_sem, RH.cells, RH.zero]
    · have d1 : decide (i < 0) = false := decide_eq_false h1
      have d2 : decide (65535 < i) = false := decide_eq_false h2
      have d3 : decide (c < 0) = false := decide_eq_false h3
      have d4 : decide (65535 < c) = true := decide_eq_true h4
      clear h1 h2 h3 h4 hf
      go_enter Try.func108, Try.ntmps108
      go_wp2
      refine bodyPost_ret (v := .tuple #[.agg RH.zero.cells, .bool false]) ?_ rfl ⟨by rw [HZ.out, HD.out]; rfl, bel_alloc (bel_alloc (Below.refl _ w) _) _⟩
      simp [results, Try.results108, go_sem, RH.cells, RH.zero]

theorem ta_table_table (e : Nat) (i c : Int) (w : World) : (Instr.typeAssert (.iface 170 (.agg #[.int .u32 ((e : Nat) : Int), .int .i64 (i), .int .i64 (c)])) 20 170 true).run Try.prog w = .ok (.tuple #[.agg #[.int .u32 ((e : Nat) : Int), .int .i64 (i), .int .i64 (c)], .bool true]) w := by kernel_rfl
theorem ta_member_table (e : Nat) (w : World) : (Instr.typeAssert (.iface 172 (.agg #[.int .u32 ((e : Nat) : Int)])) 20 170 true).run Try.prog w = .ok (.tuple #[.agg #[.int .u32 0, .int .i64 0, .int .i64 0], .bool false]) w := by kernel_rfl
theorem ta_member_member (e : Nat) (w : World) : (Instr.typeAssert (.iface 172 (.agg #[.int .u32 ((e : Nat) : Int)])) 20 172 true).run Try.prog w = .ok (.tuple #[.agg #[.int .u32 ((e : Nat) : Int)], .bool true]) w := by kernel_rfl
theorem ta_point_table (e : Nat) (i c : Int) (w : World) : (Instr.typeAssert (.iface 173 (.agg #[.int .u32 ((e : Nat) : Int), .int .i64 (i), .int .i64 (c)])) 20 170 true).run Try.prog w = .ok (.tuple #[.agg #[.int .u32 0, .int .i64 0, .int .i64 0], .bool false]) w := by kernel_rfl
theorem ta_point_member (e : Nat) (i c : Int) (w : World) : (Instr.typeAssert (.iface 173 (.agg #[.int .u32 ((e : Nat) : Int), .int .i64 (i), .int .i64 (c)])) 20 172 true).run Try.prog w = .ok (.tuple #[.agg #[.int .u32 0], .bool false]) w := by kernel_rfl
theorem ta_point_point (e : Nat) (i c : Int) (w : World) : (Instr.typeAssert (.iface 173 (.agg #[.int .u32 ((e : Nat) : Int), .int .i64 (i), .int .i64 (c)])) 20 173 true).run Try.prog w = .ok (.tuple #[.agg #[.int .u32 ((e : Nat) : Int), .int .i64 (i), .int .i64 (c)], .bool true]) w := by kernel_rfl
theorem ta_data_table (e b : Nat) (i c : Int) (l : Nat) (w : World) : (Instr.typeAssert (.iface 110 (.agg #[.int .u32 ((e : Nat) : Int), .int .u32 ((b : Nat) : Int), .int .i64 (i), .int .i64 (c), .int .u32 ((l : Nat) : Int)])) 20 170 true).run Try.prog w = .ok (.tuple #[.agg #[.int .u32 0, .int .i64 0, .int .i64 0], .bool false]) w := by kernel_rfl
theorem ta_data_member (e b : Nat) (i c : Int) (l : Nat) (w : World) : (Instr.typeAssert (.iface 110 (.agg #[.int .u32 ((e : Nat) : Int), .int .u32 ((b : Nat) : Int), .int .i64 (i), .int .i64 (c), .int .u32 ((l : Nat) : Int)])) 20 172 true).run Try.prog w = .ok (.tuple #[.agg #[.int .u32 0], .bool false]) w := by kernel_rfl
theorem ta_data_point (e b : Nat) (i c : Int) (l : Nat) (w : World) : (Instr.typeAssert (.iface 110 (.agg #[.int .u32 ((e : Nat) : Int), .int .u32 ((b : Nat) : Int), .int .i64 (i), .int .i64 (c), .int .u32 ((l : Nat) : Int)])) 20 173 true).run Try.prog w = .ok (.tuple #[.agg #[.int .u32 0, .int .i64 0, .int .i64 0], .bool false]) w := by kernel_rfl
theorem ta_data_data (e b : Nat) (i c : Int) (l : Nat) (w : World) : (Instr.typeAssert (.iface 110 (.agg #[.int .u32 ((e : Nat) : Int), .int .u32 ((b : Nat) : Int), .int .i64 (i), .int .i64 (c), .int .u32 ((l : Nat) : Int)])) 20 110 true).run Try.prog w = .ok (.tuple #[.agg #[.int .u32 ((e : Nat) : Int), .int .u32 ((b : Nat) : Int), .int .i64 (i), .int .i64 (c), .int .u32 ((l : Nat) : Int)], .bool true]) w := by kernel_rfl
theorem ta_parity_table (e b : Nat) (i c : Int) (w : World) : (Instr.typeAssert (.iface 116 (.agg #[.int .u32 ((e : Nat) : Int), .int .u32 ((b : Nat) : Int), .int .i64 (i), .int .i64 (c)])) 20 170 true).run Try.prog w = .ok (.tuple #[.agg #[.int .u32 0, .int .i64 0, .int .i64 0], .bool false]) w := by kernel_rfl
theorem ta_parity_member (e b : Nat) (i c : Int) (w : World) : (Instr.typeAssert (.iface 116 (.agg #[.int .u32 ((e : Nat) : Int), .int .u32 ((b : Nat) : Int), .int .i64 (i), .int .i64 (c)])) 20 172 true).run Try.prog w = .ok (.tuple #[.agg #[.int .u32 0], .bool false]) w := by kernel_rfl
theorem ta_parity_point (e b : Nat) (i c : Int) (w : World) : (Instr.typeAssert (.iface 116 (.agg #[.int .u32 ((e : Nat) : Int), .int .u32 ((b : Nat) : Int), .int .i64 (i), .int .i64 (c)])) 20 173 true).run Try.prog w = .ok (.tuple #[.agg #[.int .u32 0, .int .i64 0, .int .i64 0], .bool false]) w := by kernel_rfl
theorem ta_parity_data (e b : Nat) (i c : Int) (w : World) : (Instr.typeAssert (.iface 116 (.agg #[.int .u32 ((e : Nat) : Int), .int .u32 ((b : Nat) : Int), .int .i64 (i), .int .i64 (c)])) 20 110 true).run Try.prog w = .ok (.tuple #[.agg #[.int .u32 0, .int .u32 0, .int .i64 0, .int .i64 0, .int .u32 0], .bool false]) w := by kernel_rfl
theorem ta_parity_parity (e b : Nat) (i c : Int) (w : World) : (Instr.typeAssert (.iface 116 (.agg #[.int .u32 ((e : Nat) : Int), .int .u32 ((b : Nat) : Int), .int .i64 (i), .int .i64 (c)])) 20 116 true).run Try.prog w = .ok (.tuple #[.agg #[.int .u32 ((e : Nat) : Int), .int .u32 ((b : Nat) : Int), .int .i64 (i), .int .i64 (c)], .bool true]) w := by kernel_rfl
theorem ta_fill_table (e b : Nat) (w : World) : (Instr.typeAssert (.iface 175 (.agg #[.int .u32 ((e : Nat) : Int), .int .u32 ((b : Nat) : Int)])) 20 170 true).run Try.prog w = .ok (.tuple #[.agg #[.int .u32 0, .int .i64 0, .int .i64 0], .bool false]) w := by kernel_rfl
theorem ta_fill_member (e b : Nat) (w : World) : (Instr.typeAssert (.iface 175 (.agg #[.int .u32 ((e : Nat) : Int), .int .u32 ((b : Nat) : Int)])) 20 172 true).run Try.prog w = .ok (.tuple #[.agg #[.int .u32 0], .bool false]) w := by kernel_rfl
theorem ta_fill_point (e b : Nat) (w : World) : (Instr.typeAssert (.iface 175 (.agg #[.int .u32 ((e : Nat) : Int), .int .u32 ((b : Nat) : Int)])) 20 173 true).run Try.prog w = .ok (.tuple #[.agg #[.int .u32 0, .int .i64 0, .int .i64 0], .bool false]) w := by kernel_rfl
theorem ta_fill_data (e b : Nat) (w : World) : (Instr.typeAssert (.iface 175 (.agg #[.int .u32 ((e : Nat) : Int), .int .u32 ((b : Nat) : Int)])) 20 110 true).run Try.prog w = .ok (.tuple #[.agg #[.int .u32 0, .int .u32 0, .int .i64 0, .int .i64 0, .int .u32 0], .bool false]) w := by kernel_rfl
theorem ta_fill_parity (e b : Nat) (w : World) : (Instr.typeAssert (.iface 175 (.agg #[.int .u32 ((e : Nat) : Int), .int .u32 ((b : Nat) : Int)])) 20 116 true).run Try.prog w = .ok (.tuple #[.agg #[.int .u32 0, .int .u32 0, .int .i64 0, .int .i64 0], .bool false]) w := by kernel_rfl
theorem ta_fill_fill (e b : Nat) (w : World) : (Instr.typeAssert (.iface 175 (.agg #[.int .u32 ((e : Nat) : Int), .int .u32 ((b : Nat) : Int)])) 20 175 true).run Try.prog w = .ok (.tuple #[.agg #[.int .u32 ((e : Nat) : Int), .int .u32 ((b : Nat) : Int)], .bool true]) w := by kernel_rfl
theorem ta_num_table (n : Int) (w : World) : (Instr.typeAssert (.iface 3 (.int .i64 n)) 20 170 true).run Try.prog w = .ok (.tuple #[.agg #[.int .u32 0, .int .i64 0, .int .i64 0], .bool false]) w := by kernel_rfl
theorem ta_nil_table (w : World) : (Instr.typeAssert .nilIface 20 170 true).run Try.prog w = .ok (.tuple #[.agg #[.int .u32 0, .int .i64 0, .int .i64 0], .bool false]) w := by kernel_rfl
theorem ta_num_member (n : Int) (w : World) : (Instr.typeAssert (.iface 3 (.int .i64 n)) 20 172 true).run Try.prog w = .ok (.tuple #[.agg #[.int .u32 0], .bool false]) w := by kernel_rfl
theorem ta_nil_member (w : World) : (Instr.typeAssert .nilIface 20 172 true).run Try.prog w = .ok (.tuple #[.agg #[.int .u32 0], .bool false]) w := by kernel_rfl
theorem ta_num_point (n : Int) (w : World) : (Instr.typeAssert (.iface 3 (.int .i64 n)) 20 173 true).run Try.prog w = .ok (.tuple #[.agg #[.int .u32 0, .int .i64 0, .int .i64 0], .bool false]) w := by kernel_rfl
theorem ta_nil_point (w : World) : (Instr.typeAssert .nilIface 20 173 true).run Try.prog w = .ok (.tuple #[.agg #[.int .u32 0, .int .i64 0, .int .i64 0], .bool false]) w := by kernel_rfl
theorem ta_num_data (n : Int) (w : World) : (Instr.typeAssert (.iface 3 (.int .i64 n)) 20 110 true).run Try.prog w = .ok (.tuple #[.agg #[.int .u32 0, .int .u32 0, .int .i64 0, .int .i64 0, .int .u32 0], .bool false]) w := by kernel_rfl
theorem ta_nil_data (w : World) : (Instr.typeAssert .nilIface 20 110 true).run Try.prog w = .ok (.tuple #[.agg #[.int .u32 0, .int .u32 0, .int .i64 0, .int .i64 0, .int .u32 0], .bool false]) w := by kernel_rfl
theorem ta_num_parity (n : Int) (w : World) : (Instr.typeAssert (.iface 3 (.int .i64 n)) 20 116 true).run Try.prog w = .ok (.tuple #[.agg #[.int .u32 0, .int .u32 0, .int .i64 0, .int .i64 0], .bool false]) w := by kernel_rfl
theorem ta_nil_parity (w : World) : (Instr.typeAssert .nilIface 20 116 true).run Try.prog w = .ok (.tuple #[.agg #[.int .u32 0, .int .u32 0, .int .i64 0, .int .i64 0], .bool false]) w := by kernel_rfl
theorem ta_num_fill (n : Int) (w : World) : (Instr.typeAssert (.iface 3 (.int .i64 n)) 20 175 true).run Try.prog w = .ok (.tuple #[.agg #[.int .u32 0, .int .u32 0], .bool false]) w := by kernel_rfl
theorem ta_nil_fill (w : World) : (Instr.typeAssert .nilIface 20 175 true).run Try.prog w = .ok (.tuple #[.agg #[.int .u32 0, .int .u32 0], .bool false]) w := by kernel_rfl
set_option maxRecDepth 100000 in
set_option maxHeartbeats 800000 in
theorem said_table (e : Nat) (i c : Int) (w : World) (hi : -9223372036854775808 ≤ i ∧ i ≤ 9223372036854775807) (hc : -9223372036854775808 ≤ c ∧ c ≤ 9223372036854775807) :
    Calls Try.prog 89 #[.iface 170 (.agg #[.int .u32 ((e : Nat) : Int), .int .i64 (i), .int .i64 (c)])] w fun e' w' => e' = .returned (.tuple #[.agg (withH ⟨1, e, 0, 0, 0, 0, 0⟩ i c).cells, .bool (decide (Fits16 i c))]) ∧ Below w.heap.size w w' := by
  have t0 := ta_table_table e i c
  go_enter Try.func89, Try.ntmps89
  go_wp2_with fail
  clear t0
  obtain ⟨W1, hW1⟩ : ∃ W1, W1 = (w.alloc (.cells #[.int .u8 0, .int .u32 0, .int .u32 0, .int .u16 0, .int .u16 0, .int .u32 0, .int .u32 0] 86)).alloc (.cells #[.int .u32 ((e : Nat) : Int), .int .i64 (i), .int .i64 (c)] 170) := ⟨_, rfl⟩
  have hb1 : Below w.heap.size w W1 := by rw [hW1]; exact bel_alloc (bel_alloc (Below.refl _ w) _) _
  have hz1 : w.heap.size < W1.heap.size := by rw [hW1]; simp; omega
  have h01 : W1.heap[w.heap.size]? = some (.cells RH.zero.cells 86 (0, 0)) := by rw [hW1, Below.heap_alloc _ _ _ (by simp)]; exact heap_alloc_new w _
  rw [← hW1]
  clear hW1
  have hw := with_any (⟨1, e, 0, 0, 0, 0, 0⟩ : RH) (i) (c) W1 (by omega) (by omega)
  unfold RH.cells at hw
  refine hw.mono ?_
  rintro e' w2 ⟨rfl, hb2⟩
  have h02 : w2.heap[w.heap.size]? = some (.cells RH.zero.cells 86 (0, 0)) := by rw [hb2.block _ hz1]; exact h01
  have hb02 := bel_trans hb1 hb2
  obtain ⟨H, hH⟩ : ∃ H, withH ⟨1, e, 0, 0, 0, 0, 0⟩ i c = H := ⟨_, rfl⟩
  obtain ⟨D, hD⟩ : ∃ D, decide (Fits16 i c) = D := ⟨_, rfl⟩
  rw [hH, hD]
  have HH := Lib.hid hH
  have HD := Lib.hid hD
  clear hw hb1 hb2 hz1 h01 hH hD
  obtain ⟨e0, e1, e2, e3, e4, e5, e6⟩ := hdr_cells h02
  have f0 := hdr_free h02 0
  have f1 := hdr_free h02 1
  have f2 := hdr_free h02 2
  have f3 := hdr_free h02 3
  have f4 := hdr_free h02 4
  have f5 := hdr_free h02 5
  have f6 := hdr_free h02 6
  clear h02
  go_wp2
  refine bodyPost_ret (v := .tuple #[.agg H.cells, .bool D]) ?_ rfl ⟨by rw [HH.out, HD.out], ?_⟩
  · simp [results, Try.results89, go_sem, RH.cells, e0, e1, e2, e3, e4, e5, e6]
  · exact bel_six hb02 w.heap.size (Nat.le_refl _) _ _ _ _ _ _ _
set_option maxRecDepth 100000 in
set_option maxHeartbeats 800000 in
theorem said_member (e : Nat) (w : World)  :
    Calls Try.prog 89 #[.iface 172 (.agg #[.int .u32 ((e : Nat) : Int)])] w fun e' w' => e' = .returned (.tuple #[.agg (withH ⟨2, e, 0, 0, 0, 0, 0⟩ 0 1).cells, .bool (decide (Fits16 0 1))]) ∧ Below w.heap.size w w' := by
  have t0 := ta_member_table e
  have t1 := ta_member_member e
  go_enter Try.func89, Try.ntmps89
  go_wp2_with fail
  clear t0 t1
  obtain ⟨W1, hW1⟩ : ∃ W1, W1 = (w.alloc (.cells #[.int .u8 0, .int .u32 0, .int .u32 0, .int .u16 0, .int .u16 0, .int .u32 0, .int .u32 0] 86)).alloc (.cells #[.int .u32 ((e : Nat) : Int)] 172) := ⟨_, rfl⟩
  have hb1 : Below w.heap.size w W1 := by rw [hW1]; exact bel_alloc (bel_alloc (Below.refl _ w) _) _
  have hz1 : w.heap.size < W1.heap.size := by rw [hW1]; simp; omega
  have h01 : W1.heap[w.heap.size]? = some (.cells RH.zero.cells 86 (0, 0)) := by rw [hW1, Below.heap_alloc _ _ _ (by simp)]; exact heap_alloc_new w _
  rw [← hW1]
  clear hW1
  have hw := with_any (⟨2, e, 0, 0, 0, 0, 0⟩ : RH) (0) (1) W1 (by omega) (by omega)
  unfold RH.cells at hw
  refine hw.mono ?_
  rintro e' w2 ⟨rfl, hb2⟩
  have h02 : w2.heap[w.heap.size]? = some (.cells RH.zero.cells 86 (0, 0)) := by rw [hb2.block _ hz1]; exact h01
  have hb02 := bel_trans hb1 hb2
  obtain ⟨H, hH⟩ : ∃ H, withH ⟨2, e, 0, 0, 0, 0, 0⟩ 0 1 = H := ⟨_, rfl⟩
  obtain ⟨D, hD⟩ : ∃ D, decide (Fits16 0 1) = D := ⟨_, rfl⟩
  rw [hH, hD]
  have HH := Lib.hid hH
  have HD := Lib.hid hD
  clear hw hb1 hb2 hz1 h01 hH hD
  obtain ⟨e0, e1, e2, e3, e4, e5, e6⟩ := hdr_cells h02
  have f0 := hdr_free h02 0
  have f1 := hdr_free h02 1
  have f2 := hdr_free h02 2
  have f3 := hdr_free h02 3
  have f4 := hdr_free h02 4
  have f5 := hdr_free h02 5
  have f6 := hdr_free h02 6
  clear h02
  go_wp2
  refine bodyPost_ret (v := .tuple #[.agg H.cells, .bool D]) ?_ rfl ⟨by rw [HH.out, HD.out], ?_⟩
  · simp [results, Try.results89, go_sem, RH.cells, e0, e1, e2, e3, e4, e5, e6]
  · exact bel_six hb02 w.heap.size (Nat.le_refl _) _ _ _ _ _ _ _
set_option maxRecDepth 100000 in
set_option maxHeartbeats 800000 in
theorem said_point (e : Nat) (i c : Int) (w : World) (hi : -9223372036854775808 ≤ i ∧ i ≤ 9223372036854775807) (hc : -9223372036854775808 ≤ c ∧ c ≤ 9223372036854775807) :
    Calls Try.prog 89 #[.iface 173 (.agg #[.int .u32 ((e : Nat) : Int), .int .i64 (i), .int .i64 (c)])] w fun e' w' => e' = .returned (.tuple #[.agg (withH ⟨3, e, 0, 0, 0, 0, 0⟩ i c).cells, .bool (decide (Fits16 i c))]) ∧ Below w.heap.size w w' := by
  have t0 := ta_point_table e i c
  have t1 := ta_point_member e i c
  have t2 := ta_point_point e i c
  go_enter Try.func89, Try.ntmps89
  go_wp2_with fail
  clear t0 t1 t2
  obtain ⟨W1, hW1⟩ : ∃ W1, W1 = (w.alloc (.cells #[.int .u8 0, .int .u32 0, .int .u32 0, .int .u16 0, .int .u16 0, .int .u32 0, .int .u32 0] 86)).alloc (.cells #[.int .u32 ((e : Nat) : Int), .int .i64 (i), .int .i64 (c)] 173) := ⟨_, rfl⟩
  have hb1 : Below w.heap.size w W1 := by rw [hW1]; exact bel_alloc (bel_alloc (Below.refl _ w) _) _
  have hz1 : w.heap.size < W1.heap.size := by rw [hW1]; simp; omega
  have h01 : W1.heap[w.heap.size]? = some (.cells RH.zero.cells 86 (0, 0)) := by rw [hW1, Below.heap_alloc _ _ _ (by simp)]; exact heap_alloc_new w _
  rw [← hW1]
  clear hW1
  have hw := with_any (⟨3, e, 0, 0, 0, 0, 0⟩ : RH) (i) (c) W1 (by omega) (by omega)
  unfold RH.cells at hw
  refine hw.mono ?_
  rintro e' w2 ⟨rfl, hb2⟩
  have h02 : w2.heap[w.heap.size]? = some (.cells RH.zero.cells 86 (0, 0)) := by rw [hb2.block _ hz1]; exact h01
  have hb02 := bel_trans hb1 hb2
  obtain ⟨H, hH⟩ : ∃ H, withH ⟨3, e, 0, 0, 0, 0, 0⟩ i c = H := ⟨_, rfl⟩
  obtain ⟨D, hD⟩ : ∃ D, decide (Fits16 i c) = D := ⟨_, rfl⟩
  rw [hH, hD]
  have HH := Lib.hid hH
  have HD := Lib.hid hD
  clear hw hb1 hb2 hz1 h01 hH hD
  obtain ⟨e0, e1, e2, e3, e4, e5, e6⟩ := hdr_cells h02
  have f0 := hdr_free h02 0
  have f1 := hdr_free h02 1
  have f2 := hdr_free h02 2
  have f3 := hdr_free h02 3
  have f4 := hdr_free h02 4
  have f5 := hdr_free h02 5
  have f6 := hdr_free h02 6
  clear h02
  go_wp2
  refine bodyPost_ret (v := .tuple #[.agg H.cells, .bool D]) ?_ rfl ⟨by rw [HH.out, HD.out], ?_⟩
  · simp [results, Try.results89, go_sem, RH.cells, e0, e1, e2, e3, e4, e5, e6]
  · exact bel_six hb02 w.heap.size (Nat.le_refl _) _ _ _ _ _ _ _
set_option maxRecDepth 100000 in
set_option maxHeartbeats 800000 in
theorem said_data (e b : Nat) (i c : Int) (l : Nat) (w : World) (hi : -9223372036854775808 ≤ i ∧ i ≤ 9223372036854775807) (hc : -9223372036854775808 ≤ c ∧ c ≤ 9223372036854775807) :
    Calls Try.prog 89 #[.iface 110 (.agg #[.int .u32 ((e : Nat) : Int), .int .u32 ((b : Nat) : Int), .int .i64 (i), .int .i64 (c), .int .u32 ((l : Nat) : Int)])] w fun e' w' => e' = .returned (.tuple #[.agg (withH ⟨4, e, b, 0, 0, l, 0⟩ i c).cells, .bool (decide (Fits16 i c))]) ∧ Below w.heap.size w w' := by
  have t0 := ta_data_table e b i c l
  have t1 := ta_data_member e b i c l
  have t2 := ta_data_point e b i c l
  have t3 := ta_data_data e b i c l
  go_enter Try.func89, Try.ntmps89
  go_wp2_with fail
  clear t0 t1 t2 t3
  obtain ⟨W1, hW1⟩ : ∃ W1, W1 = (w.alloc (.cells #[.int .u8 0, .int .u32 0, .int .u32 0, .int .u16 0, .int .u16 0, .int .u32 0, .int .u32 0] 86)).alloc (.cells #[.int .u32 ((e : Nat) : Int), .int .u32 ((b : Nat) : Int), .int .i64 (i), .int .i64 (c), .int .u32 ((l : Nat) : Int)] 110) := ⟨_, rfl⟩
  have hb1 : Below w.heap.size w W1 := by rw [hW1]; exact bel_alloc (bel_alloc (Below.refl _ w) _) _
  have hz1 : w.heap.size < W1.heap.size := by rw [hW1]; simp; omega
  have h01 : W1.heap[w.heap.size]? = some (.cells RH.zero.cells 86 (0, 0)) := by rw [hW1, Below.heap_alloc _ _ _ (by simp)]; exact heap_alloc_new w _
  rw [← hW1]
  clear hW1
  have hw := with_any (⟨4, e, b, 0, 0, l, 0⟩ : RH) (i) (c) W1 (by omega) (by omega)
  unfold RH.cells at hw
  refine hw.mono ?_
  rintro e' w2 ⟨rfl, hb2⟩
  have h02 : w2.heap[w.heap.size]? = some (.cells RH.zero.cells 86 (0, 0)) := by rw [hb2.block _ hz1]; exact h01
  have hb02 := bel_trans hb1 hb2
  obtain ⟨H, hH⟩ : ∃ H, withH ⟨4, e, b, 0, 0, l, 0⟩ i c = H := ⟨_, rfl⟩
  obtain ⟨D, hD⟩ : ∃ D, decide (Fits16 i c) = D := ⟨_, rfl⟩
  rw [hH, hD]
  have HH := Lib.hid hH
  have HD := Lib.hid hD
  clear hw hb1 hb2 hz1 h01 hH hD
  obtain ⟨e0, e1, e2, e3, e4, e5, e6⟩ := hdr_cells h02
  have f0 := hdr_free h02 0
  have f1 := hdr_free h02 1
  have f2 := hdr_free h02 2
  have f3 := hdr_free h02 3
  have f4 := hdr_free h02 4
  have f5 := hdr_free h02 5
  have f6 := hdr_free h02 6
  clear h02
  go_wp2
  refine bodyPost_ret (v := .tuple #[.agg H.cells, .bool D]) ?_ rfl ⟨by rw [HH.out, HD.out], ?_⟩
  · simp [results, Try.results89, go_sem, RH.cells, e0, e1, e2, e3, e4, e5, e6]
  · exact bel_six hb02 w.heap.size (Nat.le_refl _) _ _ _ _ _ _ _
set_option maxRecDepth 100000 in
set_option maxHeartbeats 800000 in
theorem said_parity (e b : Nat) (i c : Int) (w : World) (hi : -9223372036854775808 ≤ i ∧ i ≤ 9223372036854775807) (hc : -9223372036854775808 ≤ c ∧ c ≤ 9223372036854775807) :
    Calls Try.prog 89 #[.iface 116 (.agg #[.int .u32 ((e : Nat) : Int), .int .u32 ((b : Nat) : Int), .int .i64 (i), .int .i64 (c)])] w fun e' w' => e' = .returned (.tuple #[.agg (withH ⟨5, e, b, 0, 0, 0, 0⟩ i c).cells, .bool (decide (Fits16 i c))]) ∧ Below w.heap.size w w' := by
  have t0 := ta_parity_table e b i c
  have t1 := ta_parity_member e b i c
  have t2 := ta_parity_point e b i c
  have t3 := ta_parity_data e b i c
  have t4 := ta_parity_parity e b i c
  go_enter Try.func89, Try.ntmps89
  go_wp2_with fail
  clear t0 t1 t2 t3 t4
  obtain ⟨W1, hW1⟩ : ∃ W1, W1 = (w.alloc (.cells #[.int .u8 0, .int .u32 0, .int .u32 0, .int .u16 0, .int .u16 0, .int .u32 0, .int .u32 0] 86)).alloc (.cells #[.int .u32 ((e : Nat) : Int), .int .u32 ((b : Nat) : Int), .int .i64 (i), .int .i64 (c)] 116) := ⟨_, rfl⟩
  have hb1 : Below w.heap.size w W1 := by rw [hW1]; exact bel_alloc (bel_alloc (Below.refl _ w) _) _
  have hz1 : w.heap.size < W1.heap.size := by rw [hW1]; simp; omega
  have h01 : W1.heap[w.heap.size]? = some (.cells RH.zero.cells 86 (0, 0)) := by rw [hW1, Below.heap_alloc _ _ _ (by simp)]; exact heap_alloc_new w _
  rw [← hW1]
  clear hW1
  have hw := with_any (⟨5, e, b, 0, 0, 0, 0⟩ : RH) (i) (c) W1 (by omega) (by omega)
  unfold RH.cells at hw
  refine hw.mono ?_
  rintro e' w2 ⟨rfl, hb2⟩
  have h02 : w2.heap[w.heap.size]? = some (.cells RH.zero.cells 86 (0, 0)) := by rw [hb2.block _ hz1]; exact h01
  have hb02 := bel_trans hb1 hb2
  obtain ⟨H, hH⟩ : ∃ H, withH ⟨5, e, b, 0, 0, 0, 0⟩ i c = H := ⟨_, rfl⟩
  obtain ⟨D, hD⟩ : ∃ D, decide (Fits16 i c) = D := ⟨_, rfl⟩
  rw [hH, hD]
  have HH := Lib.hid hH
  have HD := Lib.hid hD
  clear hw hb1 hb2 hz1 h01 hH hD
  obtain ⟨e0, e1, e2, e3, e4, e5, e6⟩ := hdr_cells h02
  have f0 := hdr_free h02 0
  have f1 := hdr_free h02 1
  have f2 := hdr_free h02 2
  have f3 := hdr_free h02 3
  have f4 := hdr_free h02 4
  have f5 := hdr_free h02 5
  have f6 := hdr_free h02 6
  clear h02
  go_wp2
  refine bodyPost_ret (v := .tuple #[.agg H.cells, .bool D]) ?_ rfl ⟨by rw [HH.out, HD.out], ?_⟩
  · simp [results, Try.results89, go_sem, RH.cells, e0, e1, e2, e3, e4, e5, e6]
  · exact bel_six hb02 w.heap.size (Nat.le_refl _) _ _ _ _ _ _ _
set_option maxRecDepth 100000 in
set_option maxHeartbeats 800000 in
theorem said_fill (e b : Nat) (w : World) :
    Calls Try.prog 89 #[.iface 175 (.agg #[.int .u32 ((e : Nat) : Int), .int .u32 ((b : Nat) : Int)])] w fun e' w' => e' = .returned (.tuple #[.agg (⟨6, e, b, 0, 0, 0, 0⟩ : RH).cells, .bool true]) ∧ Below w.heap.size w w' := by
  have t0 := ta_fill_table e b
  have t1 := ta_fill_member e b
  have t2 := ta_fill_point e b
  have t3 := ta_fill_data e b
  have t4 := ta_fill_parity e b
  have t5 := ta_fill_fill e b
  go_enter Try.func89, Try.ntmps89
  go_wp2
  refine bodyPost_ret (v := .tuple #[.agg (⟨6, e, b, 0, 0, 0, 0⟩ : RH).cells, .bool true]) ?_ rfl ⟨rfl, ?_⟩
  · simp [results, Try.results89, go_sem, RH.cells]
  · exact bel_alloc (bel_alloc (Below.refl _ w) _) _

set_option maxRecDepth 100000 in
set_option maxHeartbeats 800000 in
theorem said_num (n : Int) (w : World) :
    Calls Try.prog 89 #[.iface 3 (.int .i64 n)] w fun e' w' => e' = .returned (.tuple #[.agg RH.zero.cells, .bool false]) ∧ Below w.heap.size w w' := by
  have t0 := ta_num_table n
  have t1 := ta_num_member n
  have t2 := ta_num_point n
  have t3 := ta_num_data n
  have t4 := ta_num_parity n
  have t5 := ta_num_fill n
  go_enter Try.func89, Try.ntmps89
  go_wp2
  refine bodyPost_ret (v := .tuple #[.agg RH.zero.cells, .bool false]) ?_ rfl ⟨rfl, ?_⟩
  · simp [results, Try.results89, go_sem, RH.cells, RH.zero]
  · exact bel_alloc (Below.refl _ w) _

set_option maxRecDepth 100000 in
set_option maxHeartbeats 800000 in
theorem said_nil (w : World) :
    Calls Try.prog 89 #[.nilIface] w fun e' w' => e' = .returned (.tuple #[.agg RH.zero.cells, .bool false]) ∧ Below w.heap.size w w' := by
  have t0 := ta_nil_table
  have t1 := ta_nil_member
  have t2 := ta_nil_point
  have t3 := ta_nil_data
  have t4 := ta_nil_parity
  have t5 := ta_nil_fill
  go_enter Try.func89, Try.ntmps89
  go_wp2
  refine bodyPost_ret (v := .tuple #[.agg RH.zero.cells, .bool false]) ?_ rfl ⟨rfl, ?_⟩
  · simp [results, Try.results89, go_sem, RH.cells, RH.zero]
  · exact bel_alloc (Below.refl _ w) _


/-- What Said ends with is what said ends with. -/
theorem Said_of (x : Value) (h : RH) (b : Bool) (hs : ∀ w, Calls Try.prog 89 #[x] w fun e' w' => e' = .returned (.tuple #[.agg h.cells, .bool b]) ∧ Below w.heap.size w w') (w : World) :
    Calls Try.prog 51 #[x] w fun e' w' => e' = .returned (.tuple #[.agg h.cells, .bool b]) ∧ Below w.heap.size w w' := by
  unfold RH.cells at hs ⊢
  have HS := Lib.hid hs
  clear hs
  go_enter Try.func51, Try.ntmps51
  go_wp2_with fail
  obtain ⟨W1, hW1⟩ : ∃ W1, W1 = w.alloc (.cells #[.int .u8 0, .int .u32 0, .int .u32 0, .int .u16 0, .int .u16 0, .int .u32 0, .int .u32 0] 86) := ⟨_, rfl⟩
  have hb1 : Below w.heap.size w W1 := by rw [hW1]; exact bel_alloc (Below.refl _ w) _
  have hz1 : w.heap.size < W1.heap.size := by rw [hW1]; simp
  have h01 : W1.heap[w.heap.size]? = some (.cells RH.zero.cells 86 (0, 0)) := by rw [hW1]; exact heap_alloc_new w _
  rw [← hW1]
  clear hW1
  refine (HS.out W1).mono ?_
  rintro e' w2 ⟨rfl, hb2⟩
  have h02 : w2.heap[w.heap.size]? = some (.cells RH.zero.cells 86 (0, 0)) := by rw [hb2.block _ hz1]; exact h01
  have hb02 := bel_trans hb1 hb2
  clear hb1 hb2 hz1 h01
  obtain ⟨e0, e1, e2, e3, e4, e5, e6⟩ := hdr_cells h02
  have f0 := hdr_free h02 0
  have f1 := hdr_free h02 1
  have f2 := hdr_free h02 2
  have f3 := hdr_free h02 3
  have f4 := hdr_free h02 4
  have f5 := hdr_free h02 5
  have f6 := hdr_free h02 6
  clear h02
  go_wp2
  refine bodyPost_ret (v := .tuple #[.agg h.cells, .bool b]) ?_ rfl ⟨rfl, ?_⟩
  · simp [results, Try.results51, go_sem, RH.cells, e0, e1, e2, e3, e4, e5, e6]
  · exact bel_six hb02 w.heap.size (Nat.le_refl _) _ _ _ _ _ _ _

theorem Epoch_of (x : Value) (h : RH) (b : Bool) (hs : ∀ w, Calls Try.prog 89 #[x] w fun e' w' => e' = .returned (.tuple #[.agg h.cells, .bool b]) ∧ Below w.heap.size w w') (w : World) :
    Calls Try.prog 50 #[x] w fun e' w' => e' = .returned (.tuple #[.int .u32 (if b = true then (h.ep : Int) else 0), .int .i64 (if b = true then 0 else 62)]) ∧ Below w.heap.size w w' := by
  unfold RH.cells at hs
  have HS := Lib.hid hs
  clear hs
  go_enter Try.func50, Try.ntmps50
  go_wp2_with fail
  refine (HS.out w).mono ?_
  rintro e' w2 ⟨rfl, hb2⟩
  have hb02 := bel_alloc hb2 (.cells h.cells 86)
  have hh := (hdr_new h w2).2.1
  unfold RH.cells at hb02
  cases b with
  | true =>
    go_wp2
    exact bodyPost_ret (v := .tuple #[.int .u32 (h.ep : Int), .int .i64 0]) (by simp [results, Try.results50, go_sem]) rfl ⟨rfl, hb02⟩
  | false =>
    go_wp2
    exact bodyPost_ret (v := .tuple #[.int .u32 0, .int .i64 62]) (by simp [results, Try.results50, go_sem]) rfl ⟨rfl, hb02⟩

end Go.Proofs.Ytjnjkoodeacpdaa
