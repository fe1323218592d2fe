/- Wide headers held against each other; a header stored over another. -/
import Derived.Test.YtbfmpcomjmcfjaaREq
import Derived.Test.YtbfmpcomjmcfjaaRRefOpen
namespace Go.Proofs.Ytbfmpcomjmcfjaa
open Go.RowKit

theorem eql_wide (h k : RH) (w : World) : (binOp .eql 92 (.agg h.wide) (.agg k.wide)).run Try.prog w = .ok (.bool (eqH h k)) w := by
  have hu8 := Try.underlying2
  have hu := Try.underlying92
  rw [run_eql_struct]
  rw [run_equalIn_agg w 9999 92 h.wide k.wide (by kernel_rfl) (by kernel_rfl)]
  unfold RH.wide
  simp [go_sem, Program.fieldsOf, hu, hu8]
  unfold eqH
  by_cases c0 : h.ki = k.ki
  rotate_left
  · have d0 : ¬ (h.ki : Int) = (k.ki : Int) := by omega
    rw [if_neg d0, beq_eq_false_iff_ne.2 c0]
    simp
  rw [if_pos (by rw [c0]), c0, beq_self_eq_true, Bool.true_and]
  by_cases c1 : h.ep = k.ep
  rotate_left
  · have d1 : ¬ (h.ep : Int) = (k.ep : Int) := by omega
    rw [if_neg d1, beq_eq_false_iff_ne.2 c1]
    simp
  rw [if_pos (by rw [c1]), c1, beq_self_eq_true, Bool.true_and]
  by_cases c2 : h.ba = k.ba
  rotate_left
  · have d2 : ¬ (h.ba : Int) = (k.ba : Int) := by omega
    rw [if_neg d2, beq_eq_false_iff_ne.2 c2]
    simp
  rw [if_pos (by rw [c2]), c2, beq_self_eq_true, Bool.true_and]
  by_cases c3 : h.ix = k.ix
  rotate_left
  · have d3 : ¬ (h.ix : Int) = (k.ix : Int) := by omega
    rw [if_neg d3, beq_eq_false_iff_ne.2 c3]
    simp
  rw [if_pos (by rw [c3]), c3, beq_self_eq_true, Bool.true_and]
  by_cases c4 : h.ct = k.ct
  rotate_left
  · have d4 : ¬ (h.ct : Int) = (k.ct : Int) := by omega
    rw [if_neg d4, beq_eq_false_iff_ne.2 c4]
    simp
  rw [if_pos (by rw [c4]), c4, beq_self_eq_true, Bool.true_and]
  by_cases c5 : h.bl = k.bl
  rotate_left
  · have d5 : ¬ (h.bl : Int) = (k.bl : Int) := by omega
    rw [if_neg d5, beq_eq_false_iff_ne.2 c5]
    simp
  rw [if_pos (by rw [c5]), c5, beq_self_eq_true, Bool.true_and]
  by_cases c6 : h.mo = k.mo
  rotate_left
  · have d6 : ¬ (h.mo : Int) = (k.mo : Int) := by omega
    rw [if_neg d6, beq_eq_false_iff_ne.2 c6]
  rw [if_pos (by rw [c6]), c6, beq_self_eq_true]

theorem neq_of_eql {t : TypeId} {xs ys : Array Value} {b : Bool} {w : World} (h1 : (binOp .eql t (.agg xs) (.agg ys)).run Try.prog w = .ok (.bool b) w) : (binOp .neq t (.agg xs) (.agg ys)).run Try.prog w = .ok (.bool (!b)) w := by
  rw [run_eql_struct] at h1
  rw [run_neq_struct]
  cases h2 : (Op.equalIn 10000 t (.agg xs) (.agg ys)).run Try.prog w with
  | ok b w' =>
    rw [h2] at h1
    simp [Result.andThen] at h1 ⊢
    exact ⟨by rw [h1.1], h1.2⟩
  | halt x w' =>
    rw [h2] at h1
    simp [Result.andThen] at h1
theorem store_hdr {w : World} {p : Nat} {Y : RH} (X : RH) (h : w.heap[p]? = some (.cells Y.cells 86 (0, 0))) :
    (((((((w.setCell ⟨p, 0, none⟩ (.int .u8 (X.ki : Int))).setCell ⟨p, 1, none⟩ (.int .u32 (X.ep : Int))).setCell ⟨p, 2, none⟩ (.int .u32 (X.ba : Int))).setCell ⟨p, 3, none⟩ (.int .u16 (X.ix : Int))).setCell ⟨p, 4, none⟩ (.int .u16 (X.ct : Int))).setCell ⟨p, 5, none⟩ (.int .u32 (X.bl : Int))).setCell ⟨p, 6, none⟩ (.int .u32 (X.mo : Int))).heap[p]? = some (.cells X.cells 86 (0, 0)) ∧ ∀ k, k ≠ p → (((((((w.setCell ⟨p, 0, none⟩ (.int .u8 (X.ki : Int))).setCell ⟨p, 1, none⟩ (.int .u32 (X.ep : Int))).setCell ⟨p, 2, none⟩ (.int .u32 (X.ba : Int))).setCell ⟨p, 3, none⟩ (.int .u16 (X.ix : Int))).setCell ⟨p, 4, none⟩ (.int .u16 (X.ct : Int))).setCell ⟨p, 5, none⟩ (.int .u32 (X.bl : Int))).setCell ⟨p, 6, none⟩ (.int .u32 (X.mo : Int))).heap[k]? = w.heap[k]? := by
  refine ⟨?_, fun k hk => ?_⟩
  · have q0 := heap_setCell_same w p 0 Y.cells 86 (.int .u8 (X.ki : Int)) h
    have e0 : Y.cells.setIfInBounds 0 (.int .u8 (X.ki : Int)) = (⟨X.ki, Y.ep, Y.ba, Y.ix, Y.ct, Y.bl, Y.mo⟩ : RH).cells := rfl
    rw [e0] at q0
    have q1 := heap_setCell_same (w.setCell ⟨p, 0, none⟩ (.int .u8 (X.ki : Int))) p 1 (⟨X.ki, Y.ep, Y.ba, Y.ix, Y.ct, Y.bl, Y.mo⟩ : RH).cells 86 (.int .u32 (X.ep : Int)) q0
    have e1 : (⟨X.ki, Y.ep, Y.ba, Y.ix, Y.ct, Y.bl, Y.mo⟩ : RH).cells.setIfInBounds 1 (.int .u32 (X.ep : Int)) = (⟨X.ki, X.ep, Y.ba, Y.ix, Y.ct, Y.bl, Y.mo⟩ : RH).cells := rfl
    rw [e1] at q1
    have q2 := heap_setCell_same ((w.setCell ⟨p, 0, none⟩ (.int .u8 (X.ki : Int))).setCell ⟨p, 1, none⟩ (.int .u32 (X.ep : Int))) p 2 (⟨X.ki, X.ep, Y.ba, Y.ix, Y.ct, Y.bl, Y.mo⟩ : RH).cells 86 (.int .u32 (X.ba : Int)) q1
    have e2 : (⟨X.ki, X.ep, Y.ba, Y.ix, Y.ct, Y.bl, Y.mo⟩ : RH).cells.setIfInBounds 2 (.int .u32 (X.ba : Int)) = (⟨X.ki, X.ep, X.ba, Y.ix, Y.ct, Y.bl, Y.mo⟩ : RH).cells := rfl
    rw [e2] at q2
    have q3 := heap_setCell_same (((w.setCell ⟨p, 0, none⟩ (.int .u8 (X.ki : Int))).setCell ⟨p, 1, none⟩ (.int .u32 (X.ep : Int))).setCell ⟨p, 2, none⟩ (.int .u32 (X.ba : Int))) p 3 (⟨X.ki, X.ep, X.ba, Y.ix, Y.ct, Y.bl, Y.mo⟩ : RH).cells 86 (.int .u16 (X.ix : Int)) q2
    have e3 : (⟨X.ki, X.ep, X.ba, Y.ix, Y.ct, Y.bl, Y.mo⟩ : RH).cells.setIfInBounds 3 (.int .u16 (X.ix : Int)) = (⟨X.ki, X.ep, X.ba, X.ix, Y.ct, Y.bl, Y.mo⟩ : RH).cells := rfl
    rw [e3] at q3
    have q4 := heap_setCell_same ((((w.setCell ⟨p, 0, none⟩ (.int .u8 (X.ki : Int))).setCell ⟨p, 1, none⟩ (.int .u32 (X.ep : Int))).setCell ⟨p, 2, none⟩ (.int .u32 (X.ba : Int))).setCell ⟨p, 3, none⟩ (.int .u16 (X.ix : Int))) p 4 (⟨X.ki, X.ep, X.ba, X.ix, Y.ct, Y.bl, Y.mo⟩ : RH).cells 86 (.int .u16 (X.ct : Int)) q3
    have e4 : (⟨X.ki, X.ep, X.ba, X.ix, Y.ct, Y.bl, Y.mo⟩ : RH).cells.setIfInBounds 4 (.int .u16 (X.ct : Int)) = (⟨X.ki, X.ep, X.ba, X.ix, X.ct, Y.bl, Y.mo⟩ : RH).cells := rfl
    rw [e4] at q4
    have q5 := heap_setCell_same (((((w.setCell ⟨p, 0, none⟩ (.int .u8 (X.ki : Int))).setCell ⟨p, 1, none⟩ (.int .u32 (X.ep : Int))).setCell ⟨p, 2, none⟩ (.int .u32 (X.ba : Int))).setCell ⟨p, 3, none⟩ (.int .u16 (X.ix : Int))).setCell ⟨p, 4, none⟩ (.int .u16 (X.ct : Int))) p 5 (⟨X.ki, X.ep, X.ba, X.ix, X.ct, Y.bl, Y.mo⟩ : RH).cells 86 (.int .u32 (X.bl : Int)) q4
    have e5 : (⟨X.ki, X.ep, X.ba, X.ix, X.ct, Y.bl, Y.mo⟩ : RH).cells.setIfInBounds 5 (.int .u32 (X.bl : Int)) = (⟨X.ki, X.ep, X.ba, X.ix, X.ct, X.bl, Y.mo⟩ : RH).cells := rfl
    rw [e5] at q5
    have q6 := heap_setCell_same ((((((w.setCell ⟨p, 0, none⟩ (.int .u8 (X.ki : Int))).setCell ⟨p, 1, none⟩ (.int .u32 (X.ep : Int))).setCell ⟨p, 2, none⟩ (.int .u32 (X.ba : Int))).setCell ⟨p, 3, none⟩ (.int .u16 (X.ix : Int))).setCell ⟨p, 4, none⟩ (.int .u16 (X.ct : Int))).setCell ⟨p, 5, none⟩ (.int .u32 (X.bl : Int))) p 6 (⟨X.ki, X.ep, X.ba, X.ix, X.ct, X.bl, Y.mo⟩ : RH).cells 86 (.int .u32 (X.mo : Int)) q5
    have e6 : (⟨X.ki, X.ep, X.ba, X.ix, X.ct, X.bl, Y.mo⟩ : RH).cells.setIfInBounds 6 (.int .u32 (X.mo : Int)) = (⟨X.ki, X.ep, X.ba, X.ix, X.ct, X.bl, X.mo⟩ : RH).cells := rfl
    rw [e6] at q6
    exact q6
  · rw [Below.heap_setCell _ _ _ _ (show k ≠ (⟨p, 6, none⟩ : Addr).block from hk), Below.heap_setCell _ _ _ _ (show k ≠ (⟨p, 5, none⟩ : Addr).block from hk), Below.heap_setCell _ _ _ _ (show k ≠ (⟨p, 4, none⟩ : Addr).block from hk), Below.heap_setCell _ _ _ _ (show k ≠ (⟨p, 3, none⟩ : Addr).block from hk), Below.heap_setCell _ _ _ _ (show k ≠ (⟨p, 2, none⟩ : Addr).block from hk), Below.heap_setCell _ _ _ _ (show k ≠ (⟨p, 1, none⟩ : Addr).block from hk), Below.heap_setCell _ _ _ _ (show k ≠ (⟨p, 0, none⟩ : Addr).block from hk)]
theorem store_wide {w : World} {p : Nat} {Y : RH} (X : RH) (h : w.heap[p]? = some (.cells Y.wide 92 (0, 0))) :
    (((((((w.setCell ⟨p, 0, none⟩ (.int .i64 (X.ki : Int))).setCell ⟨p, 1, none⟩ (.int .i64 (X.ep : Int))).setCell ⟨p, 2, none⟩ (.int .i64 (X.ba : Int))).setCell ⟨p, 3, none⟩ (.int .i64 (X.ix : Int))).setCell ⟨p, 4, none⟩ (.int .i64 (X.ct : Int))).setCell ⟨p, 5, none⟩ (.int .i64 (X.bl : Int))).setCell ⟨p, 6, none⟩ (.int .i64 (X.mo : Int))).heap[p]? = some (.cells X.wide 92 (0, 0)) ∧ ∀ k, k ≠ p → (((((((w.setCell ⟨p, 0, none⟩ (.int .i64 (X.ki : Int))).setCell ⟨p, 1, none⟩ (.int .i64 (X.ep : Int))).setCell ⟨p, 2, none⟩ (.int .i64 (X.ba : Int))).setCell ⟨p, 3, none⟩ (.int .i64 (X.ix : Int))).setCell ⟨p, 4, none⟩ (.int .i64 (X.ct : Int))).setCell ⟨p, 5, none⟩ (.int .i64 (X.bl : Int))).setCell ⟨p, 6, none⟩ (.int .i64 (X.mo : Int))).heap[k]? = w.heap[k]? := by
  refine ⟨?_, fun k hk => ?_⟩
  · have q0 := heap_setCell_same w p 0 Y.wide 92 (.int .i64 (X.ki : Int)) h
    have e0 : Y.wide.setIfInBounds 0 (.int .i64 (X.ki : Int)) = (⟨X.ki, Y.ep, Y.ba, Y.ix, Y.ct, Y.bl, Y.mo⟩ : RH).wide := rfl
    rw [e0] at q0
    have q1 := heap_setCell_same (w.setCell ⟨p, 0, none⟩ (.int .i64 (X.ki : Int))) p 1 (⟨X.ki, Y.ep, Y.ba, Y.ix, Y.ct, Y.bl, Y.mo⟩ : RH).wide 92 (.int .i64 (X.ep : Int)) q0
    have e1 : (⟨X.ki, Y.ep, Y.ba, Y.ix, Y.ct, Y.bl, Y.mo⟩ : RH).wide.setIfInBounds 1 (.int .i64 (X.ep : Int)) = (⟨X.ki, X.ep, Y.ba, Y.ix, Y.ct, Y.bl, Y.mo⟩ : RH).wide := rfl
    rw [e1] at q1
    have q2 := heap_setCell_same ((w.setCell ⟨p, 0, none⟩ (.int .i64 (X.ki : Int))).setCell ⟨p, 1, none⟩ (.int .i64 (X.ep : Int))) p 2 (⟨X.ki, X.ep, Y.ba, Y.ix, Y.ct, Y.bl, Y.mo⟩ : RH).wide 92 (.int .i64 (X.ba : Int)) q1
    have e2 : (⟨X.ki, X.ep, Y.ba, Y.ix, Y.ct, Y.bl, Y.mo⟩ : RH).wide.setIfInBounds 2 (.int .i64 (X.ba : Int)) = (⟨X.ki, X.ep, X.ba, Y.ix, Y.ct, Y.bl, Y.mo⟩ : RH).wide := rfl
    rw [e2] at q2
    have q3 := heap_setCell_same (((w.setCell ⟨p, 0, none⟩ (.int .i64 (X.ki : Int))).setCell ⟨p, 1, none⟩ (.int .i64 (X.ep : Int))).setCell ⟨p, 2, none⟩ (.int .i64 (X.ba : Int))) p 3 (⟨X.ki, X.ep, X.ba, Y.ix, Y.ct, Y.bl, Y.mo⟩ : RH).wide 92 (.int .i64 (X.ix : Int)) q2
    have e3 : (⟨X.ki, X.ep, X.ba, Y.ix, Y.ct, Y.bl, Y.mo⟩ : RH).wide.setIfInBounds 3 (.int .i64 (X.ix : Int)) = (⟨X.ki, X.ep, X.ba, X.ix, Y.ct, Y.bl, Y.mo⟩ : RH).wide := rfl
    rw [e3] at q3
    have q4 := heap_setCell_same ((((w.setCell ⟨p, 0, none⟩ (.int .i64 (X.ki : Int))).setCell ⟨p, 1, none⟩ (.int .i64 (X.ep : Int))).setCell ⟨p, 2, none⟩ (.int .i64 (X.ba : Int))).setCell ⟨p, 3, none⟩ (.int .i64 (X.ix : Int))) p 4 (⟨X.ki, X.ep, X.ba, X.ix, Y.ct, Y.bl, Y.mo⟩ : RH).wide 92 (.int .i64 (X.ct : Int)) q3
    have e4 : (⟨X.ki, X.ep, X.ba, X.ix, Y.ct, Y.bl, Y.mo⟩ : RH).wide.setIfInBounds 4 (.int .i64 (X.ct : Int)) = (⟨X.ki, X.ep, X.ba, X.ix, X.ct, Y.bl, Y.mo⟩ : RH).wide := rfl
    rw [e4] at q4
    have q5 := heap_setCell_same (((((w.setCell ⟨p, 0, none⟩ (.int .i64 (X.ki : Int))).setCell ⟨p, 1, none⟩ (.int .i64 (X.ep : Int))).setCell ⟨p, 2, none⟩ (.int .i64 (X.ba : Int))).setCell ⟨p, 3, none⟩ (.int .i64 (X.ix : Int))).setCell ⟨p, 4, none⟩ (.int .i64 (X.ct : Int))) p 5 (⟨X.ki, X.ep, X.ba, X.ix, X.ct, Y.bl, Y.mo⟩ : RH).wide 92 (.int .i64 (X.bl : Int)) q4
    have e5 : (⟨X.ki, X.ep, X.ba, X.ix, X.ct, Y.bl, Y.mo⟩ : RH).wide.setIfInBounds 5 (.int .i64 (X.bl : Int)) = (⟨X.ki, X.ep, X.ba, X.ix, X.ct, X.bl, Y.mo⟩ : RH).wide := rfl
    rw [e5] at q5
    have q6 := heap_setCell_same ((((((w.setCell ⟨p, 0, none⟩ (.int .i64 (X.ki : Int))).setCell ⟨p, 1, none⟩ (.int .i64 (X.ep : Int))).setCell ⟨p, 2, none⟩ (.int .i64 (X.ba : Int))).setCell ⟨p, 3, none⟩ (.int .i64 (X.ix : Int))).setCell ⟨p, 4, none⟩ (.int .i64 (X.ct : Int))).setCell ⟨p, 5, none⟩ (.int .i64 (X.bl : Int))) p 6 (⟨X.ki, X.ep, X.ba, X.ix, X.ct, X.bl, Y.mo⟩ : RH).wide 92 (.int .i64 (X.mo : Int)) q5
    have e6 : (⟨X.ki, X.ep, X.ba, X.ix, X.ct, X.bl, Y.mo⟩ : RH).wide.setIfInBounds 6 (.int .i64 (X.mo : Int)) = (⟨X.ki, X.ep, X.ba, X.ix, X.ct, X.bl, X.mo⟩ : RH).wide := rfl
    rw [e6] at q6
    exact q6
  · rw [Below.heap_setCell _ _ _ _ (show k ≠ (⟨p, 6, none⟩ : Addr).block from hk), Below.heap_setCell _ _ _ _ (show k ≠ (⟨p, 5, none⟩ : Addr).block from hk), Below.heap_setCell _ _ _ _ (show k ≠ (⟨p, 4, none⟩ : Addr).block from hk), Below.heap_setCell _ _ _ _ (show k ≠ (⟨p, 3, none⟩ : Addr).block from hk), Below.heap_setCell _ _ _ _ (show k ≠ (⟨p, 2, none⟩ : Addr).block from hk), Below.heap_setCell _ _ _ _ (show k ≠ (⟨p, 1, none⟩ : Addr).block from hk), Below.heap_setCell _ _ _ _ (show k ≠ (⟨p, 0, none⟩ : Addr).block from hk)]

end Go.Proofs.Ytbfmpcomjmcfjaa
