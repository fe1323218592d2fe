/- Two headers held against each other. -/
import Derived.Test.YtbfmpcomjmcfjaaRHdr
namespace Go.Proofs.Ytbfmpcomjmcfjaa
open Go.RowKit

def eqH (h k : RH) : Bool := h.ki == k.ki && (h.ep == k.ep && (h.ba == k.ba && (h.ix == k.ix && (h.ct == k.ct && (h.bl == k.bl && h.mo == k.mo)))))
theorem eqH_iff (h k : RH) : eqH h k = true ↔ h = k := by
  obtain ⟨a1, a2, a3, a4, a5, a6, a7⟩ := h
  obtain ⟨b1, b2, b3, b4, b5, b6, b7⟩ := k
  simp [eqH]
theorem eqH_self (h : RH) : eqH h h = true := (eqH_iff h h).2 rfl
theorem eql_hdr (h k : RH) (w : World) : (binOp .eql 86 (.agg h.cells) (.agg k.cells)).run Try.prog w = .ok (.bool (eqH h k)) w := by
  have hu8 := Try.underlying5
  have hu32 := Try.underlying83
  have hu16 := Try.underlying84
  have hu := Try.underlying86
  rw [run_eql_struct]
  rw [run_equalIn_agg w 9999 86 h.cells k.cells (by kernel_rfl) (by kernel_rfl)]
  unfold RH.cells
  simp [go_sem, Program.fieldsOf, hu, hu8, hu16, hu32]
  unfold eqH
  by_cases c0 : h.ki = k.ki
  rotate_left
  · have d0 : ¬ (h.ki : Int) = (k.ki : Int) := by omega
    rw [if_neg d0, beq_eq_false_iff_ne.2 c0]
    simp
  rw [if_pos (by rw [c0]), c0, beq_self_eq_true, Bool.true_and]
  by_cases c1 : h.ep = k.ep
  rotate_left
  · have d1 : ¬ (h.ep : Int) = (k.ep : Int) := by omega
    rw [if_neg d1, beq_eq_false_iff_ne.2 c1]
    simp
  rw [if_pos (by rw [c1]), c1, beq_self_eq_true, Bool.true_and]
  by_cases c2 : h.ba = k.ba
  rotate_left
  · have d2 : ¬ (h.ba : Int) = (k.ba : Int) := by omega
    rw [if_neg d2, beq_eq_false_iff_ne.2 c2]
    simp
  rw [if_pos (by rw [c2]), c2, beq_self_eq_true, Bool.true_and]
  by_cases c3 : h.ix = k.ix
  rotate_left
  · have d3 : ¬ (h.ix : Int) = (k.ix : Int) := by omega
    rw [if_neg d3, beq_eq_false_iff_ne.2 c3]
    simp
  rw [if_pos (by rw [c3]), c3, beq_self_eq_true, Bool.true_and]
  by_cases c4 : h.ct = k.ct
  rotate_left
  · have d4 : ¬ (h.ct : Int) = (k.ct : Int) := by omega
    rw [if_neg d4, beq_eq_false_iff_ne.2 c4]
    simp
  rw [if_pos (by rw [c4]), c4, beq_self_eq_true, Bool.true_and]
  by_cases c5 : h.bl = k.bl
  rotate_left
  · have d5 : ¬ (h.bl : Int) = (k.bl : Int) := by omega
    rw [if_neg d5, beq_eq_false_iff_ne.2 c5]
    simp
  rw [if_pos (by rw [c5]), c5, beq_self_eq_true, Bool.true_and]
  by_cases c6 : h.mo = k.mo
  rotate_left
  · have d6 : ¬ (h.mo : Int) = (k.mo : Int) := by omega
    rw [if_neg d6, beq_eq_false_iff_ne.2 c6]
  rw [if_pos (by rw [c6]), c6, beq_self_eq_true]

end Go.Proofs.Ytbfmpcomjmcfjaa
