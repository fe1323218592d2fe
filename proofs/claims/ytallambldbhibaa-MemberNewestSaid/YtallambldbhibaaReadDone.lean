/- cursor.Read's deferred function, where the function comes back. -/
import Derived.Test.YtallambldbhibaaPad
import Derived.Defers
import Derived.Recover
import Derived.Laws.Pointers
namespace Go.Proofs.Ytallambldbhibaa
open Go.RowKit

theorem assert_nil (w : World) : (Instr.typeAssert .nilIface 20 241 true).run Try.prog w = .ok (.tuple #[.agg #[.pointer none], .bool false]) w := by kernel_rfl
theorem neq_nilIface (w : World) : (binOp .neq 20 .nilIface .nilIface).run Try.prog w = .ok (.bool false) w := by kernel_rfl
set_option maxRecDepth 100000 in
set_option maxHeartbeats 300000 in
theorem readDone_idle (s : Nat) (w : World) (h2 : w.cell? ⟨s + 2, 0, none⟩ = some (.pointer (some ⟨s + 1, 0, none⟩))) (h1 : w.cell? ⟨s + 1, 1, none⟩ = some (.bool false)) (hz : w.frozen? ⟨s + 1, 1, none⟩ = false) :
    CallsD Try.prog 145 #[.pointer (some ⟨s + 2, 0, none⟩), .pointer (some ⟨s, 0, none⟩)] .returning w fun e u' w' => e = .returned (.tuple #[]) ∧ u' = .returning ∧ ∃ o, w' = (w.setCell ⟨s + 1, 1, none⟩ (.bool true)).alloc o := by
  refine callsD_of_wpS Try.func145 rfl fun c₀ cs hu => ?_
  apply wpS_seq
  apply wpS_region
  simp [wpOpsS, go_sem, h2, h1, hz, Try.ntmps145, Exit.thenS]
  apply wpS_seq
  apply wpS_region
  simp [wpOpsS, go_sem, recoverD, hu, Exit.thenS]
  apply wpS_seq
  apply wpS_region
  simp [wpOpsS, go_sem, assert_nil, Exit.thenS]
  apply wpS_seq
  apply wpS_region
  simp [wpOpsS, go_sem, Exit.thenS]
  refine wpS_cond (t := false) (by simp [Act.eval, Array.replicate]) ?_
  simp only [Bool.false_eq_true, if_false]
  apply wpS_seq
  apply wpS_region
  simp [wpOpsS, go_sem, neq_nilIface, Exit.thenS]
  refine wpS_cond (t := false) (by simp [Act.eval, Array.replicate]) ?_
  simp only [Bool.false_eq_true, if_false]
  refine wpS_of_wp (wp_skip ?_)
  cases c₀
  simp_all [bodyPostS, results, Try.results145]
  exact ⟨_, rfl⟩

end Go.Proofs.Ytallambldbhibaa
