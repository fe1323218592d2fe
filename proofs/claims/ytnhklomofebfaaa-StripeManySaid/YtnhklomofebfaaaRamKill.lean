/- A member in memory dies. -/
import Derived.Test.YtnhklomofebfaaaRamNew
namespace Go.Proofs.Ytnhklomofebfaaa
open Go.RowKit Go.Deep

def RS.kill (s : RS) (m : Nat) : RS := { s with gone := fun x => if x = m then 1 else s.gone x }
theorem kill_goneV (s : RS) (m : Nat) : (s.kill m).goneV = fun j => if j = m then some (.int .i64 1) else s.goneV j := by
  funext j
  unfold RS.goneV RS.kill
  by_cases h : j = m <;> simp [h]
theorem ram_kill {B : Nat} {s : RS} {w : World} (h : Ram B s w) (w2 : World) (m : Nat) (hm : MapF ok1 kv1 s.gb (fun j => if j = m then some (.int .i64 1) else s.goneV j) w2) (grow : w.grownBy w2 (some s.gb)) :
    Ram B (s.kill m) w2 ∧ RStep s w (s.kill m) w2 := by
  have hblk : ∀ j, j < w.heap.size → j ≠ s.gb → w2.heap[j]? = w.heap[j]? := fun j hj hn => grow.block j hj (fun e => hn (Option.some.inj e))
  refine ⟨⟨(hblk _ h.rlt h.sep.2.1).trans h.box, h.low, h.pages.same (hblk _ h.pages.lt h.sep.2.2.1), by rw [kill_goneV]; exact hm, fun j q hj hF => ?_, ownsRow_at h.ordF fun j hj => hblk j (h.ordF.lt j hj).2 (fun e => h.sep.2.2.2.2.2 ((show s.ord.ownBlock = some j from hj).trans (congrArg some e))), h.sep, h.geo⟩, grow.os, grow.tape, grow.output, grow.size, fun j hj hn => ⟨hn, hblk j hj (fun e => hn (Or.inr (Or.inr (Or.inl e))))⟩, rfl, rfl, rfl, rfl, rfl, rfl, rfl, rfl⟩
  obtain ⟨q1, q2, q3, q4⟩ := h.parts j q hj hF
  exact ⟨q1.at_ fun h0 x hx => hblk _ (q1.lt h0 x hx) (fun e => q4 x hx (Or.inr (Or.inr (Or.inl e)))), q2, q3, q4⟩
theorem ram_die {B : Nat} {s : RS} {w : World} (h : Ram B s w) (D : Nat) (hD : D ≤ 100000) :
    ∃ w7, (Instr.mapUpdate 50 (.map (some s.gb)) (.int .i64 (D : Int)) (.int .i64 1)).run Try.prog w = .ok () w7 ∧ Ram B (s.kill D) w7 ∧ RStep s w (s.kill D) w7 := by
  obtain ⟨w7, h1, h2, h3, _⟩ := h.goneF.update keyF1 Try.underlying50 (x := D) hD (.int .i64 1)
  obtain ⟨k1, k2⟩ := ram_kill h w7 D h2 h3
  exact ⟨w7, h1, k1, k2⟩
end Go.Proofs.Ytnhklomofebfaaa
