/- A writer beside another row of the call's own. -/
import Derived.Test.YtdpkinppkhnjkaaDoorWriterText
namespace Go.Proofs.YtdpkinppkhnjkaaDoor
open Go.RowKit

/-- The other row lies apart of the writer and of its bytes. -/
def Aside (pw : Nat) (sv ov : Value) : Prop := ∀ k, ov.ownBlock = some k → k ≠ pw ∧ sv.ownBlock ≠ some k
theorem aside_nil (pw : Nat) (sv : Value) : Aside pw sv (.slice none 0 0) := fun k h => by cases h
theorem own_keep {B : Nat} {w w' : World} {ov : Value} {l : List Nat} (h : Own B w ov l) (hb : Below w.heap.size w w') : Own B w' ov l := by
  refine ⟨⟨h.1.1, ?_⟩, h.2⟩
  rcases h.1.2 with h0 | ⟨g, cap, cur, e1, e2, e3, e4⟩
  · exact .inl h0
  · refine .inr ⟨g, cap, cur, e1, e2, ?_, e4⟩
    have hg := own_base h g (by rw [e1]; rfl)
    rw [hb.block g hg.2]; exact e3
/-- The writer has moved: the other row is as it was. -/
theorem own_moved {B : Nat} {w w' : World} {pw : Nat} {sv sv' ov : Value} {l : List Nat} (h : Own B w ov l) (hm : Moved w pw sv sv' w') (hd : Aside pw sv ov) : Own B w' ov l ∧ Aside pw sv' ov := by
  refine ⟨⟨⟨h.1.1, ?_⟩, h.2⟩, ?_⟩
  · rcases h.1.2 with h0 | ⟨g, cap, cur, e1, e2, e3, e4⟩
    · exact .inl h0
    · refine .inr ⟨g, cap, cur, e1, e2, ?_, e4⟩
      have hg := own_base h g (by rw [e1]; rfl)
      have hdg := hd g (by rw [e1]; rfl)
      rw [hm.block g hg.2 hdg.1 (fun e => hdg.2 e.symm)]; exact e3
  · intro k hk
    have hdk := hd k hk
    have hg := own_base h k hk
    refine ⟨hdk.1, fun e => ?_⟩
    rcases hm.where_ with e1 | e1 | ⟨i, e1, e2⟩
    · rw [e1] at e; exact hdk.2 e
    · rw [e1] at e; cases e
    · rw [e1] at e; cases e; omega
theorem rowK_below {K : IntKind} {M : Nat} {w w' : World} {a : Option Addr} {len : Nat} {ns : List Nat} (h : RowK K M w a len ns) (hb : Below w.heap.size w w') : RowK K M w' a len ns := by
  obtain ⟨h1, h2, h3⟩ := h
  refine ⟨h1, h2, fun h0 => ?_⟩
  obtain ⟨b, off, h4, h5⟩ := h3 h0
  refine ⟨b, off, h4, fun i hi => ?_⟩
  rw [hb.cell (p := ⟨b, off + i, none⟩) (World.block_lt_of_cell? w ⟨b, off + i, none⟩ (h5 i hi))]; exact h5 i hi

end Go.Proofs.YtdpkinppkhnjkaaDoor
