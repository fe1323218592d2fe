/- The writer's Pad; gabionref01's Pad, Text; gabionref01.IsZero. -/
import Derived.Test.YtdpkinppkhnjkaaDoorWriterText
import Derived.Test.YtdpkinppkhnjkaaDoorRefPart
namespace Go.Proofs.YtdpkinppkhnjkaaDoor
open Go.RowKit

/-- Noughts up to a length. -/
def padTo (bs : List Nat) (n : Int) : List Nat := bs ++ List.replicate (n.toNat - bs.length) 0
theorem padTo_le {bs : List Nat} {n : Int} (h : n ≤ (bs.length : Int)) : padTo bs n = bs := by
  unfold padTo
  rw [show n.toNat - bs.length = 0 by omega]; simp

theorem own_up {B : Nat} {w w' : World} {ov : Value} {l : List Nat} (h : Own B w ov l) (hb : Below w.heap.size w w') : Own B w' ov l := by
  refine ⟨⟨h.1.1, ?_⟩, h.2⟩
  rcases h.1.2 with h0 | ⟨g, cap, cur, e1, e2, e3, e4⟩
  · exact .inl h0
  · refine .inr ⟨g, cap, cur, e1, e2, ?_, e4⟩
    have hg := own_base h g (by rw [e1]; rfl)
    rw [hb.block g hg.2]; exact e3
theorem own_nocap {B : Nat} {w : World} {bs : List Nat} {a : Option Addr} {n c : Nat} (h : Own B w (.slice a n c) bs) : a = none → c = 0 := by
  intro ha
  rcases h.1.2 with ⟨e, _⟩ | ⟨g, cap, cur, e, _⟩
  · simp only [Value.slice.injEq] at e
    exact e.2.2
  · rw [ha] at e
    simp only [Value.slice.injEq] at e
    cases e.1
theorem retOwn_len {w w' : World} {bs : List Nat} {e : Ending} (h : RetOwn w bs e w') : ∃ a c, e = .returned (.slice a bs.length c) ∧ Row w' a bs.length bs ∧ (a = none → c = 0) ∧ Own w.heap.size w' (.slice a bs.length c) bs ∧ Below w.heap.size w w' := by
  obtain ⟨sv, rfl, ho, hb⟩ := h
  obtain ⟨a, c, hsv, hr, _⟩ := row_of_own ho
  subst hsv
  exact ⟨a, c, rfl, hr, own_nocap ho, ho, hb⟩

end Go.Proofs.YtdpkinppkhnjkaaDoor
