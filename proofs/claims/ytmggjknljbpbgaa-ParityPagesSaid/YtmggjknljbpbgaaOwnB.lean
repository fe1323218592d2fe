/- Bytes of the call's own at a known place (as in Top). -/
import Derived.Test.YtmggjknljbpbgaaRefBytes
namespace Go.Proofs.Ytmggjknljbpbgaa
open Go.RowKit

theorem set_lt (l : List Nat) (j x : Nat) (h : ∀ y ∈ l, y < 256) (hx : x < 256) : ∀ y ∈ l.set j x, y < 256 := by
  intro y hy
  rcases List.mem_or_eq_of_mem_set hy with hy | rfl
  · exact h y hy
  · exact hx
/-- Bytes of the call's own at a known place. -/
def OwnB (B : Nat) (w : World) (g n cap : Nat) (l : List Nat) : Prop := Own B w (.slice (some ⟨g, 0, none⟩) n cap) l ∧ l.length = n
theorem ownB_of {B : Nat} {w : World} {sv : Value} {l : List Nat} (h : Own B w sv l) (h0 : 0 < l.length) : ∃ g cap, sv = .slice (some ⟨g, 0, none⟩) l.length cap ∧ B ≤ g ∧ g < w.heap.size ∧ OwnB B w g l.length cap l ∧ l.length ≤ maxLen := by
  have hlt := own_base h
  have h' := h
  rcases h.1.2 with ⟨_, h2⟩ | ⟨g, cap, cur, rfl, hb, _, hc1, hc2, _⟩
  · omega
  · have := hlt g rfl
    exact ⟨g, cap, rfl, hb, this.2, ⟨h', rfl⟩, Nat.le_trans hc1 hc2⟩
theorem ownB_cell {B : Nat} {w : World} {g n cap : Nat} {l : List Nat} (h : OwnB B w g n cap l) (j : Nat) (hj : j < n) : w.cell? ⟨g, j, none⟩ = some (.int .u8 ((l.getD j 0 : Nat) : Int)) := by
  have hl := h.2
  obtain ⟨h1, _⟩ := h
  have h2 := h1.1
  rw [hl] at h2
  rw [h2.cellAt j (by omega), List.getElem?_map, List.getElem?_eq_getElem (by omega), getD_in _ _ (by omega)]
  rfl
theorem ownB_frozen {B : Nat} {w : World} {g n cap : Nat} {l : List Nat} (h : OwnB B w g n cap l) (j : Nat) : w.frozen? ⟨g, j, none⟩ = false := by
  have h2 := h.1.1
  rw [h.2] at h2
  exact h2.frozenAt j
theorem ownB_set {B : Nat} {w : World} {g n cap : Nat} {l : List Nat} (h : OwnB B w g n cap l) (j y : Nat) (hy : y < 256) : OwnB B (w.setCell ⟨g, j, none⟩ (.int .u8 (y : Int))) g n cap (l.set j y) := by
  have h2 := h.1.1
  rw [h.2] at h2
  refine ⟨⟨?_, set_lt _ _ _ h.1.2 hy⟩, by rw [List.length_set]; exact h.2⟩
  rw [List.map_set, List.length_set, h.2]
  exact (h2.stored j (u8v y)).1
theorem row_ownB {B : Nat} {w : World} {g n cap : Nat} {l : List Nat} (h : OwnB B w g n cap l) : Row w (some ⟨g, 0, none⟩) n l :=
  ⟨h.2, h.1.2, fun _ => ⟨g, 0, rfl, fun i hi => by rw [Nat.zero_add]; exact ownB_cell h i hi⟩⟩

end Go.Proofs.Ytmggjknljbpbgaa
