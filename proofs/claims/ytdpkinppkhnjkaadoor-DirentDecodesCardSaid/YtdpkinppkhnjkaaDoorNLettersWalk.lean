/- Slices of numbers that are read; NamesLetters' walk. -/
import Derived.Test.YtdpkinppkhnjkaaDoorNRefLetters
namespace Go.Proofs.YtdpkinppkhnjkaaDoor
open Go.RowKit

/-- A slice of numbers that is read. -/
def RowI (w : World) (a : Option Addr) (n cap : Nat) (xs : List Nat) : Prop :=
  xs.length = n ∧ n ≤ cap ∧ cap ≤ maxLen ∧ (0 < n → ∃ b off, a = some ⟨b, off, none⟩ ∧ ∀ i, i < n → w.cell? ⟨b, off + i, none⟩ = some (intV (xs.getD i 0)))
theorem rowI_below {w w' : World} {a : Option Addr} {n cap : Nat} {xs : List Nat} (h : RowI w a n cap xs) (hb : Below w.heap.size w w') : RowI w' a n cap xs := by
  obtain ⟨h1, h2, h3, h5⟩ := h
  refine ⟨h1, h2, h3, fun h0 => ?_⟩
  obtain ⟨b, off, e, hc⟩ := h5 h0
  exact ⟨b, off, e, fun i hi => nbelow_cell hb (hc i hi)⟩
theorem rowI_of_own {B : Nat} {w : World} {sv : Value} {l : List Nat} (h : IntsOwn B w sv l) : ∃ a c, sv = .slice a l.length c ∧ RowI w a l.length c l := by
  rcases h.2 with ⟨h0, h1⟩ | ⟨g, cap, cur, e1, e2, e3, e4, e5, e6, e7⟩
  · exact ⟨none, 0, by rw [h0, h1], rfl, by omega, by unfold maxLen; omega, fun hp => by omega⟩
  · refine ⟨_, cap, e1, rfl, e4, e5, fun _ => ⟨g, 0, rfl, fun i hi => ?_⟩⟩
    rw [Nat.zero_add, nrow_cell e3 e7 (show i < l.length * 1 by omega), List.getElem?_map, List.getElem?_eq_getElem hi]
    simp [List.getD, hi]
end Go.Proofs.YtdpkinppkhnjkaaDoor
