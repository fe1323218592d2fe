/- gabionlaw03.split, gabionlaw03.same. -/
import Derived.Test.YtdpkinppkhnjkaaDoorNSplit
namespace Go.Proofs.YtdpkinppkhnjkaaDoor
open Go.RowKit

/-- A slice of texts that is read. -/
def RowS (w : World) (a : Option Addr) (n cap : Nat) (xs : List ByteArray) : Prop :=
  xs.length = n ∧ n ≤ cap ∧ cap ≤ maxLen ∧ (a = none → cap = 0) ∧ (0 < n → ∃ b off, a = some ⟨b, off, none⟩ ∧ ∀ i, i < n → w.cell? ⟨b, off + i, none⟩ = some (.string (xs.getD i ByteArray.empty)))
theorem rowS_below {w w' : World} {a : Option Addr} {n cap : Nat} {xs : List ByteArray} (h : RowS w a n cap xs) (hb : Below w.heap.size w w') : RowS w' a n cap xs := by
  obtain ⟨h1, h2, h3, h4, h5⟩ := h
  refine ⟨h1, h2, h3, h4, fun h0 => ?_⟩
  obtain ⟨b, off, e, hc⟩ := h5 h0
  exact ⟨b, off, e, fun i hi => nbelow_cell hb (hc i hi)⟩
theorem rowS_of_own {B : Nat} {w : World} {sv : Value} {l : List ByteArray} (h : StrsOwn B w sv l) : ∃ a c, sv = .slice a l.length c ∧ RowS w a l.length c l := by
  rcases h.2 with ⟨h0, h1⟩ | ⟨g, cap, cur, e1, e2, e3, e4, e5, e6, e7⟩
  · exact ⟨none, 0, by rw [h0, h1], rfl, by omega, by unfold maxLen; omega, fun _ => rfl, fun hp => by omega⟩
  · refine ⟨_, cap, e1, rfl, e4, e5, (fun h => by cases h), fun _ => ⟨g, 0, rfl, fun i hi => ?_⟩⟩
    rw [Nat.zero_add, nrow_cell e3 e7 (show i < l.length * 1 by omega), List.getElem?_map, List.getElem?_eq_getElem hi]
    simp [List.getD, hi]
theorem splitOf_example : splitOf ⟨#[47, 97, 47, 46, 47, 98, 47, 46, 46, 47, 99]⟩ = ([⟨#[97]⟩, ⟨#[99]⟩], 0) := by kernel_rfl
theorem matchOf_example : matchOf ⟨#[42, 46, 91, 97, 45, 99, 93, 63]⟩ ⟨#[120, 46, 98, 122]⟩ = (true, 0) := by kernel_rfl
theorem same_next {xs ys : List ByteArray} {k : Nat} (h : xs.take k = ys.take k) (hx : k < xs.length) (hy : k < ys.length) (he : xs.getD k ByteArray.empty = ys.getD k ByteArray.empty) : xs.take (k + 1) = ys.take (k + 1) := by
  rw [List.take_succ_eq_append_getElem hx, List.take_succ_eq_append_getElem hy, h]
  simp [List.getD, hx, hy] at he
  rw [he]
theorem toList_ne {x y : ByteArray} (h : x ≠ y) : (x.toList == y.toList) = false := by
  rw [beq_eq_false_iff_ne]
  intro e
  rw [ByteArray.toList_eq, ByteArray.toList_eq] at e
  apply h
  cases x; cases y
  congr
  exact Array.toList_inj.1 e
/-- Are two lists of texts the same? -/
def sameOf (xs ys : List ByteArray) : Bool := decide (xs = ys)
end Go.Proofs.YtdpkinppkhnjkaaDoor
