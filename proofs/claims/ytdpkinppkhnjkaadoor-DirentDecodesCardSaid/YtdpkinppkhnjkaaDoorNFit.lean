/- (names.part).takes, names.fit. -/
import Derived.Test.YtdpkinppkhnjkaaDoorNParse
import Derived.Deep.RegionHeld3
namespace Go.Proofs.YtdpkinppkhnjkaaDoor
open Go.RowKit

theorem flat2_even {α β : Type} (f g : α → β) : ∀ (l : List α) (i : Nat), (l.flatMap fun x => [f x, g x])[i * 2]? = l[i]?.map f
  | [], i => by simp
  | x :: l, 0 => by simp
  | x :: l, i + 1 => by
    rw [List.flatMap_cons, List.getElem?_append_right (by simp; omega)]
    have := flat2_even f g l i
    simp only [List.length_cons, List.length_nil, List.getElem?_cons_succ]
    rw [show (i + 1) * 2 - (0 + 1 + 1) = i * 2 by omega]
    exact this
theorem flat2_odd {α β : Type} (f g : α → β) : ∀ (l : List α) (i : Nat), (l.flatMap fun x => [f x, g x])[i * 2 + 1]? = l[i]?.map g
  | [], i => by simp
  | x :: l, 0 => by simp
  | x :: l, i + 1 => by
    rw [List.flatMap_cons, List.getElem?_append_right (by simp; omega)]
    have := flat2_odd f g l i
    simp only [List.length_cons, List.length_nil, List.getElem?_cons_succ]
    rw [show (i + 1) * 2 + 1 - (0 + 1 + 1) = i * 2 + 1 by omega]
    exact this
theorem flat3 {α β : Type} (f g h : α → β) : ∀ (l : List α) (i : Nat), (l.flatMap fun x => [f x, g x, h x])[i * 3]? = l[i]?.map f ∧ (l.flatMap fun x => [f x, g x, h x])[i * 3 + 1]? = l[i]?.map g ∧ (l.flatMap fun x => [f x, g x, h x])[i * 3 + 2]? = l[i]?.map h
  | [], i => by simp
  | x :: l, 0 => by simp
  | x :: l, i + 1 => by
    have ih := flat3 f g h l i
    rw [List.flatMap_cons, List.getElem?_append_right (by simp; omega), List.getElem?_append_right (by simp; omega), List.getElem?_append_right (by simp; omega)]
    simp only [List.length_cons, List.length_nil, List.getElem?_cons_succ]
    rw [show (i + 1) * 3 - (0 + 1 + 1 + 1) = i * 3 by omega, show (i + 1) * 3 + 1 - (0 + 1 + 1 + 1) = i * 3 + 1 by omega, show (i + 1) * 3 + 2 - (0 + 1 + 1 + 1) = i * 3 + 2 by omega]
    exact ih
theorem nrow_cell {w : World} {g : Nat} {cur : Array Value} {e : TypeId} {xs : List Value} {n k : Nat} (h3 : w.heap[g]? = some (.cells cur e (0, 0))) (h7 : cur.toList.take n = xs) (hk : k < n) : w.cell? ⟨g, k, none⟩ = xs[k]? := by
  have h1 : w.cell? ⟨g, k, none⟩ = cur[k]? := by simp [World.cell?, h3]
  rw [h1, ← h7, List.getElem?_take_of_lt hk, Array.getElem?_toList]
theorem heap_keep {w1 wr : World} {g : Nat} {o : Obj} (h : w1.heap[g]? = some o) (hb : Below w1.heap.size w1 wr) : wr.heap[g]? = some o := by
  have hlt : g < w1.heap.size := by
    rcases Nat.lt_or_ge g w1.heap.size with h0 | h0
    · exact h0
    · rw [Array.getElem?_eq_none h0] at h; cases h
  rw [hb.block g hlt]; exact h
theorem takes_next {l : List (Nat × Nat)} {k c y1 y2 : Nat} (h : ∀ s ∈ l.take k, ¬ (s.1 ≤ c ∧ c ≤ s.2)) (hs : l[k]? = some (y1, y2)) (hn : ¬ (y1 ≤ c ∧ c ≤ y2)) : ∀ s ∈ l.take (k + 1), ¬ (s.1 ≤ c ∧ c ≤ s.2) := by
  intro s hm
  rw [List.take_add_one, List.mem_append] at hm
  rcases hm with hm | hm
  · exact h s hm
  · rw [hs] at hm; simp at hm; subst hm; exact hn
end Go.Proofs.YtdpkinppkhnjkaaDoor
