/- names.brackets. -/
import Derived.Test.YtdpkinppkhnjkaaDoorNLetter
import Derived.Maps.AppendAt
import Derived.Laws.AppendOwnNone
namespace Go.Proofs.YtdpkinppkhnjkaaDoor
open Go.RowKit

def flatS (l : List (Nat × Nat)) : List Value := l.flatMap fun s => [.int .i32 (s.1 : Int), .int .i32 (s.2 : Int)]
theorem flatS_snoc (l : List (Nat × Nat)) (s : Nat × Nat) : flatS (l ++ [s]) = flatS l ++ [.int .i32 (s.1 : Int), .int .i32 (s.2 : Int)] := by simp [flatS]
theorem owns_below {B : Nat} {w w' : World} {e : TypeId} {sz : Nat} {v : Value} {n : Nat} {xs : List Value} (h : w.ownsRow B e sz v n xs) (hb : Below w.heap.size w w') : w'.ownsRow B e sz v n xs := by
  refine ⟨h.1, ?_⟩
  rcases h.2 with h0 | ⟨g, cap, cur, e1, e2, e3, e4⟩
  · exact .inl h0
  · refine .inr ⟨g, cap, cur, e1, e2, ?_, e4⟩
    have hg := h.lt g (by rw [e1]; rfl)
    rw [hb.block g hg.2]; exact e3

theorem owns_shape {B : Nat} {w : World} {e : TypeId} {sz : Nat} {v : Value} {n : Nat} {xs : List Value} (h : w.ownsRow B e sz v n xs) : ∃ a c, v = .slice a n c := by
  rcases h.2 with ⟨h0, h1⟩ | ⟨g, cap, cur, e1, _⟩
  · exact ⟨none, 0, by rw [h0, h1]⟩
  · exact ⟨_, _, e1⟩
theorem heap_alloc_keep {wr w1 : World} {g : Nat} {o : Obj} (h : wr.heap[g]? = some o) (hb : Below wr.heap.size wr w1) (o2 : Obj) : (w1.alloc o2).heap[g]? = some o := by
  have hlt : g < wr.heap.size := by
    rcases Nat.lt_or_ge g wr.heap.size with h0 | h0
    · exact h0
    · rw [Array.getElem?_eq_none h0] at h; cases h
  rw [Below.heap_alloc _ _ _ (Nat.lt_of_lt_of_le hlt hb.size), hb.block g hlt]; exact h
theorem bel_three {w wr : World} (h : Below w.heap.size w wr) (x y z : Value) : Below w.heap.size w (((wr.setCell ⟨w.heap.size, 0, none⟩ x).setCell ⟨w.heap.size, 1, none⟩ y).setCell ⟨w.heap.size, 2, none⟩ z) :=
  ((h.setCell (p := ⟨w.heap.size, 0, none⟩) (Nat.le_refl _) x).setCell (p := ⟨w.heap.size, 1, none⟩) (Nat.le_refl _) y).setCell (p := ⟨w.heap.size, 2, none⟩) (Nat.le_refl _) z
theorem owns_set {B : Nat} {w : World} {e : TypeId} {sz : Nat} {v : Value} {n : Nat} {xs : List Value} (h : w.ownsRow B e sz v n xs) (g off : Nat) (hg : v.ownBlock ≠ some g) (x : Value) : (w.setCell ⟨g, off, none⟩ x).ownsRow B e sz v n xs := by
  refine ⟨h.1, ?_⟩
  rcases h.2 with h0 | ⟨g2, cap, cur, e1, e2, e3, e4⟩
  · exact .inl h0
  · refine .inr ⟨g2, cap, cur, e1, e2, ?_, e4⟩
    rw [Below.heap_setCell w ⟨g, off, none⟩ x g2 (fun e => hg (by rw [e1, e]; rfl))]; exact e3
def lenOf : Value → Nat
  | .slice _ n _ => n
  | _ => 0
theorem cells3 {w : World} {g : Nat} {x y z : Value} {t : TypeId} (h : w.heap[g]? = some (.cells #[x, y, z] t (0, 0))) : w.cell? ⟨g, 0, none⟩ = some x ∧ w.cell? ⟨g, 1, none⟩ = some y ∧ w.cell? ⟨g, 2, none⟩ = some z ∧ w.frozen? ⟨g, 0, none⟩ = false ∧ w.frozen? ⟨g, 1, none⟩ = false ∧ w.frozen? ⟨g, 2, none⟩ = false := by
  refine ⟨?_, ?_, ?_, ?_, ?_, ?_⟩ <;> simp [World.cell?, World.frozen?, h]
theorem sub_nil {a : Option Addr} {c : Nat} : Sub a 0 c [] (.slice a 0 c) [] := fun _ h => ⟨a, c, rfl, h⟩
theorem sub_same {a : Option Addr} {n c : Nat} {ns : List Nat} (hl : ns.length = n) : Sub a n c ns (.slice a n c) ns := fun _ h => ⟨a, c, by rw [hl], by rw [hl]; exact h⟩
theorem two_blocks (w : World) (o1 o2 : Obj) : ((w.alloc o1).alloc o2).heap[w.heap.size]? = some o1 ∧ ((w.alloc o1).alloc o2).heap[w.heap.size + 1]? = some o2 := by
  constructor
  · show ((w.heap.push _).push _)[w.heap.size]? = _
    simp only [Array.getElem?_push, Array.size_push]
    rw [if_neg (by omega), if_pos trivial]
  · show ((w.heap.push _).push _)[w.heap.size + 1]? = _
    simp only [Array.getElem?_push, Array.size_push]
    rw [if_pos trivial]
theorem grown_keep {w w3 : World} {g : Nat} {o : Obj} {row : Option Nat} (h : w.heap[g]? = some o) (hg : w.grownBy w3 row) (hne : row ≠ some g) : w3.heap[g]? = some o := by
  have hlt : g < w.heap.size := by
    rcases Nat.lt_or_ge g w.heap.size with h0 | h0
    · exact h0
    · rw [Array.getElem?_eq_none h0] at h; cases h
  rw [hg.block g hlt (fun e => hne e.symm)]; exact h
end Go.Proofs.YtdpkinppkhnjkaaDoor
