/- names.parse. -/
import Derived.Test.YtdpkinppkhnjkaaDoorNRunes
import Derived.Test.YtdpkinppkhnjkaaDoorShelf
namespace Go.Proofs.YtdpkinppkhnjkaaDoor
open Go.RowKit

def flatP (l : List (Nm.Part × Value)) : List Value := l.flatMap fun x => [.bool x.1.any, .bool x.1.not, x.2]
theorem flatP_snoc (l : List (Nm.Part × Value)) (p : Nm.Part) (tv : Value) : flatP (l ++ [(p, tv)]) = flatP l ++ [.bool p.any, .bool p.not, tv] := by simp [flatP]
theorem owns_mono {B B' : Nat} {w : World} {e : TypeId} {sz : Nat} {v : Value} {n : Nat} {xs : List Value} (h : w.ownsRow B e sz v n xs) (hB : B' ≤ B) : w.ownsRow B' e sz v n xs := by
  refine ⟨h.1, ?_⟩
  rcases h.2 with h0 | ⟨g, cap, cur, h1, h2, h3⟩
  · exact .inl h0
  · exact .inr ⟨g, cap, cur, h1, Nat.le_trans hB h2, h3⟩
/-- Two rows of unlike elements don't lie in one block. -/
theorem owns_apart {B B' : Nat} {w : World} {e e' : TypeId} {sz sz' : Nat} {v v' : Value} {n n' : Nat} {xs xs' : List Value} (h : w.ownsRow B e sz v n xs) (h' : w.ownsRow B' e' sz' v' n' xs') (he : e ≠ e') : v.ownBlock = none ∨ v.ownBlock ≠ v'.ownBlock := by
  rcases h.2 with ⟨h0, _⟩ | ⟨g, cap, cur, e1, _, e3, _⟩
  · left; rw [h0]; rfl
  · right
    rcases h'.2 with ⟨h0, _⟩ | ⟨g', cap', cur', f1, _, f3, _⟩
    · rw [h0, e1]; intro h; cases h
    · rw [e1, f1]
      intro h
      have hg : g = g' := Option.some.inj h
      subst hg
      rw [e3] at f3
      simp only [Option.some.injEq, Obj.cells.injEq] at f3
      exact he f3.2.1
theorem owns_grown {B : Nat} {w w' : World} {e : TypeId} {sz : Nat} {v : Value} {n : Nat} {xs : List Value} {row : Option Nat} (h : w.ownsRow B e sz v n xs) (hg : w.grownBy w' row) (hne : v.ownBlock = none ∨ v.ownBlock ≠ row) : w'.ownsRow B e sz v n xs := by
  refine ⟨h.1, ?_⟩
  rcases h.2 with h0 | ⟨g, cap, cur, e1, e2, e3, e4⟩
  · exact .inl h0
  · refine .inr ⟨g, cap, cur, e1, e2, ?_, e4⟩
    have hlt := h.lt g (by rw [e1]; rfl)
    rw [hg.block g hlt.2 (fun e => by rcases hne with h1 | h1 <;> rw [e1] at h1; cases h1; exact h1 e)]; exact e3
theorem news_three (w1 : World) (x y z : Value) (t : TypeId) : ∀ (j : Nat) (u : Value), [x, y, z][j]? = some u → ((w1.alloc (.cells #[x, y, z] t)).alloc (.cells #[x, y, z] t)).cell? ((⟨w1.heap.size + 1, 0, none⟩ : Addr).add j) = some u := by
  intro j u hu
  have h0 := World.cell?_alloc_mark (w1.alloc (.cells #[x, y, z] t)) #[x, y, z] t (0, 0) 0
  have h1 := World.cell?_alloc_mark (w1.alloc (.cells #[x, y, z] t)) #[x, y, z] t (0, 0) 1
  have h2 := World.cell?_alloc_mark (w1.alloc (.cells #[x, y, z] t)) #[x, y, z] t (0, 0) 2
  rw [show (w1.alloc (.cells #[x, y, z] t)).heap.size = w1.heap.size + 1 by simp] at h0 h1 h2
  match j, hu with
  | 0, hu => simp at hu; subst hu; exact h0
  | 1, hu => simp at hu; subst hu; exact h1
  | 2, hu => simp at hu; subst hu; exact h2
def parseOf (s : ByteArray) : Option (List Nm.Part) := if Lib.validD s.data.toList then Nm.parse ((runesOf s).length + 1) (runesOf s) else none
end Go.Proofs.YtdpkinppkhnjkaaDoor
