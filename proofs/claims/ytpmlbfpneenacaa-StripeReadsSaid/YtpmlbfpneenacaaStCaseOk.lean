/- A case of layer 10's statements, as it comes in. -/
import Derived.Test.YtpmlbfpneenacaaStKept
namespace Go.Proofs.Ytpmlbfpneenacaa
open Go.RowKit Go.Deep

structure CaseOk (w : World) (ha : Option Addr) (hn : Nat) (fa : Option Addr) (fn : Nat) (ba : Option Addr) (bn bc : Nat) (HL : List RH) (FL BL : List Nat) : Prop where
  heads : CellsH w ha HL
  hlen : hn = HL.length
  hmax : hn ≤ maxLen
  fit : ∀ h ∈ HL, h.Fits
  first : Row w fa fn FL
  fmax : fn ≤ maxLen
  bytes : Row w ba bn BL
  bnil : ba = none → bc = 0
theorem par_nat (n seg row : Nat) (hn : 0 < n) : ∃ p : Nat, ((p : Nat) : Int) = ParOf (n : Nat) (6 : Nat) (seg : Nat) (row : Nat) ∧ p < n := by
  unfold ParOf
  have h1 : 0 ≤ ((seg : Int) * (6 : Nat) + (row : Int)) % (n : Int) := Int.emod_nonneg _ (by omega)
  have h2 : ((seg : Int) * (6 : Nat) + (row : Int)) % (n : Int) < (n : Int) := Int.emod_lt_of_pos _ (by omega)
  exact ⟨(((seg : Int) * (6 : Nat) + (row : Int)) % (n : Int)).toNat, by omega, by omega⟩
theorem far_mono {B C : Nat} {D : PS} (h : B ≤ C) (hf : Far C D) : Far B D := fun x hx => Nat.le_trans h (hf x hx)
theorem far7 {W : World} {b k o : Nat} {v u0 u1 u2 u3 u4 u5 u6 : Value} (h : W.cell? ⟨k, o, none⟩ = some v) (hne : k ≠ b) : (((((((W.setCell ⟨b, 0, none⟩ u0).setCell ⟨b, 1, none⟩ u1).setCell ⟨b, 2, none⟩ u2).setCell ⟨b, 3, none⟩ u3).setCell ⟨b, 4, none⟩ u4).setCell ⟨b, 5, none⟩ u5).setCell ⟨b, 6, none⟩ u6).cell? ⟨k, o, none⟩ = some v := by
  refine (World.cell?_of_block (w := W) (a := ⟨k, o, none⟩) ?_).trans h
  repeat rw [heap_setCell_other _ _ k _ hne]
theorem bel_seven {w w1 : World} (hb : Below w.heap.size w w1) (b : Nat) (h : w.heap.size ≤ b) (v0 v1 v2 v3 v4 v5 v6 : Value) :
    Below w.heap.size w (((((((w1.setCell ⟨b, 0, none⟩ v0).setCell ⟨b, 1, none⟩ v1).setCell ⟨b, 2, none⟩ v2).setCell ⟨b, 3, none⟩ v3).setCell ⟨b, 4, none⟩ v4).setCell ⟨b, 5, none⟩ v5).setCell ⟨b, 6, none⟩ v6) :=
  ((((((hb.setCell (p := ⟨b, 0, none⟩) h _).setCell (p := ⟨b, 1, none⟩) h _).setCell (p := ⟨b, 2, none⟩) h _).setCell (p := ⟨b, 3, none⟩) h _).setCell (p := ⟨b, 4, none⟩) h _).setCell (p := ⟨b, 5, none⟩) h _).setCell (p := ⟨b, 6, none⟩) h _
theorem memC_or (n : Nat) (x : Int) (h : 0 < n) : memC n x = -1 ∨ ∃ D : Nat, D < n ∧ memC n x = (D : Int) := by
  have hb := memC_bd n x h
  by_cases e : memC n x = -1
  · exact .inl e
  · exact .inr ⟨(memC n x).toNat, by omega, by omega⟩
/-- A page of a member in memory is another one. -/
theorem page_put_same {s : RS} {k : Nat × Nat × Nat} {q : PS} : (s.put k q).page k = q.l := by
  refine row_page_some ?_
  show (if k = k then some q else s.F k) = some q
  rw [if_pos rfl]
theorem page_put_other {s : RS} {k j : Nat × Nat × Nat} {q : PS} (h : j ≠ k) : (s.put k q).page j = s.page j := by
  have e : (s.put k q).F j = s.F j := by show (if j = k then some q else s.F j) = s.F j; rw [if_neg h]
  unfold RS.page
  rw [e]
  rfl
end Go.Proofs.Ytpmlbfpneenacaa
