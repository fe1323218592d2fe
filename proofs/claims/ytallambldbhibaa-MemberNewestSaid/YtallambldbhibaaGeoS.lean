/- What has been seen: a row of ints of the call's own. -/
import Derived.Test.YtallambldbhibaaGeo
import Derived.Deep.OwnRows
namespace Go.Proofs.Ytallambldbhibaa
open Go.RowKit Go.Deep

theorem info_int : (Try.prog.info? 3).map (fun i => (i.zero, i.size, i.bytes)) = some (some (.int .i64 0), 1, 8) := by kernel_rfl
/-- Which members have been seen, k of them. -/
def seenC (f : Nat → Nat) (k j : Nat) : Value := .int .i64 (if ∃ i, i < k ∧ f i = j then 1 else 0)
theorem seenC_zero (f : Nat → Nat) (j : Nat) : seenC f 0 j = .int .i64 0 := by unfold seenC; rw [if_neg (by rintro ⟨i, hi, _⟩; omega)]
theorem seenC_new {f : Nat → Nat} {k : Nat} (h : ∀ i, i < k → f i ≠ f k) : seenC f k (f k) = .int .i64 0 := by unfold seenC; rw [if_neg (by rintro ⟨i, hi, e⟩; exact h i hi e)]
theorem seenC_succ (f : Nat → Nat) (k j : Nat) : (if j = f k then Value.int .i64 1 else seenC f k j) = seenC f (k + 1) j := by
  unfold seenC
  by_cases h : j = f k
  · rw [if_pos h, if_pos ⟨k, by omega, h.symm⟩]
  · rw [if_neg h]
    by_cases h2 : ∃ i, i < k ∧ f i = j
    · obtain ⟨i, hi, e⟩ := h2
      rw [if_pos ⟨i, hi, e⟩, if_pos ⟨i, by omega, e⟩]
    · rw [if_neg h2, if_neg]
      rintro ⟨i, hi, e⟩
      rcases Nat.lt_or_ge i k with h3 | h3
      · exact h2 ⟨i, h3, e⟩
      · obtain rfl : i = k := by omega
        exact h e.symm
theorem cell_other {x : World} {B s o k : Nat} {v u : Value} (h : x.cell? ⟨B, k, none⟩ = some u) (hne : B ≠ s) : (x.setCell ⟨s, o, none⟩ v).cell? ⟨B, k, none⟩ = some u := by
  have e : (x.setCell ⟨s, o, none⟩ v).heap[B]? = x.heap[B]? := blk_setCell_other _ _ _ _ hne
  rw [← h]; simp only [World.cell?, e]
theorem GS.set {W x : World} {B s : Nat} {a b c d : Int} (h : GS W B a b c d x) (hne : B ≠ s) (hs : W.heap.size ≤ s) (o : Nat) (v : Value) : GS W B a b c d (x.setCell ⟨s, o, none⟩ v) := by
  obtain ⟨h0, h1, h2, h3, h4⟩ := h
  exact ⟨cell_other h0 hne, cell_other h1 hne, cell_other h2 hne, cell_other h3 hne, h4.setCell (p := ⟨s, o, none⟩) hs _⟩
theorem seen_set {x : World} {s n : Nat} {f : Nat → Nat} {k m : Nat} (h : x.rowIs s 3 n (seenC f k)) (e : ∀ j, (if j = m then Value.int .i64 1 else seenC f k j) = seenC f (k + 1) j) : (x.setCell ⟨s, m, none⟩ (.int .i64 1)).rowIs s 3 n (seenC f (k + 1)) :=
  (h.set m (.int .i64 1)).congr fun j _ => e j

end Go.Proofs.Ytallambldbhibaa
