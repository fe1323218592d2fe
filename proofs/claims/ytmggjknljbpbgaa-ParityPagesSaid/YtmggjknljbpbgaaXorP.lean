/- Parts together, byte by byte: plain; parts in memory. -/
import Derived.Test.YtmggjknljbpbgaaOwnB
import Derived.Deep.LoopGhost
namespace Go.Proofs.Ytmggjknljbpbgaa
open Go.RowKit

/-- One part. -/
structure PS where
  a : Option Addr
  n : Nat
  c : Nat
  l : List Nat
def PartOk (W : World) (p : PS) : Prop := Row W p.a p.n p.l ∧ p.n ≤ p.c ∧ p.c ≤ maxLen ∧ (p.a = none → p.c = 0)
/-- A slice of parts. -/
def PartsAt (W : World) (a : Option Addr) (n : Nat) (P : Nat → PS) : Prop :=
  (0 < n → ∃ b off, a = some ⟨b, off, none⟩ ∧ ∀ i, i < n → W.cell? ⟨b, off + i, none⟩ = some (.slice (P i).a (P i).n (P i).c)) ∧ ∀ i, i < n → PartOk W (P i)
theorem PartOk.keep {W W' : World} {p : PS} {B : Nat} (h : PartOk W p) (hb : Below B W W') (hB : W.heap.size ≤ B) : PartOk W' p := ⟨row_keep h.1 hb hB, h.2⟩
theorem PartsAt.keep {W W' : World} {a : Option Addr} {n : Nat} {P : Nat → PS} {B : Nat} (h : PartsAt W a n P) (hb : Below B W W') (hB : W.heap.size ≤ B) : PartsAt W' a n P := by
  obtain ⟨h1, h2⟩ := h
  refine ⟨fun h0 => ?_, fun i hi => (h2 i hi).keep hb hB⟩
  obtain ⟨b, off, e, hc⟩ := h1 h0
  refine ⟨b, off, e, fun i hi => ?_⟩
  have hlt := World.block_lt_of_cell? W _ (hc i hi)
  exact (hb.cell (p := ⟨b, off + i, none⟩) (Nat.lt_of_lt_of_le hlt hB)).trans (hc i hi)
theorem PartsAt.cell {W : World} {a : Option Addr} {n : Nat} {P : Nat → PS} (h : PartsAt W a n P) {k : Nat} (hk : k < n) : ∃ b off, a = some ⟨b, off, none⟩ ∧ W.cell? ⟨b, off + k, none⟩ = some (.slice (P k).a (P k).n (P k).c) := by
  obtain ⟨b, off, e, hc⟩ := h.1 (by omega)
  exact ⟨b, off, e, hc k hk⟩

/-- How long the longest of the first k is. -/
def longest (B : Nat → List Nat) : Nat → Nat
  | 0 => 0
  | k + 1 => if longest B k < (B k).length then (B k).length else longest B k
/-- Byte j of the first k together. -/
def xorAt (B : Nat → List Nat) (j : Nat) : Nat → Nat
  | 0 => 0
  | k + 1 => xorAt B j k ^^^ (B k).getD j 0
/-- So many bytes of the first k together. -/
def xorTo (L : Nat) (B : Nat → List Nat) (k : Nat) : List Nat := (List.range L).map fun j => xorAt B j k
def xorB (B : Nat → List Nat) (n : Nat) : List Nat := xorTo (longest B n) B n
theorem xorTo_len (L : Nat) (B : Nat → List Nat) (k : Nat) : (xorTo L B k).length = L := by simp [xorTo]
theorem xorB_len (B : Nat → List Nat) (n : Nat) : (xorB B n).length = longest B n := xorTo_len _ _ _
theorem longest_ge (B : Nat → List Nat) (n i : Nat) (hi : i < n) : (B i).length ≤ longest B n := by
  induction n with
  | zero => omega
  | succ n ih =>
    rw [longest]
    by_cases h : i = n
    · subst h; split <;> omega
    · have := ih (by omega)
      split <;> omega
theorem longest_le (B : Nat → List Nat) (n m : Nat) (h : ∀ i, i < n → (B i).length ≤ m) : longest B n ≤ m := by
  induction n with
  | zero => exact Nat.zero_le _
  | succ n ih =>
    have h1 := ih fun i hi => h i (by omega)
    have h2 := h n (by omega)
    rw [longest]
    split <;> omega
theorem xorAt_lt {B : Nat → List Nat} {n : Nat} (h : ∀ i, i < n → ∀ x ∈ B i, x < 256) (j k : Nat) (hk : k ≤ n) : xorAt B j k < 256 := by
  induction k with
  | zero => exact (by decide : 0 < 256)
  | succ k ih =>
    rw [xorAt]
    exact Nat.xor_lt_two_pow (n := 8) (ih (by omega)) (getD_lt (h k (by omega)) j)
theorem xorTo_lt {B : Nat → List Nat} {n : Nat} (h : ∀ i, i < n → ∀ x ∈ B i, x < 256) (L k : Nat) (hk : k ≤ n) : ∀ x ∈ xorTo L B k, x < 256 := by
  intro x hx
  simp only [xorTo, List.mem_map, List.mem_range] at hx
  obtain ⟨j, _, rfl⟩ := hx
  exact xorAt_lt h j k hk
theorem xorTo_zero (L : Nat) (B : Nat → List Nat) : xorTo L B 0 = List.replicate L 0 := by
  apply List.ext_getElem
  · simp [xorTo]
  · intro i h1 h2
    simp [xorTo, xorAt]
/-- In part k: the first j bytes have it already. -/
def xorMid (L : Nat) (B : Nat → List Nat) (k j : Nat) : List Nat := (List.range L).map fun t => if t < j then xorAt B t (k + 1) else xorAt B t k
theorem xorMid_len (L : Nat) (B : Nat → List Nat) (k j : Nat) : (xorMid L B k j).length = L := by simp [xorMid]
theorem xorMid_zero (L : Nat) (B : Nat → List Nat) (k : Nat) : xorMid L B k 0 = xorTo L B k := by simp [xorMid, xorTo]
theorem xorMid_end (L : Nat) (B : Nat → List Nat) (k : Nat) : xorMid L B k (B k).length = xorTo L B (k + 1) := by
  unfold xorMid xorTo
  apply List.map_congr_left
  intro t _
  by_cases h : t < (B k).length
  · rw [if_pos h]
  · rw [if_neg h, xorAt]
    simp [List.getD, List.getElem?_eq_none (Nat.le_of_not_lt h)]
theorem xorMid_at {L : Nat} (B : Nat → List Nat) (k j : Nat) (hj : j < L) : (xorMid L B k j).getD j 0 = xorAt B j k := by
  simp [xorMid, List.getD, hj]
theorem xorMid_set {L : Nat} (B : Nat → List Nat) (k j : Nat) : (xorMid L B k j).set j (xorAt B j k ^^^ (B k).getD j 0) = xorMid L B k (j + 1) := by
  apply List.ext_getElem
  · simp [xorMid]
  · intro i h1 h2
    have hi : i < L := by simpa [xorMid] using h2
    rw [List.getElem_set]
    by_cases h : j = i
    · subst h
      rw [if_pos rfl]
      simp [xorMid, xorAt]
    · rw [if_neg h]
      simp only [xorMid, List.getElem_map, List.getElem_range]
      by_cases h3 : i < j
      · rw [if_pos h3, if_pos (by omega)]
      · rw [if_neg h3, if_neg (by omega)]
theorem xorMid_lt {B : Nat → List Nat} {n : Nat} (h : ∀ i, i < n → ∀ x ∈ B i, x < 256) (L k j : Nat) (hk : k < n) : ∀ x ∈ xorMid L B k j, x < 256 := by
  intro x hx
  simp only [xorMid, List.mem_map, List.mem_range] at hx
  obtain ⟨t, _, rfl⟩ := hx
  split
  · exact xorAt_lt h t (k + 1) (by omega)
  · exact xorAt_lt h t k (by omega)

end Go.Proofs.Ytmggjknljbpbgaa
