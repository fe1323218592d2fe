/- Slices of slices of bytes that come in. -/
import Derived.Test.YtnkkeffjnamcgaaFrame
import Derived.Deep.Matrix
namespace Go.Proofs.Ytnkkeffjnamcgaa
open Go.ChangeShapes Go.WideShapes Go.ChangeAt Go.RowKit Go.Deep

/-- A slice of slices of bytes that came in. -/
def InParts (W : World) (a : Option Addr) (n cap : Nat) (A : Nat → Option Addr) (L C : Nat → Nat) (B : Nat → List Nat) : Prop :=
  n ≤ maxLen ∧ (a = none → cap = 0) ∧ (0 < n → ∃ b off, a = some ⟨b, off, none⟩ ∧ ∀ i, i < n → W.cell? ⟨b, off + i, none⟩ = some (.slice (A i) (L i) (C i))) ∧ ∀ i, i < n → InB W (A i) (L i) (C i) (B i)
section
variable {H : Type} {enc : TypeId × Value → H} {W : World} {v : Value} {d : DataW H} {p : List MemPlace} {base : Nat}
set_option maxRecDepth 100000 in
theorem parts_in (hv : Value.okWide Try.prog W .any base 23 v) (h : DataW.Trod enc Try.prog W 0 (fun _ => true) true 23 v d p) :
    ∃ a n cap A L C B, v = .slice a n cap ∧ InParts W a n cap A L C B := by
  obtain ⟨a, n, cap, rfl⟩ := okWide_slice Try.underlying23 hv
  obtain ⟨fuel, hf⟩ := h
  rcases open_int_rows Try.underlying23 Try.underlying37 Try.underlying5 (by kernel_rfl) (by kernel_rfl) hf with ⟨hcs, _⟩ | ⟨a, len', cap', A, L, C, Z, hcs, _, hl, hm, _, hrows⟩
  · simp [Value.cells] at hcs
    obtain ⟨rfl, rfl, rfl⟩ := hcs
    exact ⟨_, _, _, fun _ => none, fun _ => 0, fun _ => 0, fun _ => [], rfl, by unfold maxLen; omega, fun _ => rfl, fun h => by omega, fun i hi => by omega⟩
  · simp [Value.cells] at hcs
    obtain ⟨rfl, rfl, rfl⟩ := hcs
    refine ⟨_, _, _, A, L, C, fun r => ((Z r).take (L r)).map Int.toNat, rfl, by omega, fun h => (by cases h), fun h0 => ?_, fun i hi => ?_⟩
    · obtain ⟨b, off, spot⟩ := a
      have hspot : spot = none := by simpa [Addr.add] using World.cell?_spot (hrows 0 (by omega)).1
      subst hspot
      refine ⟨b, off, rfl, fun i hi => ?_⟩
      rw [← (hrows i (by omega)).1]
      congr 1
      unfold Addr.add
      split
      · rename_i h; subst h; simp
      · rfl
    · obtain ⟨_, h2, h3, h4, h5, h6, h7⟩ := hrows i (by omega)
      refine ⟨?_, h2, h3, h6⟩
      cases hA : A i with
      | none =>
        have hC := h6 hA
        exact ⟨by simp; omega, fun y hy => (by
          have hz : (Z i) = [] := List.eq_nil_of_length_eq_zero (by omega)
          simp [hz] at hy), fun h => by omega⟩
      | some x => exact row_of h2 h4 (fun j hj => (h7 x hA).2 j (by omega)) h5
end

end Go.Proofs.Ytnkkeffjnamcgaa
