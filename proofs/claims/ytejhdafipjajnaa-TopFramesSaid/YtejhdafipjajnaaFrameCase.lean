/- TopFrames' own input. -/
import Derived.Test.YtejhdafipjajnaaFrameParts
import Derived.Test.YtejhdafipjajnaaTopFramesWalk
import Derived.Deep.Strs
namespace Go.Proofs.Ytejhdafipjajnaa
open Go.ChangeShapes Go.WideShapes Go.ChangeAt Go.RowKit Go.Deep

section
variable {H : Type} {enc : TypeId × Value → H} {W : World} {v : Value} {d : DataW H} {p : List MemPlace} {base : Nat}
theorem trod_struct4 {P : Program} {spare held} {t : TypeId} {f0 f1 f2 f3 : Field} {fuel : Nat} {cs : List Value} {x : DataW H × List MemPlace} (ht : P.underlying t = some (.struct #[f0, f1, f2, f3])) (h : DataW.trod enc P W base spare held fuel t cs = some x) :
    ∃ y0 y1 y2 y3 n, cs.length = P.cellsOf t ∧ DataW.trod enc P W base spare held n f0.type ((cs.drop f0.offset).take (P.cellsOf f0.type)) = some y0 ∧
      DataW.trod enc P W base spare held n f1.type ((cs.drop f1.offset).take (P.cellsOf f1.type)) = some y1 ∧ DataW.trod enc P W base spare held n f2.type ((cs.drop f2.offset).take (P.cellsOf f2.type)) = some y2 ∧ DataW.trod enc P W base spare held n f3.type ((cs.drop f3.offset).take (P.cellsOf f3.type)) = some y3 := by
  obtain ⟨xs, n, _, rfl, hl, hlen, hf⟩ := DataW.trod_struct ht h
  match xs, hlen with
  | [y0, y1, y2, y3], _ => exact ⟨y0, y1, y2, y3, n, hl, by simpa using hf 0 f0 rfl, by simpa using hf 1 f1 rfl, by simpa using hf 2 f2 rfl, by simpa using hf 3 f3 rfl⟩
theorem parts_cells_in {fuel : Nat} {u : Value} {y : DataW H × List MemPlace} (hf : DataW.trod enc Try.prog W 0 (fun _ => true) true fuel 58 [u] = some y) :
    ∃ a n cap A L C B, u = .slice a n cap ∧ InParts W a n cap A L C B ∧ n ≤ cap ∧ cap ≤ maxLen := by
  rcases open_int_rows Try.underlying58 Try.underlying26 Try.underlying5 (by kernel_rfl) (by kernel_rfl) hf with ⟨hcs, _⟩ | ⟨a, len', cap', A, L, C, Z, hcs, _, hl, hm, _, hrows⟩
  · simp at hcs
    subst hcs
    exact ⟨_, _, _, fun _ => none, fun _ => 0, fun _ => 0, fun _ => [], rfl, ⟨by unfold maxLen; omega, fun _ => rfl, fun h => by omega, fun i hi => by omega⟩, Nat.le_refl _, Nat.zero_le _⟩
  · simp at hcs
    subst hcs
    refine ⟨_, _, _, A, L, C, fun r => ((Z r).take (L r)).map Int.toNat, rfl, ⟨by omega, fun h => (by cases h), fun h0 => ?_, fun i hi => ?_⟩, hl, hm⟩
    · obtain ⟨b, off, spot⟩ := a
      have hspot : spot = none := by simpa [Addr.add] using World.cell?_spot (hrows 0 (by omega)).1
      subst hspot
      refine ⟨b, off, rfl, fun i hi => ?_⟩
      rw [← (hrows i (by omega)).1]
      congr 1
      unfold Addr.add
      split
      · rename_i h; subst h; simp
      · rfl
    · obtain ⟨_, h2, h3, h4, h5, h6, h7⟩ := hrows i (by omega)
      refine ⟨?_, h2, h3, h6⟩
      cases hA : A i with
      | none =>
        have hC := h6 hA
        exact ⟨by simp; omega, fun y hy => (by
          have hz : (Z i) = [] := List.eq_nil_of_length_eq_zero (by omega)
          simp [hz] at hy), fun h => by omega⟩
      | some x => exact row_of h2 h4 (fun j hj => (h7 x hA).2 j (by omega)) h5
theorem wfc_i64 (n : Int) (h : (Lit.int .i64 n).wf = true) : -9223372036854775808 ≤ n ∧ n ≤ 9223372036854775807 := by
  have hm : IntKind.i64.min = -9223372036854775808 := by decide
  have hM : IntKind.i64.max = 9223372036854775807 := by decide
  simp [Lit.wf, hm, hM] at h; omega
theorem wfc_u32 {x : Int} (h : (Lit.int .u32 x).wf = true) : ∃ n : Nat, x = (n : Int) ∧ n < 4294967296 := by
  have hm : IntKind.u32.min = 0 := by decide
  have hM : IntKind.u32.max = 4294967295 := by decide
  simp [Lit.wf, hm, hM] at h
  exact ⟨x.toNat, by omega, by omega⟩
theorem four {α : Type} {l : List α} (h : l.length = 4) : ∃ x y z u, l = [x, y, z, u] := by
  match l, h with
  | [x, y, z, u], _ => exact ⟨x, y, z, u, rfl⟩
theorem case_in (hv : Value.okWide Try.prog W .any base 60 v) (h : DataW.Trod enc Try.prog W 0 (fun _ => true) true 60 v d p) :
    ∃ a n c A L C B x y z, v = .agg #[.slice a n c, .int .i64 x, .int .i64 y, .int .u32 ((z : Nat) : Int)] ∧ CaseOk W a n c A L C B x y z := by
  obtain ⟨cs, rfl, hsz⟩ := okWide_struct Try.underlying60 hv
  obtain ⟨fuel, hf⟩ := h
  have hc4 : Try.prog.cellsOf 60 = 4 := by kernel_rfl
  rw [hc4] at hsz
  obtain ⟨v0, v1, v2, v3, hl⟩ := four (l := cs.toList) (by simpa using hsz)
  obtain ⟨l⟩ := cs
  simp only at hl
  subst hl
  obtain ⟨y0, y1, y2, y3, n', _, h0, h1, h2, h3⟩ := trod_struct4 Try.underlying60 hf
  have c58 : Try.prog.cellsOf 58 = 1 := by kernel_rfl
  have c3 : Try.prog.cellsOf 3 = 1 := by kernel_rfl
  have c42 : Try.prog.cellsOf 42 = 1 := by kernel_rfl
  simp only [Value.cells, c58, c3, c42, List.drop_zero, List.drop_succ_cons, List.take_succ_cons, List.take_zero] at h0 h1 h2 h3
  obtain ⟨a, n, c, A, L, C, B, rfl, hin, hn, hc⟩ := parts_cells_in h0
  obtain ⟨x, e1, _, w1⟩ := DataW.trod_int Try.underlying3 h1
  obtain ⟨y, e2, _, w2⟩ := DataW.trod_int Try.underlying3 h2
  obtain ⟨z0, e3, _, w3⟩ := DataW.trod_int Try.underlying42 h3
  obtain ⟨z, rfl, hz⟩ := wfc_u32 w3
  simp only [List.cons.injEq, and_true] at e1 e2 e3
  subst e1 e2 e3
  exact ⟨a, n, c, A, L, C, B, x, y, z, rfl, hin, hn, hc, wfc_i64 x w1, wfc_i64 y w2, hz⟩
end

end Go.Proofs.Ytejhdafipjajnaa
