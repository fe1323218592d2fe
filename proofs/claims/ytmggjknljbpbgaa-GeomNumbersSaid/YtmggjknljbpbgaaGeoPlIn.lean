/- A place that comes in. -/
import Derived.Test.YtmggjknljbpbgaaGeoIn
namespace Go.Proofs.Ytmggjknljbpbgaa
open Go.ChangeShapes Go.WideShapes Go.ChangeAt Go.RowKit

section
variable {H : Type} {enc : TypeId × Value → H} {W : World} {v : Value} {d : DataW H} {p : List MemPlace} {base : Nat}
theorem three_of {α : Type} {l : List α} (h : l.length = 3) : ∃ a b c, l = [a, b, c] := by
  match l, h with
  | [a, b, c], _ => exact ⟨a, b, c, rfl⟩
set_option maxRecDepth 100000 in
theorem place_in (hv : Value.okWide Try.prog W .any base 33 v) (h : DataW.Trod enc Try.prog W 0 (fun _ => true) true 33 v d p) :
    ∃ a b c : Int, v = .agg #[.int .i64 a, .int .i64 b, .int .i64 c] ∧ True := by
  obtain ⟨cs, rfl, hsz⟩ := okWide_struct Try.underlying33 hv
  obtain ⟨fuel, hf⟩ := h
  have hc : Try.prog.cellsOf 33 = 3 := by kernel_rfl
  rw [hc] at hsz
  obtain ⟨v0, v1, v2, hl⟩ := three_of (l := cs.toList) (by simpa using hsz)
  obtain ⟨l⟩ := cs
  simp only at hl
  subst hl
  obtain ⟨n, _, hg⟩ := part_in Try.underlying33 hf
  have ki : Try.prog.cellsOf 3 = 1 := by kernel_rfl
  obtain ⟨y0, h0⟩ := hg 0 3 0 rfl
  obtain ⟨y1, h1⟩ := hg 1 3 1 rfl
  obtain ⟨y2, h2⟩ := hg 2 3 2 rfl
  simp only [Value.cells, ki, List.drop_zero, List.drop_succ_cons, List.take_succ_cons, List.take_zero] at h0 h1 h2
  obtain ⟨x0, e0, _, _⟩ := DataW.trod_int Try.underlying3 h0
  obtain ⟨x1, e1, _, _⟩ := DataW.trod_int Try.underlying3 h1
  obtain ⟨x2, e2, _, _⟩ := DataW.trod_int Try.underlying3 h2
  simp only [List.cons.injEq, and_true] at e0 e1 e2
  subst e0 e1 e2
  exact ⟨x0, x1, x2, rfl, trivial⟩
end

end Go.Proofs.Ytmggjknljbpbgaa
