/- Four numbers that come in as a struct. -/
import Derived.Test.YtallambldbhibaaGeoIn
namespace Go.Proofs.Ytallambldbhibaa
open Go.ChangeShapes Go.WideShapes Go.ChangeAt Go.RowKit

section
variable {H : Type} {enc : TypeId × Value → H} {W : World} {v : Value} {d : DataW H} {p : List MemPlace} {base : Nat}
set_option maxRecDepth 100000 in
theorem twice_in (hv : Value.okWide Try.prog W .any base 140 v) (h : DataW.Trod enc Try.prog W 0 (fun _ => true) true 140 v d p) :
    ∃ a b c d : Int, v = .agg #[.int .i64 a, .int .i64 b, .int .i64 c, .int .i64 d] ∧ ((-9223372036854775808 ≤ a ∧ a ≤ 9223372036854775807) ∧ (-9223372036854775808 ≤ b ∧ b ≤ 9223372036854775807) ∧ (-9223372036854775808 ≤ c ∧ c ≤ 9223372036854775807) ∧ (-9223372036854775808 ≤ d ∧ d ≤ 9223372036854775807)) := by
  obtain ⟨cs, rfl, hsz⟩ := okWide_struct Try.underlying140 hv
  obtain ⟨fuel, hf⟩ := h
  have hc : Try.prog.cellsOf 140 = 4 := by kernel_rfl
  rw [hc] at hsz
  obtain ⟨v0, v1, v2, v3, hl⟩ := four_of (l := cs.toList) (by simpa using hsz)
  obtain ⟨l⟩ := cs
  simp only at hl
  subst hl
  obtain ⟨n, _, hg⟩ := part_in Try.underlying140 hf
  have ki : Try.prog.cellsOf 3 = 1 := by kernel_rfl
  obtain ⟨y0, h0⟩ := hg 0 3 0 rfl
  obtain ⟨y1, h1⟩ := hg 1 3 1 rfl
  obtain ⟨y2, h2⟩ := hg 2 3 2 rfl
  obtain ⟨y3, h3⟩ := hg 3 3 3 rfl
  simp only [Value.cells, ki, List.drop_zero, List.drop_succ_cons, List.take_succ_cons, List.take_zero] at h0 h1 h2 h3
  obtain ⟨x0, e0, _, w0⟩ := DataW.trod_int Try.underlying3 h0
  obtain ⟨x1, e1, _, w1⟩ := DataW.trod_int Try.underlying3 h1
  obtain ⟨x2, e2, _, w2⟩ := DataW.trod_int Try.underlying3 h2
  obtain ⟨x3, e3, _, w3⟩ := DataW.trod_int Try.underlying3 h3
  simp only [List.cons.injEq, and_true] at e0 e1 e2 e3
  subst e0 e1 e2 e3
  exact ⟨x0, x1, x2, x3, rfl, wfz x0 w0, wfz x1 w1, wfz x2 w2, wfz x3 w3⟩
end

end Go.Proofs.Ytallambldbhibaa
