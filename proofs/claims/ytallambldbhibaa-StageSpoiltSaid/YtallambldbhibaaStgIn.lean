/- stage's cases that come in. -/
import Derived.Test.YtallambldbhibaaGeoIn
namespace Go.Proofs.Ytallambldbhibaa
open Go.ChangeShapes Go.WideShapes Go.ChangeAt Go.RowKit

theorem listN4 {α : Type} {l : List α} (h : l.length = 4) : ∃ a0 a1 a2 a3, l = [a0, a1, a2, a3] := by
  match l, h with
  | [a0, a1, a2, a3], _ => exact ⟨a0, a1, a2, a3, rfl⟩
theorem listN6 {α : Type} {l : List α} (h : l.length = 6) : ∃ a0 a1 a2 a3 a4 a5, l = [a0, a1, a2, a3, a4, a5] := by
  match l, h with
  | [a0, a1, a2, a3, a4, a5], _ => exact ⟨a0, a1, a2, a3, a4, a5, rfl⟩
theorem wfs_u8 {x : Int} (h : (Lit.int .u8 x).wf = true) : ∃ n : Nat, x = (n : Int) ∧ n < 256 := by
  have hm : IntKind.u8.min = 0 := by decide
  have hM : IntKind.u8.max = 255 := by decide
  simp [Lit.wf, hm, hM] at h
  exact ⟨x.toNat, by omega, by omega⟩
section
variable {H : Type} {enc : TypeId × Value → H} {W : World} {v : Value} {d : DataW H} {p : List MemPlace} {base : Nat}
set_option maxRecDepth 100000 in
theorem blocks_in (hv : Value.okWide Try.prog W .any base 108 v) (h : DataW.Trod enc Try.prog W 0 (fun _ => true) true 108 v d p) :
    ∃ (x0 x1 x2 : Int) (c : Nat), v = .agg #[.int .i64 x0, .int .i64 x1, .int .i64 x2, .int .u8 (c : Int)] ∧ c < 256 := by
  obtain ⟨cs, rfl, hsz⟩ := okWide_struct Try.underlying108 hv
  obtain ⟨fuel, hf⟩ := h
  have hc : Try.prog.cellsOf 108 = 4 := by kernel_rfl
  rw [hc] at hsz
  obtain ⟨v0, v1, v2, v3, hl⟩ := listN4 (l := cs.toList) (by simpa using hsz)
  obtain ⟨l⟩ := cs
  simp only at hl
  subst hl
  obtain ⟨n, _, hg⟩ := part_in Try.underlying108 hf
  have ki : Try.prog.cellsOf 3 = 1 := by kernel_rfl
  have k8 : Try.prog.cellsOf 5 = 1 := by kernel_rfl
  obtain ⟨y0, h0⟩ := hg 0 3 0 rfl
  obtain ⟨y1, h1⟩ := hg 1 3 1 rfl
  obtain ⟨y2, h2⟩ := hg 2 3 2 rfl
  obtain ⟨y3, h3⟩ := hg 3 5 3 rfl
  simp only [Value.cells, ki, k8, List.drop_zero, List.drop_succ_cons, List.take_succ_cons, List.take_zero] at h0 h1 h2 h3
  obtain ⟨z0, e0, _, _⟩ := DataW.trod_int Try.underlying3 h0
  obtain ⟨z1, e1, _, _⟩ := DataW.trod_int Try.underlying3 h1
  obtain ⟨z2, e2, _, _⟩ := DataW.trod_int Try.underlying3 h2
  obtain ⟨z3, e3, _, w3⟩ := DataW.trod_int Try.underlying5 h3
  obtain ⟨c, rfl, hcl⟩ := wfs_u8 w3
  simp only [List.cons.injEq, and_true] at e0 e1 e2 e3
  subst e0 e1 e2 e3
  exact ⟨z0, z1, z2, c, rfl, hcl⟩
set_option maxRecDepth 100000 in
theorem plays_in (hv : Value.okWide Try.prog W .any base 95 v) (h : DataW.Trod enc Try.prog W 0 (fun _ => true) true 95 v d p) :
    ∃ (x0 x1 x2 x3 x4 : Int) (c : Nat), v = .agg #[.int .i64 x0, .int .i64 x1, .int .i64 x2, .int .i64 x3, .int .i64 x4, .int .u8 (c : Int)] ∧ c < 256 := by
  obtain ⟨cs, rfl, hsz⟩ := okWide_struct Try.underlying95 hv
  obtain ⟨fuel, hf⟩ := h
  have hc : Try.prog.cellsOf 95 = 6 := by kernel_rfl
  rw [hc] at hsz
  obtain ⟨v0, v1, v2, v3, v4, v5, hl⟩ := listN6 (l := cs.toList) (by simpa using hsz)
  obtain ⟨l⟩ := cs
  simp only at hl
  subst hl
  obtain ⟨n, _, hg⟩ := part_in Try.underlying95 hf
  have ki : Try.prog.cellsOf 3 = 1 := by kernel_rfl
  have k8 : Try.prog.cellsOf 5 = 1 := by kernel_rfl
  obtain ⟨y0, h0⟩ := hg 0 3 0 rfl
  obtain ⟨y1, h1⟩ := hg 1 3 1 rfl
  obtain ⟨y2, h2⟩ := hg 2 3 2 rfl
  obtain ⟨y3, h3⟩ := hg 3 3 3 rfl
  obtain ⟨y4, h4⟩ := hg 4 3 4 rfl
  obtain ⟨y5, h5⟩ := hg 5 5 5 rfl
  simp only [Value.cells, ki, k8, List.drop_zero, List.drop_succ_cons, List.take_succ_cons, List.take_zero] at h0 h1 h2 h3 h4 h5
  obtain ⟨z0, e0, _, _⟩ := DataW.trod_int Try.underlying3 h0
  obtain ⟨z1, e1, _, _⟩ := DataW.trod_int Try.underlying3 h1
  obtain ⟨z2, e2, _, _⟩ := DataW.trod_int Try.underlying3 h2
  obtain ⟨z3, e3, _, _⟩ := DataW.trod_int Try.underlying3 h3
  obtain ⟨z4, e4, _, _⟩ := DataW.trod_int Try.underlying3 h4
  obtain ⟨z5, e5, _, w5⟩ := DataW.trod_int Try.underlying5 h5
  obtain ⟨c, rfl, hcl⟩ := wfs_u8 w5
  simp only [List.cons.injEq, and_true] at e0 e1 e2 e3 e4 e5
  subst e0 e1 e2 e3 e4 e5
  exact ⟨z0, z1, z2, z3, z4, c, rfl, hcl⟩
end
end Go.Proofs.Ytallambldbhibaa
