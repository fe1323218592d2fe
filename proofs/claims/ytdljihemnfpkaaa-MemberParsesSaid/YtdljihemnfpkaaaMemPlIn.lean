/- MemberPlains' case comes in. -/
import Derived.Test.YtdljihemnfpkaaaFrame
import Derived.Deep.Strs
import Derived.Deep.Slices
namespace Go.Proofs.Ytdljihemnfpkaaa
open Go.ChangeShapes Go.WideShapes Go.ChangeAt Go.RowKit Go.Deep

theorem wfp_u32 {x : Int} (h : (Lit.int .u32 x).wf = true) : ∃ n : Nat, x = (n : Int) ∧ n < 4294967296 := by
  have hm : IntKind.u32.min = 0 := by decide
  have hM : IntKind.u32.max = 4294967295 := by decide
  simp [Lit.wf, hm, hM] at h
  exact ⟨x.toNat, by omega, by omega⟩
theorem listP5 {α : Type} {l : List α} (h : l.length = 5) : ∃ a b c d e, l = [a, b, c, d, e] := by
  match l, h with
  | [a, b, c, d, e], _ => exact ⟨a, b, c, d, e, rfl⟩
section
variable {H : Type} {enc : TypeId × Value → H} {W : World} {v : Value} {d : DataW H} {p : List MemPlace} {base : Nat}
theorem fieldP_in {fs : Array Field} {fuel : Nat} {t : TypeId} {cs : List Value} {x : DataW H × List MemPlace} (ht : Try.prog.underlying t = some (.struct fs)) (h : DataW.trod enc Try.prog W 0 (fun _ => true) true fuel t cs = some x) :
    ∃ n, cs.length = Try.prog.cellsOf t ∧ ∀ (j : Nat) (ty : TypeId) (off : Nat), (fs[j]?).map (fun f => (f.type, f.offset)) = some (ty, off) → ∃ y, DataW.trod enc Try.prog W 0 (fun _ => true) true n ty ((cs.drop off).take (Try.prog.cellsOf ty)) = some y := by
  obtain ⟨xs, n, _, rfl, hl, hlen, hf⟩ := DataW.trod_struct ht h
  refine ⟨n, hl, fun j ty off hj => ?_⟩
  cases hfj : fs[j]? with
  | none => rw [hfj] at hj; cases hj
  | some f =>
    rw [hfj] at hj
    simp only [Option.map_some, Option.some.injEq, Prod.mk.injEq] at hj
    obtain ⟨rfl, rfl⟩ := hj
    have h1 := hf j f hfj
    have hjl : j < fs.size := (Array.getElem?_eq_some_iff.1 hfj).1
    have h2 : xs[j]? = some (xs[j]'(by omega)) := List.getElem?_eq_getElem (by omega)
    exact ⟨_, h1.trans h2⟩
set_option maxRecDepth 100000 in
theorem plains_in (hv : Value.okWide Try.prog W .any base 24 v) (h : DataW.Trod enc Try.prog W 0 (fun _ => true) true 24 v d p) :
    ∃ (x0 x1 x2 x3 : Int) (c : Nat), v = .agg #[.int .i64 x0, .int .i64 x1, .int .i64 x2, .int .i64 x3, .int .u32 (c : Int)] ∧ c < 4294967296 := by
  obtain ⟨cs, rfl, hsz⟩ := okWide_struct Try.underlying24 hv
  obtain ⟨fuel, hf⟩ := h
  have hc : Try.prog.cellsOf 24 = 5 := by kernel_rfl
  rw [hc] at hsz
  obtain ⟨v0, v1, v2, v3, v4, hl⟩ := listP5 (l := cs.toList) (by simpa using hsz)
  obtain ⟨l⟩ := cs
  simp only at hl
  subst hl
  obtain ⟨n, _, hg⟩ := fieldP_in Try.underlying24 hf
  have ki : Try.prog.cellsOf 3 = 1 := by kernel_rfl
  have ku : Try.prog.cellsOf 22 = 1 := by kernel_rfl
  obtain ⟨y0, h0⟩ := hg 0 3 0 rfl
  obtain ⟨y1, h1⟩ := hg 1 3 1 rfl
  obtain ⟨y2, h2⟩ := hg 2 3 2 rfl
  obtain ⟨y3, h3⟩ := hg 3 3 3 rfl
  obtain ⟨y4, h4⟩ := hg 4 22 4 rfl
  simp only [Value.cells, ki, ku, List.drop_zero, List.drop_succ_cons, List.take_succ_cons, List.take_zero] at h0 h1 h2 h3 h4
  obtain ⟨z0, e0, _, _⟩ := DataW.trod_int Try.underlying3 h0
  obtain ⟨z1, e1, _, _⟩ := DataW.trod_int Try.underlying3 h1
  obtain ⟨z2, e2, _, _⟩ := DataW.trod_int Try.underlying3 h2
  obtain ⟨z3, e3, _, _⟩ := DataW.trod_int Try.underlying3 h3
  obtain ⟨z4, e4, _, w4⟩ := DataW.trod_int Try.underlying22 h4
  obtain ⟨c, rfl, hcl⟩ := wfp_u32 w4
  simp only [List.cons.injEq, and_true] at e0 e1 e2 e3 e4
  subst e0 e1 e2 e3 e4
  exact ⟨z0, z1, z2, z3, c, rfl, hcl⟩
end
end Go.Proofs.Ytdljihemnfpkaaa
