/- An inode that comes in. -/
import Derived.Test.YtnnaijeapapehaaStructIn
import Derived.Test.YtnnaijeapapehaaInCodes
import Derived.OpenShut
namespace Go.Proofs.Ytnnaijeapapehaa
open Go.ChangeShapes Go.WideShapes Go.ChangeAt Go.RowKit

section
variable {H : Type} {enc : TypeId × Value → H} {W : World} {v : Value} {d : DataW H} {p : List MemPlace} {base : Nat}
theorem wfS_u8 {x : Int} (h : (Lit.int .u8 x).wf = true) : ∃ n : Nat, x = (n : Int) ∧ n < 256 := by
  have hm : IntKind.u8.min = 0 := by decide
  have hM : IntKind.u8.max = 255 := by decide
  simp [Lit.wf, hm, hM] at h
  exact ⟨x.toNat, by omega, by omega⟩
theorem wfS_u16 {x : Int} (h : (Lit.int .u16 x).wf = true) : ∃ n : Nat, x = (n : Int) ∧ n < 65536 := by
  have hm : IntKind.u16.min = 0 := by decide
  have hM : IntKind.u16.max = 65535 := by decide
  simp [Lit.wf, hm, hM] at h
  exact ⟨x.toNat, by omega, by omega⟩
theorem listS13 {α : Type} {l : List α} (h : l.length = 13) : ∃ a0 a1 a2 a3 a4 a5 a6 a7 a8 a9 a10 a11 a12, l = [a0, a1, a2, a3, a4, a5, a6, a7, a8, a9, a10, a11, a12] := by
  match l, h with
  | [a0, a1, a2, a3, a4, a5, a6, a7, a8, a9, a10, a11, a12], _ => exact ⟨a0, a1, a2, a3, a4, a5, a6, a7, a8, a9, a10, a11, a12, rfl⟩
set_option maxRecDepth 100000 in
theorem inoCells_in {fuel : Nat} {v0 v1 v2 v3 v4 v5 v6 v7 v8 v9 v10 v11 v12 : Value} {x : DataW H × List MemPlace} (hf : DataW.trod enc Try.prog W 0 (fun _ => true) true fuel 26 [v0, v1, v2, v3, v4, v5, v6, v7, v8, v9, v10, v11, v12] = some x) :
    ∃ n : Ino, [v0, v1, v2, v3, v4, v5, v6, v7, v8, v9, v10, v11, v12] = n.cl.toList ∧ n.Fits := by
  obtain ⟨m, _, hg⟩ := fieldS_in Try.underlying26 hf
  have k8 : Try.prog.cellsOf 5 = 1 := by kernel_rfl
  have k16 : Try.prog.cellsOf 22 = 1 := by kernel_rfl
  have k32 : Try.prog.cellsOf 23 = 1 := by kernel_rfl
  have ka : Try.prog.cellsOf 24 = 8 := by kernel_rfl
  obtain ⟨y0, h0⟩ := hg 0 5 0 rfl
  obtain ⟨y1, h1⟩ := hg 1 22 1 rfl
  obtain ⟨y2, h2⟩ := hg 2 23 2 rfl
  obtain ⟨y3, h3⟩ := hg 3 24 3 rfl
  obtain ⟨y4, h4⟩ := hg 4 23 11 rfl
  obtain ⟨y5, h5⟩ := hg 5 23 12 rfl
  simp only [k8, k16, k32, ka, List.drop_zero, List.drop_succ_cons, List.take_succ_cons, List.take_zero] at h0 h1 h2 h3 h4 h5
  obtain ⟨xs, m2, _, _, _, hlen, ha⟩ := DataW.trod_array Try.underlying24 h3
  rw [k32] at ha
  have g : ∀ i, i < 8 → ∃ z : Nat, ([v3, v4, v5, v6, v7, v8, v9, v10].drop (i * 1)).take 1 = [Value.int .u32 (z : Int)] ∧ z < 4294967296 := fun i hi => by
    have h := ha i hi
    rw [List.getElem?_eq_getElem (by omega)] at h
    obtain ⟨z, e, _, wz⟩ := DataW.trod_int Try.underlying23 h
    obtain ⟨n, rfl, l⟩ := wfS_u32 wz
    exact ⟨n, e, l⟩
  obtain ⟨d0, g0, l0⟩ := g 0 (by omega)
  obtain ⟨d1, g1, l1⟩ := g 1 (by omega)
  obtain ⟨d2, g2, l2⟩ := g 2 (by omega)
  obtain ⟨d3, g3, l3⟩ := g 3 (by omega)
  obtain ⟨d4, g4, l4⟩ := g 4 (by omega)
  obtain ⟨d5, g5, l5⟩ := g 5 (by omega)
  obtain ⟨d6, g6, l6⟩ := g 6 (by omega)
  obtain ⟨d7, g7, l7⟩ := g 7 (by omega)
  simp only [Nat.reduceMul, List.drop_zero, List.drop_succ_cons, List.take_succ_cons, List.take_zero, List.cons.injEq, and_true] at g0 g1 g2 g3 g4 g5 g6 g7
  subst g0 g1 g2 g3 g4 g5 g6 g7
  obtain ⟨z0, e0, _, w0⟩ := DataW.trod_int Try.underlying5 h0
  obtain ⟨z1, e1, _, w1⟩ := DataW.trod_int Try.underlying22 h1
  obtain ⟨z2, e2, _, w2⟩ := DataW.trod_int Try.underlying23 h2
  obtain ⟨z3, e3, _, w3⟩ := DataW.trod_int Try.underlying23 h4
  obtain ⟨z4, e4, _, w4⟩ := DataW.trod_int Try.underlying23 h5
  obtain ⟨ki, rfl, lk⟩ := wfS_u8 w0
  obtain ⟨ln, rfl, ll⟩ := wfS_u16 w1
  obtain ⟨sz, rfl, lz⟩ := wfS_u32 w2
  obtain ⟨si, rfl, li⟩ := wfS_u32 w3
  obtain ⟨db, rfl, lb⟩ := wfS_u32 w4
  simp only [List.cons.injEq, and_true] at e0 e1 e2 e3 e4
  subst e0 e1 e2 e3 e4
  exact ⟨⟨ki, ln, sz, d0, d1, d2, d3, d4, d5, d6, d7, si, db⟩, rfl, ⟨lk, ll, lz, l0, l1, l2, l3, l4, l5, l6, l7, li, lb⟩⟩
set_option maxRecDepth 100000 in
theorem ino_in (hv : Value.okWide Try.prog W .any base 26 v) (h : DataW.Trod enc Try.prog W 0 (fun _ => true) true 26 v d p) :
    ∃ (n : Ino), v = .agg n.cl ∧ n.Fits := by
  obtain ⟨cs, rfl, hsz⟩ := okWide_struct Try.underlying26 hv
  obtain ⟨fuel, hf⟩ := h
  have hc : Try.prog.cellsOf 26 = 13 := by kernel_rfl
  rw [hc] at hsz
  obtain ⟨v0, v1, v2, v3, v4, v5, v6, v7, v8, v9, v10, v11, v12, hl⟩ := listS13 (l := cs.toList) (by simpa using hsz)
  obtain ⟨l⟩ := cs
  simp only at hl
  subst hl
  obtain ⟨n, e, hn⟩ := inoCells_in hf
  refine ⟨n, ?_, hn⟩
  rw [e]
end
theorem inodeCodes_all (n : Ino) (w : World) (h : n.Fits) :
    Calls Try.prog 3 #[.agg n.cl] w fun e w' => e = .returned (.bool true) ∧ Below w.heap.size w w' := inodeCodes_walk n w h
end Go.Proofs.Ytnnaijeapapehaa
