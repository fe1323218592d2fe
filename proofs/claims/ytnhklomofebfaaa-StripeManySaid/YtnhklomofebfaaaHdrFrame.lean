/- Headers that come in. -/
import Derived.Test.YtnhklomofebfaaaFrameInts
import Derived.Test.YtnhklomofebfaaaRHdr
import Derived.Deep.Strs
namespace Go.Proofs.Ytnhklomofebfaaa
open Go.ChangeShapes Go.WideShapes Go.ChangeAt Go.RowKit Go.Deep

theorem wfn_u8 {x : Int} (h : (Lit.int .u8 x).wf = true) : ∃ n : Nat, x = (n : Int) ∧ n < 256 := by
  have hm : IntKind.u8.min = 0 := by decide
  have hM : IntKind.u8.max = 255 := by decide
  simp [Lit.wf, hm, hM] at h
  exact ⟨x.toNat, by omega, by omega⟩
theorem wfn_u16 {x : Int} (h : (Lit.int .u16 x).wf = true) : ∃ n : Nat, x = (n : Int) ∧ n < 65536 := by
  have hm : IntKind.u16.min = 0 := by decide
  have hM : IntKind.u16.max = 65535 := by decide
  simp [Lit.wf, hm, hM] at h
  exact ⟨x.toNat, by omega, by omega⟩
theorem wfn_u32 {x : Int} (h : (Lit.int .u32 x).wf = true) : ∃ n : Nat, x = (n : Int) ∧ n < 4294967296 := by
  have hm : IntKind.u32.min = 0 := by decide
  have hM : IntKind.u32.max = 4294967295 := by decide
  simp [Lit.wf, hm, hM] at h
  exact ⟨x.toNat, by omega, by omega⟩
theorem seven {α : Type} {l : List α} (h : l.length = 7) : ∃ a b c d e f g, l = [a, b, c, d, e, f, g] := by
  match l, h with
  | [a, b, c, d, e, f, g], _ => exact ⟨a, b, c, d, e, f, g, rfl⟩
theorem ten {α : Type} {l : List α} (h : l.length = 10) : ∃ a b c d e f g x y z, l = [a, b, c, d, e, f, g, x, y, z] := by
  match l, h with
  | [a, b, c, d, e, f, g, x, y, z], _ => exact ⟨a, b, c, d, e, f, g, x, y, z, rfl⟩
theorem eleven {α : Type} {l : List α} (h : l.length = 11) : ∃ p q a b c d e f g x y, l = [p, q, a, b, c, d, e, f, g, x, y] := by
  match l, h with
  | [p, q, a, b, c, d, e, f, g, x, y], _ => exact ⟨p, q, a, b, c, d, e, f, g, x, y, rfl⟩
section
variable {H : Type} {enc : TypeId × Value → H} {W : World} {v : Value} {d : DataW H} {p : List MemPlace} {base : Nat}
/-- A field of a struct reads. -/
theorem field_in {fs : Array Field} {fuel : Nat} {t : TypeId} {cs : List Value} {x : DataW H × List MemPlace} (ht : Try.prog.underlying t = some (.struct fs)) (h : DataW.trod enc Try.prog W 0 (fun _ => true) true fuel t cs = some x) :
    ∃ n, cs.length = Try.prog.cellsOf t ∧ ∀ (j : Nat) (ty : TypeId) (off : Nat), (fs[j]?).map (fun f => (f.type, f.offset)) = some (ty, off) → ∃ y, DataW.trod enc Try.prog W 0 (fun _ => true) true n ty ((cs.drop off).take (Try.prog.cellsOf ty)) = some y := by
  obtain ⟨xs, n, _, rfl, hl, hlen, hf⟩ := DataW.trod_struct ht h
  refine ⟨n, hl, fun j ty off hj => ?_⟩
  cases hfj : fs[j]? with
  | none => rw [hfj] at hj; cases hj
  | some f =>
    rw [hfj] at hj
    simp only [Option.map_some, Option.some.injEq, Prod.mk.injEq] at hj
    obtain ⟨rfl, rfl⟩ := hj
    have h1 := hf j f hfj
    have hjl : j < fs.size := (Array.getElem?_eq_some_iff.1 hfj).1
    have h2 : xs[j]? = some (xs[j]'(by omega)) := List.getElem?_eq_getElem (by omega)
    exact ⟨_, h1.trans h2⟩
set_option maxRecDepth 100000 in
theorem hdr_list_in {fuel : Nat} {cs : List Value} {y : DataW H × List MemPlace} (hf : DataW.trod enc Try.prog W 0 (fun _ => true) true fuel 45 cs = some y) : ∃ h : RH, h.Fits ∧ cs = h.cells.toList := by
  obtain ⟨n, hl, hg⟩ := field_in Try.underlying45 hf
  have hc7 : Try.prog.cellsOf 45 = 7 := by kernel_rfl
  rw [hc7] at hl
  obtain ⟨c0, c1, c2, c3, c4, c5, c6, rfl⟩ := seven hl
  have k8 : Try.prog.cellsOf 5 = 1 := by kernel_rfl
  have k16 : Try.prog.cellsOf 43 = 1 := by kernel_rfl
  have k32 : Try.prog.cellsOf 42 = 1 := by kernel_rfl
  obtain ⟨y0, h0⟩ := hg 0 5 0 rfl
  obtain ⟨y1, h1⟩ := hg 1 42 1 rfl
  obtain ⟨y2, h2⟩ := hg 2 42 2 rfl
  obtain ⟨y3, h3⟩ := hg 3 43 3 rfl
  obtain ⟨y4, h4⟩ := hg 4 43 4 rfl
  obtain ⟨y5, h5⟩ := hg 5 42 5 rfl
  obtain ⟨y6, h6⟩ := hg 6 42 6 rfl
  simp only [k8, k16, k32, List.drop_zero, List.drop_succ_cons, List.take_succ_cons, List.take_zero] at h0 h1 h2 h3 h4 h5 h6
  obtain ⟨x0, e0, _, w0⟩ := DataW.trod_int Try.underlying5 h0
  obtain ⟨x1, e1, _, w1⟩ := DataW.trod_int Try.underlying42 h1
  obtain ⟨x2, e2, _, w2⟩ := DataW.trod_int Try.underlying42 h2
  obtain ⟨x3, e3, _, w3⟩ := DataW.trod_int Try.underlying43 h3
  obtain ⟨x4, e4, _, w4⟩ := DataW.trod_int Try.underlying43 h4
  obtain ⟨x5, e5, _, w5⟩ := DataW.trod_int Try.underlying42 h5
  obtain ⟨x6, e6, _, w6⟩ := DataW.trod_int Try.underlying42 h6
  obtain ⟨n0, rfl, l0⟩ := wfn_u8 w0
  obtain ⟨n1, rfl, l1⟩ := wfn_u32 w1
  obtain ⟨n2, rfl, l2⟩ := wfn_u32 w2
  obtain ⟨n3, rfl, l3⟩ := wfn_u16 w3
  obtain ⟨n4, rfl, l4⟩ := wfn_u16 w4
  obtain ⟨n5, rfl, l5⟩ := wfn_u32 w5
  obtain ⟨n6, rfl, l6⟩ := wfn_u32 w6
  simp only [List.cons.injEq, and_true] at e0 e1 e2 e3 e4 e5 e6
  subst e0 e1 e2 e3 e4 e5 e6
  exact ⟨⟨n0, n1, n2, n3, n4, n5, n6⟩, ⟨l0, l1, l2, l3, l4, l5, l6⟩, rfl⟩
set_option maxRecDepth 100000 in
theorem hdr_in (hv : Value.okWide Try.prog W .any base 45 v) (h : DataW.Trod enc Try.prog W 0 (fun _ => true) true 45 v d p) : ∃ h : RH, v = .agg h.cells ∧ h.Fits := by
  obtain ⟨cs, rfl, _⟩ := okWide_struct Try.underlying45 hv
  obtain ⟨fuel, hf⟩ := h
  obtain ⟨h, hh, e⟩ := hdr_list_in hf
  refine ⟨h, ?_, hh⟩
  congr 1
  exact Array.toList_inj.1 (by simpa [Value.cells] using e)
set_option maxRecDepth 100000 in
theorem bytes_list_in {fuel : Nat} {u : Value} {y : DataW H × List MemPlace} (hf : DataW.trod enc Try.prog W 0 (fun _ => true) true fuel 23 [u] = some y) : ∃ a len cap bs, u = .slice a len cap ∧ InB W a len cap bs := by
  rcases open_ints Try.underlying23 Try.underlying5 (by kernel_rfl) hf with ⟨hcs, _⟩ | ⟨x, l, c, zs, hcs, _, hl, hm, hz, _, hcell, hwz⟩
  · simp at hcs
    subst hcs
    exact ⟨_, _, _, [], rfl, ⟨rfl, (fun x hx => by cases hx), (fun h => by omega)⟩, by omega, by unfold maxLen; omega, fun _ => rfl⟩
  · simp at hcs
    subst hcs
    exact ⟨_, _, _, _, rfl, row_of hl (by simpa using hz) hcell hwz, hl, hm, fun h => by cases h⟩
end

end Go.Proofs.Ytnhklomofebfaaa
