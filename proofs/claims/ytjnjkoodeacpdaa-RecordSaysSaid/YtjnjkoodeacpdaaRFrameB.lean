/- The cases of RecordTurns and RecordOpens. -/
import Derived.Test.YtjnjkoodeacpdaaRFrame
import Derived.Test.YtjnjkoodeacpdaaFrameZ
namespace Go.Proofs.Ytjnjkoodeacpdaa
open Go.ChangeShapes Go.WideShapes Go.ChangeAt Go.RowKit Go.Deep

section
variable {H : Type} {enc : TypeId × Value → H} {W : World} {v : Value} {d : DataW H} {p : List MemPlace} {base : Nat}
set_option maxRecDepth 100000 in
theorem turnsCase_in (hv : Value.okWide Try.prog W .any base 101 v) (h : DataW.Trod enc Try.prog W 0 (fun _ => true) true 101 v d p) :
    ∃ (h : RH) (a : Option Addr) (len cap : Nat) (bs : List Nat) (x : Int) (c : Nat), v = .agg (h.cells ++ #[.slice a len cap, .int .i64 x, .int .u32 ((c : Nat) : Int)]) ∧ (h.Fits ∧ InB W a len cap bs ∧ c < 4294967296) := by
  obtain ⟨cs, rfl, hsz⟩ := okWide_struct Try.underlying101 hv
  obtain ⟨fuel, hf⟩ := h
  have hc : Try.prog.cellsOf 101 = 10 := by kernel_rfl
  rw [hc] at hsz
  obtain ⟨v0, v1, v2, v3, v4, v5, v6, u0, u1, u2, hl⟩ := ten (l := cs.toList) (by simpa using hsz)
  obtain ⟨l⟩ := cs
  simp only at hl
  subst hl
  obtain ⟨n, _, hg⟩ := field_in Try.underlying101 hf
  obtain ⟨y0, h0⟩ := hg 0 86 0 rfl
  obtain ⟨y1, h1⟩ := hg 1 57 7 rfl
  obtain ⟨y2, h2⟩ := hg 2 3 8 rfl
  obtain ⟨y3, h3⟩ := hg 3 83 9 rfl
  have kh : Try.prog.cellsOf 86 = 7 := by kernel_rfl
  have kb : Try.prog.cellsOf 57 = 1 := by kernel_rfl
  have ki : Try.prog.cellsOf 3 = 1 := by kernel_rfl
  have k8 : Try.prog.cellsOf 83 = 1 := by kernel_rfl
  simp only [Value.cells, kh, kb, ki, k8, List.drop_zero, List.drop_succ_cons, List.take_succ_cons, List.take_zero] at h0 h1 h2 h3
  obtain ⟨hh, hfit, e0⟩ := hdr_list_in h0
  obtain ⟨a, len, cap, bs, rfl, hin⟩ := bytes_list_in h1
  obtain ⟨x, e2, _, w2⟩ := DataW.trod_int Try.underlying3 h2
  obtain ⟨x3, e3, _, w3⟩ := DataW.trod_int Try.underlying83 h3
  obtain ⟨c, rfl, hcl⟩ := wfn_u32 w3
  simp only [List.cons.injEq, and_true] at e2 e3
  subst e2 e3
  refine ⟨hh, a, len, cap, bs, x, c, ?_, hfit, hin, hcl⟩
  unfold RH.cells at e0 ⊢
  simp only [List.cons.injEq, and_true] at e0
  obtain ⟨rfl, rfl, rfl, rfl, rfl, rfl, rfl⟩ := e0
  rfl
end

end Go.Proofs.Ytjnjkoodeacpdaa
