/- RecordSays' own input. -/
import Derived.Test.YtjnjkoodeacpdaaRSaysWalk
import Derived.Test.YtjnjkoodeacpdaaRFrameB
namespace Go.Proofs.Ytjnjkoodeacpdaa
open Go.ChangeShapes Go.WideShapes Go.ChangeAt Go.RowKit Go.Deep

theorem five_ {α : Type} {l : List α} (h : l.length = 5) : ∃ a b c d e, l = [a, b, c, d, e] := by
  match l, h with
  | [a, b, c, d, e], _ => exact ⟨a, b, c, d, e, rfl⟩
theorem four_ {α : Type} {l : List α} (h : l.length = 4) : ∃ a b c d, l = [a, b, c, d] := by
  match l, h with
  | [a, b, c, d], _ => exact ⟨a, b, c, d, rfl⟩
section
variable {H : Type} {enc : TypeId × Value → H} {W : World} {v : Value} {d : DataW H} {p : List MemPlace} {base : Nat}
set_option maxRecDepth 100000 in
theorem data_in (hv : Value.okWide Try.prog W .any base 110 v) (h : DataW.Trod enc Try.prog W 0 (fun _ => true) true 110 v d p) :
    ∃ (e b : Nat) (i c : Int) (l : Nat), v = .agg #[.int .u32 ((e : Nat) : Int), .int .u32 ((b : Nat) : Int), .int .i64 i, .int .i64 c, .int .u32 ((l : Nat) : Int)] ∧ (-9223372036854775808 ≤ i ∧ i ≤ 9223372036854775807 ∧ -9223372036854775808 ≤ c ∧ c ≤ 9223372036854775807) := by
  obtain ⟨cs, rfl, hsz⟩ := okWide_struct Try.underlying110 hv
  obtain ⟨fuel, hf⟩ := h
  have hc : Try.prog.cellsOf 110 = 5 := by kernel_rfl
  rw [hc] at hsz
  obtain ⟨v0, v1, v2, v3, v4, hl⟩ := five_ (l := cs.toList) (by simpa using hsz)
  obtain ⟨l⟩ := cs
  simp only at hl
  subst hl
  obtain ⟨n, _, hg⟩ := field_in Try.underlying110 hf
  obtain ⟨y0, h0⟩ := hg 0 83 0 rfl
  obtain ⟨y1, h1⟩ := hg 1 83 1 rfl
  obtain ⟨y2, h2⟩ := hg 2 3 2 rfl
  obtain ⟨y3, h3⟩ := hg 3 3 3 rfl
  obtain ⟨y4, h4⟩ := hg 4 83 4 rfl
  have ki : Try.prog.cellsOf 3 = 1 := by kernel_rfl
  have k32 : Try.prog.cellsOf 83 = 1 := by kernel_rfl
  simp only [Value.cells, ki, k32, List.drop_zero, List.drop_succ_cons, List.take_succ_cons, List.take_zero] at h0 h1 h2 h3 h4
  obtain ⟨x0, e0, _, w0⟩ := DataW.trod_int Try.underlying83 h0
  obtain ⟨x1, e1, _, w1⟩ := DataW.trod_int Try.underlying83 h1
  obtain ⟨x2, e2, _, w2⟩ := DataW.trod_int Try.underlying3 h2
  obtain ⟨x3, e3, _, w3⟩ := DataW.trod_int Try.underlying3 h3
  obtain ⟨x4, e4, _, w4⟩ := DataW.trod_int Try.underlying83 h4
  obtain ⟨n0, rfl, _⟩ := wfn_u32 w0
  obtain ⟨n1, rfl, _⟩ := wfn_u32 w1
  obtain ⟨n4, rfl, _⟩ := wfn_u32 w4
  simp only [List.cons.injEq, and_true] at e0 e1 e2 e3 e4
  subst e0 e1 e2 e3 e4
  have a2 := wfz x2 w2
  have a3 := wfz x3 w3
  exact ⟨n0, n1, x2, x3, n4, rfl, a2.1, a2.2, a3.1, a3.2⟩
set_option maxRecDepth 100000 in
theorem par_in (hv : Value.okWide Try.prog W .any base 116 v) (h : DataW.Trod enc Try.prog W 0 (fun _ => true) true 116 v d p) :
    ∃ (e b : Nat) (i c : Int), v = .agg #[.int .u32 ((e : Nat) : Int), .int .u32 ((b : Nat) : Int), .int .i64 i, .int .i64 c] ∧ (-9223372036854775808 ≤ i ∧ i ≤ 9223372036854775807 ∧ -9223372036854775808 ≤ c ∧ c ≤ 9223372036854775807) := by
  obtain ⟨cs, rfl, hsz⟩ := okWide_struct Try.underlying116 hv
  obtain ⟨fuel, hf⟩ := h
  have hc : Try.prog.cellsOf 116 = 4 := by kernel_rfl
  rw [hc] at hsz
  obtain ⟨v0, v1, v2, v3, hl⟩ := four_ (l := cs.toList) (by simpa using hsz)
  obtain ⟨l⟩ := cs
  simp only at hl
  subst hl
  obtain ⟨n, _, hg⟩ := field_in Try.underlying116 hf
  obtain ⟨y0, h0⟩ := hg 0 83 0 rfl
  obtain ⟨y1, h1⟩ := hg 1 83 1 rfl
  obtain ⟨y2, h2⟩ := hg 2 3 2 rfl
  obtain ⟨y3, h3⟩ := hg 3 3 3 rfl
  have ki : Try.prog.cellsOf 3 = 1 := by kernel_rfl
  have k32 : Try.prog.cellsOf 83 = 1 := by kernel_rfl
  simp only [Value.cells, ki, k32, List.drop_zero, List.drop_succ_cons, List.take_succ_cons, List.take_zero] at h0 h1 h2 h3
  obtain ⟨x0, e0, _, w0⟩ := DataW.trod_int Try.underlying83 h0
  obtain ⟨x1, e1, _, w1⟩ := DataW.trod_int Try.underlying83 h1
  obtain ⟨x2, e2, _, w2⟩ := DataW.trod_int Try.underlying3 h2
  obtain ⟨x3, e3, _, w3⟩ := DataW.trod_int Try.underlying3 h3
  obtain ⟨n0, rfl, _⟩ := wfn_u32 w0
  obtain ⟨n1, rfl, _⟩ := wfn_u32 w1
  simp only [List.cons.injEq, and_true] at e0 e1 e2 e3
  subst e0 e1 e2 e3
  have a2 := wfz x2 w2
  have a3 := wfz x3 w3
  exact ⟨n0, n1, x2, x3, rfl, a2.1, a2.2, a3.1, a3.2⟩
end
theorem recordSays_all (e b : Nat) (i c : Int) (l : Nat) (e2 b2 : Nat) (r s : Int) (n : Int) (w : World) (hin : -9223372036854775808 ≤ i ∧ i ≤ 9223372036854775807 ∧ -9223372036854775808 ≤ c ∧ c ≤ 9223372036854775807) (hin2 : -9223372036854775808 ≤ r ∧ r ≤ 9223372036854775807 ∧ -9223372036854775808 ≤ s ∧ s ≤ 9223372036854775807) (_ : (Lit.int .i64 n).wf = true) :
    Calls Try.prog 14 #[.agg #[.int .u32 ((e : Nat) : Int), .int .u32 ((b : Nat) : Int), .int .i64 i, .int .i64 c, .int .u32 ((l : Nat) : Int)], .agg #[.int .u32 ((e2 : Nat) : Int), .int .u32 ((b2 : Nat) : Int), .int .i64 r, .int .i64 s], .int .i64 n] w fun e' w' => e' = .returned (.bool true) ∧ Below w.heap.size w w' :=
  recordSays_walk e b i c l e2 b2 r s n w hin hin2

end Go.Proofs.Ytjnjkoodeacpdaa
