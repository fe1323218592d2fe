/- BmapSets' case that comes in. -/
import Derived.Test.YtgfchjchanfcgaaStructIn
import Derived.Test.YtgfchjchanfcgaaBmSets
namespace Go.Proofs.Ytgfchjchanfcgaa
open Go.ChangeShapes Go.WideShapes Go.ChangeAt Go.RowKit

section
variable {H : Type} {enc : TypeId × Value → H} {W : World} {v : Value} {d : DataW H} {p : List MemPlace} {base : Nat}
set_option maxRecDepth 100000 in
theorem sets_in (hv : Value.okWide Try.prog W .any base 50 v) (h : DataW.Trod enc Try.prog W 0 (fun _ => true) true 50 v d p) :
    ∃ (a : Option Addr) (len cap : Nat) (bs : List Nat) (x y : Int) (i k : Nat), v = .agg #[.slice a len cap, .int .i64 x, .int .i64 y, .int .u32 (i : Int), .int .u32 (k : Int)] ∧ (InB W a len cap bs ∧ i < 4294967296 ∧ k < 4294967296) := by
  obtain ⟨cs, rfl, hsz⟩ := okWide_struct Try.underlying50 hv
  obtain ⟨fuel, hf⟩ := h
  have hc : Try.prog.cellsOf 50 = 5 := by kernel_rfl
  rw [hc] at hsz
  obtain ⟨v0, v1, v2, v3, v4, hl⟩ := listS5 (l := cs.toList) (by simpa using hsz)
  obtain ⟨l⟩ := cs
  simp only at hl
  subst hl
  obtain ⟨n, _, hg⟩ := fieldS_in Try.underlying50 hf
  have ki : Try.prog.cellsOf 3 = 1 := by kernel_rfl
  have kb : Try.prog.cellsOf 23 = 1 := by kernel_rfl
  have ks : Try.prog.cellsOf 22 = 1 := by kernel_rfl
  obtain ⟨y0, h0⟩ := hg 0 22 0 rfl
  obtain ⟨y1, h1⟩ := hg 1 3 1 rfl
  obtain ⟨y2, h2⟩ := hg 2 3 2 rfl
  obtain ⟨y3, h3⟩ := hg 3 23 3 rfl
  obtain ⟨y4, h4⟩ := hg 4 23 4 rfl
  simp only [Value.cells, ki, kb, ks, List.drop_zero, List.drop_succ_cons, List.take_succ_cons, List.take_zero] at h0 h1 h2 h3 h4
  obtain ⟨a, len, cap, bs, rfl, hb⟩ := pageS_in h0
  obtain ⟨z1, e1, _, _⟩ := DataW.trod_int Try.underlying3 h1
  obtain ⟨z2, e2, _, _⟩ := DataW.trod_int Try.underlying3 h2
  obtain ⟨z3, e3, _, w3⟩ := DataW.trod_int Try.underlying23 h3
  obtain ⟨z4, e4, _, w4⟩ := DataW.trod_int Try.underlying23 h4
  obtain ⟨n3, rfl, l3⟩ := wfS_u32 w3
  obtain ⟨n4, rfl, l4⟩ := wfS_u32 w4
  simp only [List.cons.injEq, and_true] at e1 e2 e3 e4
  subst e1 e2 e3 e4
  exact ⟨a, len, cap, bs, z1, z2, n3, n4, rfl, hb, l3, l4⟩
end
theorem bmapSets_all (a : Option Addr) (n c : Nat) (l : List Nat) (x y : Int) (v u : Nat) (w : World) (h : InB w a n c l ∧ v < 4294967296 ∧ u < 4294967296) :
    Calls Try.prog 7 #[.agg #[.slice a n c, .int .i64 x, .int .i64 y, .int .u32 (v : Int), .int .u32 (u : Int)]] w fun e w' => e = .returned (.bool true) ∧ Below w.heap.size w w' :=
  bmapSets_walk a n c l x y v u w h.1 h.2.1 h.2.2
end Go.Proofs.Ytgfchjchanfcgaa
