/- InodePlaces' case that comes in. -/
import Derived.Test.YtnnaijeapapehaaStructIn
import Derived.Test.YtnnaijeapapehaaInPlaces
namespace Go.Proofs.Ytnnaijeapapehaa
open Go.ChangeShapes Go.WideShapes Go.ChangeAt Go.RowKit

theorem listS4 {α : Type} {l : List α} (h : l.length = 4) : ∃ a0 a1 a2 a3, l = [a0, a1, a2, a3] := by
  match l, h with
  | [a0, a1, a2, a3], _ => exact ⟨a0, a1, a2, a3, rfl⟩
section
variable {H : Type} {enc : TypeId × Value → H} {W : World} {v : Value} {d : DataW H} {p : List MemPlace} {base : Nat}
set_option maxRecDepth 100000 in
theorem places_in (hv : Value.okWide Try.prog W .any base 57 v) (h : DataW.Trod enc Try.prog W 0 (fun _ => true) true 57 v d p) :
    ∃ (x y : Int) (i k : Nat), v = .agg #[.int .i64 x, .int .i64 y, .int .u32 (i : Int), .int .u32 (k : Int)] ∧ (i < 4294967296 ∧ k < 4294967296) := by
  obtain ⟨cs, rfl, hsz⟩ := okWide_struct Try.underlying57 hv
  obtain ⟨fuel, hf⟩ := h
  have hc : Try.prog.cellsOf 57 = 4 := by kernel_rfl
  rw [hc] at hsz
  obtain ⟨v0, v1, v2, v3, hl⟩ := listS4 (l := cs.toList) (by simpa using hsz)
  obtain ⟨l⟩ := cs
  simp only at hl
  subst hl
  obtain ⟨n, _, hg⟩ := fieldS_in Try.underlying57 hf
  have ki : Try.prog.cellsOf 3 = 1 := by kernel_rfl
  have kb : Try.prog.cellsOf 23 = 1 := by kernel_rfl
  obtain ⟨y1, h1⟩ := hg 0 3 0 rfl
  obtain ⟨y2, h2⟩ := hg 1 3 1 rfl
  obtain ⟨y3, h3⟩ := hg 2 23 2 rfl
  obtain ⟨y4, h4⟩ := hg 3 23 3 rfl
  simp only [Value.cells, ki, kb, List.drop_zero, List.drop_succ_cons, List.take_succ_cons, List.take_zero] at h1 h2 h3 h4
  obtain ⟨z1, e1, _, _⟩ := DataW.trod_int Try.underlying3 h1
  obtain ⟨z2, e2, _, _⟩ := DataW.trod_int Try.underlying3 h2
  obtain ⟨z3, e3, _, w3⟩ := DataW.trod_int Try.underlying23 h3
  obtain ⟨z4, e4, _, w4⟩ := DataW.trod_int Try.underlying23 h4
  obtain ⟨n3, rfl, l3⟩ := wfS_u32 w3
  obtain ⟨n4, rfl, l4⟩ := wfS_u32 w4
  simp only [List.cons.injEq, and_true] at e1 e2 e3 e4
  subst e1 e2 e3 e4
  exact ⟨z1, z2, n3, n4, rfl, l3, l4⟩
end
theorem inodePlaces_all (xb xs : Int) (a c : Nat) (w : World) (h : a < 4294967296 ∧ c < 4294967296) :
    Calls Try.prog 6 #[.agg #[.int .i64 xb, .int .i64 xs, .int .u32 (a : Int), .int .u32 (c : Int)]] w fun e w' => e = .returned (.bool true) ∧ Below w.heap.size w w' := by
  obtain ⟨v, hv⟩ : ∃ v, IntKind.u64.wrap xs = v := ⟨_, rfl⟩
  obtain ⟨y, hy⟩ : ∃ y, v % 13 = y := ⟨_, rfl⟩
  obtain ⟨s, hs⟩ : ∃ s, 256 + 64 * y = s := ⟨_, rfl⟩
  obtain ⟨v2, hv2⟩ : ∃ v, IntKind.u64.wrap xb = v := ⟨_, rfl⟩
  obtain ⟨y2, hy2⟩ : ∃ y, v2 % 5000 = y := ⟨_, rfl⟩
  obtain ⟨b, hb⟩ : ∃ b, 40 + y2 = b := ⟨_, rfl⟩
  by_cases hf : firstI b s + 8 ≤ b
  rotate_left
  · exact places_full xb xs a c w v y s v2 y2 b hv hy hs hv2 hy2 hb hf
  have a0 : (0 : Int) ≤ (a : Int) := by omega
  have a1 : (a : Int) ≤ 4294967295 := by omega
  have c0 : (0 : Int) ≤ (c : Int) := by omega
  have c1 : (c : Int) ≤ 4294967295 := by omega
  obtain ⟨nd, hnd⟩ : ∃ n, bitsI b s * (s / 64) = n := ⟨_, rfl⟩
  by_cases hc : 1 ≤ (c : Int) ∧ (c : Int) ≤ nd
  · have hc' := hc
    rw [← hnd] at hc'
    by_cases ha : 1 ≤ (a : Int) ∧ (a : Int) ≤ nd
    · have ha' := ha
      rw [← hnd] at ha'
      by_cases he : (a : Int) = (c : Int)
      · exact places_0 xb xs a c w v y s v2 y2 b hv hy hs hv2 hy2 hb hf a0 a1 c0 c1 ha' hc' he
      · by_cases hq : ((a : Int) - 1) / (s / 64) = ((c : Int) - 1) / (s / 64)
        · exact places_2 xb xs a c w v y s v2 y2 b hv hy hs hv2 hy2 hb hf a0 a1 c0 c1 ha' hc' he hq
        · exact places_1 xb xs a c w v y s v2 y2 b hv hy hs hv2 hy2 hb hf a0 a1 c0 c1 ha' hc' he hq
    · by_cases h0 : (a : Int) < 1
      · exact places_4 xb xs a c w v y s v2 y2 b hv hy hs hv2 hy2 hb hf a0 a1 c0 c1 h0 hc'
      · exact places_5 xb xs a c w v y s v2 y2 b hv hy hs hv2 hy2 hb hf a0 a1 c0 c1 (by rw [hnd]; omega) hc'
  · have hc' : (c : Int) < 1 ∨ bitsI b s * (s / 64) < (c : Int) := by rw [hnd]; omega
    by_cases ha : 1 ≤ (a : Int) ∧ (a : Int) ≤ nd
    · have ha' := ha
      rw [← hnd] at ha'
      exact places_3 xb xs a c w v y s v2 y2 b hv hy hs hv2 hy2 hb hf a0 a1 c0 c1 ha' hc'
    · by_cases h0 : (a : Int) < 1
      · exact places_6 xb xs a c w v y s v2 y2 b hv hy hs hv2 hy2 hb hf a0 a1 c0 c1 h0 hc'
      · exact places_7 xb xs a c w v y s v2 y2 b hv hy hs hv2 hy2 hb hf a0 a1 c0 c1 (by rw [hnd]; omega) hc'
end Go.Proofs.Ytnnaijeapapehaa
