/- A case that comes in. -/
import Derived.Test.YtnkkeffjnamcgaaHdrFrame
import Derived.Test.YtnkkeffjnamcgaaFrameParts
import Derived.Test.YtnkkeffjnamcgaaCasePages
import Derived.Deep.SlicePairs
namespace Go.Proofs.Ytnkkeffjnamcgaa
open Go.ChangeShapes Go.WideShapes Go.ChangeAt Go.RowKit Go.Deep

/-- Parts that came in, as a list. -/
def cparts (n : Nat) (A : Nat → Option Addr) (L C : Nat → Nat) (B : Nat → List Nat) : List PS := (List.range n).map fun i => ⟨A i, L i, C i, B i⟩
theorem cparts_len (n : Nat) (A : Nat → Option Addr) (L C : Nat → Nat) (B : Nat → List Nat) : (cparts n A L C B).length = n := by simp [cparts]
theorem cparts_at {n : Nat} (A : Nat → Option Addr) (L C : Nat → Nat) (B : Nat → List Nat) {i : Nat} (hi : i < n) : (cparts n A L C B).getD i PS.nil = ⟨A i, L i, C i, B i⟩ := by
  simp [cparts, List.getD, hi]
theorem cparts_of_in {W : World} {a : Option Addr} {n cap : Nat} {A : Nat → Option Addr} {L C : Nat → Nat} {B : Nat → List Nat} (h : InParts W a n cap A L C B) : PartsL W a (cparts n A L C B) := by
  obtain ⟨_, _, h1, h2⟩ := h
  unfold PartsL
  rw [cparts_len]
  refine ⟨fun h0 => ?_, fun i hi => ?_⟩
  · obtain ⟨b, off, e, hc⟩ := h1 h0
    exact ⟨b, off, e, fun i hi => by dsimp only; rw [cparts_at A L C B hi]; exact hc i hi⟩
  · dsimp only
    rw [cparts_at A L C B hi]
    exact h2 i hi
instance : Inhabited RH := ⟨RH.zero⟩
theorem eleven' {α : Type} {l : List α} (h : l.length = 11) : ∃ p q a b c d e f g x y, l = [p, q, a, b, c, d, e, f, g, x, y] := by
  match l, h with
  | [p, q, a, b, c, d, e, f, g, x, y], _ => exact ⟨p, q, a, b, c, d, e, f, g, x, y, rfl⟩
section
variable {H : Type} {enc : TypeId × Value → H} {W : World} {v : Value} {d : DataW H} {p : List MemPlace} {base : Nat}
set_option maxRecDepth 100000 in
theorem hdrs_list_in {fuel : Nat} {u : Value} {y : DataW H × List MemPlace} (hf : DataW.trod enc Try.prog W 0 (fun _ => true) true fuel 22 [u] = some y) :
    ∃ (a : Option Addr) (n c : Nat) (L : List RH), u = .slice a n c ∧ n = L.length ∧ n ≤ maxLen ∧ CellsH W a L ∧ ∀ h ∈ L, h.Fits := by
  have hc7 : Try.prog.cellsOf 27 = 7 := by kernel_rfl
  rcases open_slice Try.underlying22 hf with ⟨hcs, _⟩ | ⟨a, len, cap, m, n, D, Pl, hcs, _, hl, hm, hmm, _, hx⟩
  · simp only [List.cons.injEq, and_true] at hcs
    subst hcs
    exact ⟨_, _, _, [], rfl, rfl, Nat.zero_le _, fun h => absurd h (Nat.lt_irrefl 0), fun h hh => by cases hh⟩
  · simp only [List.cons.injEq, and_true] at hcs
    subst hcs
    have hlm : len ≤ m := by rw [hmm]; split <;> omega
    have each : ∀ i, i < m → ∃ h : RH, h.Fits ∧ ∀ j (hj : j < 7), W.cell? (a.add (i * 7 + j)) = h.cells.toList[j]? := by
      intro i hi
      obtain ⟨cs', h1, h2⟩ := hx i hi
      rw [hc7] at h1
      obtain ⟨_, hlen, hcell⟩ := World.cells?_some h1
      obtain ⟨h, hfit, e⟩ := hdr_list_in h2
      refine ⟨h, hfit, fun j hj => ?_⟩
      have e0 := hcell j hj
      rw [add_add] at e0
      rw [e0, ← e]
    obtain ⟨q, hq⟩ := choose_lt each
    refine ⟨_, _, _, (List.range len).map q, rfl, by simp, by omega, fun h0 => ?_, fun h hh => ?_⟩
    · have h0' : 0 < len := by simpa using h0
      obtain ⟨b, off, spot⟩ := a
      have hz := (hq 0 (by omega)).2 0 (by omega)
      have hspot : spot = none := by
        have h3 : W.cell? (⟨b, off, spot⟩ : Addr) = some (.int .u8 ((q 0).ki : Int)) := by simpa [Addr.add, RH.cells] using hz
        exact World.cell?_spot h3
      subst hspot
      refine ⟨b, off, rfl, fun i hi => ?_⟩
      have hi' : i < len := by simpa using hi
      have hg : ((List.range len).map q).getD i RH.zero = q i := by simp [List.getD, hi']
      rw [hg]
      have hqi := (hq i (by omega)).2
      refine ⟨?_, ?_, ?_, ?_, ?_, ?_, ?_⟩
      · have := hqi 0 (by omega); simpa [Addr.add_lit, RH.cells] using this
      · have := hqi 1 (by omega); simpa [Addr.add_lit, RH.cells, Nat.add_assoc] using this
      · have := hqi 2 (by omega); simpa [Addr.add_lit, RH.cells, Nat.add_assoc] using this
      · have := hqi 3 (by omega); simpa [Addr.add_lit, RH.cells, Nat.add_assoc] using this
      · have := hqi 4 (by omega); simpa [Addr.add_lit, RH.cells, Nat.add_assoc] using this
      · have := hqi 5 (by omega); simpa [Addr.add_lit, RH.cells, Nat.add_assoc] using this
      · have := hqi 6 (by omega); simpa [Addr.add_lit, RH.cells, Nat.add_assoc] using this
    · rw [List.mem_map] at hh
      obtain ⟨i, hi, rfl⟩ := hh
      exact (hq i (by have := List.mem_range.1 hi; omega)).1
set_option maxRecDepth 100000 in
theorem parts_list_in {fuel : Nat} {u : Value} {y : DataW H × List MemPlace} (hf : DataW.trod enc Try.prog W 0 (fun _ => true) true fuel 23 [u] = some y) :
    ∃ a n cap A L C B, u = .slice a n cap ∧ InParts W a n cap A L C B := by
  rcases open_int_rows Try.underlying23 Try.underlying37 Try.underlying5 (by kernel_rfl) (by kernel_rfl) hf with ⟨hcs, _⟩ | ⟨a, len', cap', A, L, C, Z, hcs, _, hl, hm, _, hrows⟩
  · simp only [List.cons.injEq, and_true] at hcs
    subst hcs
    exact ⟨_, _, _, fun _ => none, fun _ => 0, fun _ => 0, fun _ => [], rfl, by unfold maxLen; omega, fun _ => rfl, fun h => by omega, fun i hi => by omega⟩
  · simp only [List.cons.injEq, and_true] at hcs
    subst hcs
    refine ⟨_, _, _, A, L, C, fun r => ((Z r).take (L r)).map Int.toNat, rfl, by omega, fun h => (by cases h), fun h0 => ?_, fun i hi => ?_⟩
    · obtain ⟨b, off, spot⟩ := a
      have hspot : spot = none := by simpa [Addr.add] using World.cell?_spot (hrows 0 (by omega)).1
      subst hspot
      refine ⟨b, off, rfl, fun i hi => ?_⟩
      rw [← (hrows i (by omega)).1, Addr.add_lit]
    · obtain ⟨_, h2, h3, h4, h5, h6, h7⟩ := hrows i (by omega)
      refine ⟨?_, h2, h3, h6⟩
      cases hA : A i with
      | none =>
        have hC := h6 hA
        exact ⟨by simp; omega, fun y hy => (by
          have hz : (Z i) = [] := List.eq_nil_of_length_eq_zero (by omega)
          simp [hz] at hy), fun h => by omega⟩
      | some x => exact row_of h2 h4 (fun j hj => (h7 x hA).2 j (by omega)) h5
theorem wfn_i64 {x : Int} (h : (Lit.int .i64 x).wf = true) : -9223372036854775808 ≤ x ∧ x ≤ 9223372036854775807 := by
  have hm : IntKind.i64.min = -9223372036854775808 := by decide
  have hM : IntKind.i64.max = 9223372036854775807 := by decide
  simp [Lit.wf, hm, hM] at h
  omega
set_option maxRecDepth 100000 in
theorem case_list_in {fuel : Nat} {cs : List Value} {y : DataW H × List MemPlace} (hf : DataW.trod enc Try.prog W 0 (fun _ => true) true fuel 29 cs = some y) :
    ∃ (c : CA) (K : List RH) (L : List PS), cs = c.cells.toList ∧ CaseIn W c K L := by
  obtain ⟨n, hl, hg⟩ := field_in Try.underlying29 hf
  have hc : Try.prog.cellsOf 29 = 11 := by kernel_rfl
  rw [hc] at hl
  obtain ⟨t0, t1, u0, u1, v0, v1, v2, v3, v4, v5, v6, rfl⟩ := eleven' hl
  obtain ⟨y0, h0⟩ := hg 0 22 0 rfl
  obtain ⟨y1, h1⟩ := hg 1 23 1 rfl
  obtain ⟨y2, h2⟩ := hg 2 3 2 rfl
  obtain ⟨y3, h3⟩ := hg 3 3 3 rfl
  obtain ⟨y4, h4⟩ := hg 4 27 4 rfl
  have kh : Try.prog.cellsOf 27 = 7 := by kernel_rfl
  have kb : Try.prog.cellsOf 22 = 1 := by kernel_rfl
  have kp : Try.prog.cellsOf 23 = 1 := by kernel_rfl
  have ki : Try.prog.cellsOf 3 = 1 := by kernel_rfl
  simp only [kh, kb, kp, ki, List.drop_zero, List.drop_succ_cons, List.take_succ_cons, List.take_zero] at h0 h1 h2 h3 h4
  obtain ⟨ha, hn, hcap, K, rfl, hlen, hmax, hcells, hfits⟩ := hdrs_list_in h0
  obtain ⟨da, dn, dc, A, L, C, B, rfl, hin⟩ := parts_list_in h1
  obtain ⟨x2, e2, _, w2⟩ := DataW.trod_int Try.underlying3 h2
  obtain ⟨x3, e3, _, w3⟩ := DataW.trod_int Try.underlying3 h3
  obtain ⟨hh, hfit, e4⟩ := hdr_list_in h4
  simp only [List.cons.injEq, and_true] at e2 e3
  subst e2 e3
  obtain ⟨l2, l3⟩ := wfn_i64 w2
  obtain ⟨l4, l5⟩ := wfn_i64 w3
  refine ⟨⟨ha, hn, hcap, da, dn, dc, x2, x3, hh⟩, K, cparts dn A L C B, ?_, ⟨hcells, hlen, hmax, hfits, cparts_of_in hin, (cparts_len dn A L C B).symm, hin.1, l2, l3, l4, l5, hfit⟩⟩
  unfold RH.cells at e4
  unfold CA.cells
  simp only [List.cons.injEq, and_true] at e4
  obtain ⟨rfl, rfl, rfl, rfl, rfl, rfl, rfl⟩ := e4
  rfl
set_option maxRecDepth 100000 in
theorem case_in (hv : Value.okWide Try.prog W .any base 29 v) (h : DataW.Trod enc Try.prog W 0 (fun _ => true) true 29 v d p) :
    ∃ (c : CA) (K : List RH) (L : List PS), v = .agg c.cells ∧ CaseIn W c K L := by
  obtain ⟨cs, rfl, _⟩ := okWide_struct Try.underlying29 hv
  obtain ⟨fuel, hf⟩ := h
  obtain ⟨c, K, L, e, hin⟩ := case_list_in hf
  refine ⟨c, K, L, ?_, hin⟩
  congr 1
  exact Array.toList_inj.1 (by simpa [Value.cells] using e)
end

end Go.Proofs.Ytnkkeffjnamcgaa

namespace Go.Proofs.Ytnkkeffjnamcgaa
open Go.ChangeShapes Go.WideShapes Go.ChangeAt Go.RowKit Go.Deep

theorem fourteen {α : Type} {l : List α} (h : l.length = 14) : ∃ a b c d e f g p q r s t u v, l = [a, b, c, d, e, f, g, p, q, r, s, t, u, v] := by
  match l, h with
  | [a, b, c, d, e, f, g, p, q, r, s, t, u, v], _ => exact ⟨a, b, c, d, e, f, g, p, q, r, s, t, u, v, rfl⟩
section
variable {H : Type} {enc : TypeId × Value → H} {W : World} {v : Value} {d : DataW H} {p : List MemPlace} {base : Nat}
set_option maxRecDepth 100000 in
theorem spoiltCase_in (hv : Value.okWide Try.prog W .any base 31 v) (h : DataW.Trod enc Try.prog W 0 (fun _ => true) true 31 v d p) :
    ∃ (c : CA) (K : List RH) (L : List PS) (wx x : Int) (cb : Nat), v = .agg (c.cells ++ #[.int .i64 wx, .int .i64 x, .int .u8 (cb : Int)]) ∧ (CaseIn W c K L ∧ cb < 256) := by
  obtain ⟨cs, rfl, hsz⟩ := okWide_struct Try.underlying31 hv
  obtain ⟨fuel, hf⟩ := h
  have hc : Try.prog.cellsOf 31 = 14 := by kernel_rfl
  rw [hc] at hsz
  obtain ⟨v0, v1, v2, v3, v4, v5, v6, v7, v8, v9, v10, u0, u1, u2, hl⟩ := fourteen (l := cs.toList) (by simpa using hsz)
  obtain ⟨l⟩ := cs
  simp only at hl
  subst hl
  obtain ⟨n, _, hg⟩ := field_in Try.underlying31 hf
  obtain ⟨y0, h0⟩ := hg 0 29 0 rfl
  obtain ⟨y1, h1⟩ := hg 1 3 11 rfl
  obtain ⟨y2, h2⟩ := hg 2 3 12 rfl
  obtain ⟨y3, h3⟩ := hg 3 5 13 rfl
  have kc : Try.prog.cellsOf 29 = 11 := by kernel_rfl
  have ki : Try.prog.cellsOf 3 = 1 := by kernel_rfl
  have k8 : Try.prog.cellsOf 5 = 1 := by kernel_rfl
  simp only [Value.cells, kc, ki, k8, List.drop_zero, List.drop_succ_cons, List.take_succ_cons, List.take_zero] at h0 h1 h2 h3
  obtain ⟨c, K, L, e0, hin⟩ := case_list_in h0
  obtain ⟨x1, e1, _, w1⟩ := DataW.trod_int Try.underlying3 h1
  obtain ⟨x2, e2, _, w2⟩ := DataW.trod_int Try.underlying3 h2
  obtain ⟨x3, e3, _, w3⟩ := DataW.trod_int Try.underlying5 h3
  obtain ⟨cb, rfl, hcl⟩ := wfn_u8 w3
  simp only [List.cons.injEq, and_true] at e1 e2 e3
  subst e1 e2 e3
  refine ⟨c, K, L, x1, x2, cb, ?_, hin, hcl⟩
  congr 1
  apply Array.toList_inj.1
  rw [Array.toList_append, ← e0]
  rfl
end
end Go.Proofs.Ytnkkeffjnamcgaa
