/- Layer 10's case that comes in. -/
import Derived.Test.YtnhklomofebfaaaFrame
import Derived.Test.YtnhklomofebfaaaHdrFrame
import Derived.Test.YtnhklomofebfaaaStFirst
import Derived.Deep.SlicePairs
namespace Go.Proofs.Ytnhklomofebfaaa
open Go.ChangeShapes Go.WideShapes Go.ChangeAt Go.RowKit Go.Deep

theorem listN8 {α : Type} {l : List α} (h : l.length = 8) : ∃ a0 a1 a2 a3 a4 a5 a6 a7, l = [a0, a1, a2, a3, a4, a5, a6, a7] := by
  match l, h with
  | [a0, a1, a2, a3, a4, a5, a6, a7], _ => exact ⟨a0, a1, a2, a3, a4, a5, a6, a7, rfl⟩
instance : Inhabited RH := ⟨RH.zero⟩
section
variable {H : Type} {enc : TypeId × Value → H} {W : World} {v : Value} {d : DataW H} {p : List MemPlace} {base : Nat}
set_option maxRecDepth 100000 in
theorem hdrs10_in {fuel : Nat} {u : Value} {y : DataW H × List MemPlace} (hf : DataW.trod enc Try.prog W 0 (fun _ => true) true fuel 22 [u] = some y) :
    ∃ (a : Option Addr) (n c : Nat) (L : List RH), u = .slice a n c ∧ n = L.length ∧ n ≤ maxLen ∧ CellsH W a L ∧ ∀ h ∈ L, h.Fits := by
  have hc7 : Try.prog.cellsOf 45 = 7 := by kernel_rfl
  rcases open_slice Try.underlying22 hf with ⟨hcs, _⟩ | ⟨a, len, cap, m, n, D, Pl, hcs, _, hl, hm, hmm, _, hx⟩
  · simp only [List.cons.injEq, and_true] at hcs
    subst hcs
    exact ⟨_, _, _, [], rfl, rfl, Nat.zero_le _, fun h => absurd h (Nat.lt_irrefl 0), fun h hh => by cases hh⟩
  · simp only [List.cons.injEq, and_true] at hcs
    subst hcs
    have hlm : len ≤ m := by rw [hmm]; split <;> omega
    have each : ∀ i, i < m → ∃ h : RH, h.Fits ∧ ∀ j (hj : j < 7), W.cell? (a.add (i * 7 + j)) = h.cells.toList[j]? := by
      intro i hi
      obtain ⟨cs', h1, h2⟩ := hx i hi
      rw [hc7] at h1
      obtain ⟨_, hlen, hcell⟩ := World.cells?_some h1
      obtain ⟨h, hfit, e⟩ := hdr_list_in h2
      refine ⟨h, hfit, fun j hj => ?_⟩
      have e0 := hcell j hj
      rw [add_add] at e0
      rw [e0, ← e]
    obtain ⟨q, hq⟩ := choose_lt each
    refine ⟨_, _, _, (List.range len).map q, rfl, by simp, by omega, fun h0 => ?_, fun h hh => ?_⟩
    · have h0' : 0 < len := by simpa using h0
      obtain ⟨b, off, spot⟩ := a
      have hz := (hq 0 (by omega)).2 0 (by omega)
      have hspot : spot = none := by
        have h3 : W.cell? (⟨b, off, spot⟩ : Addr) = some (.int .u8 ((q 0).ki : Int)) := by simpa [Addr.add, RH.cells] using hz
        exact World.cell?_spot h3
      subst hspot
      refine ⟨b, off, rfl, fun i hi => ?_⟩
      have hi' : i < len := by simpa using hi
      have hg : ((List.range len).map q).getD i RH.zero = q i := by simp [List.getD, hi']
      rw [hg]
      have hqi := (hq i (by omega)).2
      refine ⟨?_, ?_, ?_, ?_, ?_, ?_, ?_⟩
      · have := hqi 0 (by omega); simpa [Addr.add_lit, RH.cells] using this
      · have := hqi 1 (by omega); simpa [Addr.add_lit, RH.cells, Nat.add_assoc] using this
      · have := hqi 2 (by omega); simpa [Addr.add_lit, RH.cells, Nat.add_assoc] using this
      · have := hqi 3 (by omega); simpa [Addr.add_lit, RH.cells, Nat.add_assoc] using this
      · have := hqi 4 (by omega); simpa [Addr.add_lit, RH.cells, Nat.add_assoc] using this
      · have := hqi 5 (by omega); simpa [Addr.add_lit, RH.cells, Nat.add_assoc] using this
      · have := hqi 6 (by omega); simpa [Addr.add_lit, RH.cells, Nat.add_assoc] using this
    · rw [List.mem_map] at hh
      obtain ⟨i, hi, rfl⟩ := hh
      exact (hq i (by have := List.mem_range.1 hi; omega)).1
theorem bytes10_in {fuel : Nat} {u : Value} {y : DataW H × List MemPlace} (hf : DataW.trod enc Try.prog W 0 (fun _ => true) true fuel 23 [u] = some y) :
    ∃ a len cap bs, u = .slice a len cap ∧ InB W a len cap bs := by
  rcases open_ints Try.underlying23 Try.underlying5 (by kernel_rfl) hf with ⟨hcs, _⟩ | ⟨x, l, c, zs, hcs, _, hl, hm, hz, _, hcell, hwz⟩
  · simp at hcs
    subst hcs
    exact ⟨_, _, _, [], rfl, ⟨rfl, (fun x hx => by cases hx), (fun h => by omega)⟩, by omega, by unfold maxLen; omega, fun _ => rfl⟩
  · simp at hcs
    subst hcs
    exact ⟨_, _, _, _, rfl, row_of hl (by simpa using hz) hcell hwz, hl, hm, fun h => by cases h⟩
set_option maxRecDepth 100000 in
theorem case10_in (hv : Value.okWide Try.prog W .any base 25 v) (h : DataW.Trod enc Try.prog W 0 (fun _ => true) true 25 v d p) :
    ∃ (c sg rw : Int) (ha : Option Addr) (hn hc : Nat) (fa : Option Addr) (fn fc : Nat) (dd sp : Int) (ba : Option Addr) (bn bc : Nat) (HL : List RH) (FL BL : List Nat), v = .agg #[.int .i64 c, .int .i64 sg, .int .i64 rw, .slice ha hn hc, .slice fa fn fc, .int .i64 dd, .int .i64 sp, .slice ba bn bc] ∧ (CaseOk W ha hn fa fn ba bn bc HL FL BL ∧ bn ≤ maxLen) := by
  obtain ⟨cs, rfl, hsz⟩ := okWide_struct Try.underlying25 hv
  obtain ⟨fuel, hf⟩ := h
  have hc : Try.prog.cellsOf 25 = 8 := by kernel_rfl
  rw [hc] at hsz
  obtain ⟨v0, v1, v2, v3, v4, v5, v6, v7, hl⟩ := listN8 (l := cs.toList) (by simpa using hsz)
  obtain ⟨l⟩ := cs
  simp only at hl
  subst hl
  obtain ⟨n, _, hg⟩ := field_in Try.underlying25 hf
  have ki : Try.prog.cellsOf 3 = 1 := by kernel_rfl
  have kh : Try.prog.cellsOf 22 = 1 := by kernel_rfl
  have ks : Try.prog.cellsOf 23 = 1 := by kernel_rfl
  obtain ⟨y0, h0⟩ := hg 0 3 0 rfl
  obtain ⟨y1, h1⟩ := hg 1 3 1 rfl
  obtain ⟨y2, h2⟩ := hg 2 3 2 rfl
  obtain ⟨y3, h3⟩ := hg 3 22 3 rfl
  obtain ⟨y4, h4⟩ := hg 4 23 4 rfl
  obtain ⟨y5, h5⟩ := hg 5 3 5 rfl
  obtain ⟨y6, h6⟩ := hg 6 3 6 rfl
  obtain ⟨y7, h7⟩ := hg 7 23 7 rfl
  simp only [Value.cells, ki, kh, ks, List.drop_zero, List.drop_succ_cons, List.take_succ_cons, List.take_zero] at h0 h1 h2 h3 h4 h5 h6 h7
  obtain ⟨z0, e0, _, _⟩ := DataW.trod_int Try.underlying3 h0
  obtain ⟨z1, e1, _, _⟩ := DataW.trod_int Try.underlying3 h1
  obtain ⟨z2, e2, _, _⟩ := DataW.trod_int Try.underlying3 h2
  obtain ⟨z5, e5, _, _⟩ := DataW.trod_int Try.underlying3 h5
  obtain ⟨z6, e6, _, _⟩ := DataW.trod_int Try.underlying3 h6
  obtain ⟨ha, hn, hcap, HL, rfl, hlen, hmax, hcells, hfits⟩ := hdrs10_in h3
  obtain ⟨fa, fn, fc, FL, rfl, hfb⟩ := bytes10_in h4
  obtain ⟨ba, bn, bc, BL, rfl, hbb⟩ := bytes10_in h7
  simp only [List.cons.injEq, and_true] at e0 e1 e2 e5 e6
  subst e0 e1 e2 e5 e6
  exact ⟨z0, z1, z2, ha, hn, hcap, fa, fn, fc, z5, z6, ba, bn, bc, HL, FL, BL, rfl, ⟨hcells, hlen, hmax, hfits, hfb.1, Nat.le_trans hfb.2.1 hfb.2.2.1, hbb.1, hbb.2.2.2⟩, Nat.le_trans hbb.2.1 hbb.2.2.1⟩
end
end Go.Proofs.Ytnhklomofebfaaa
