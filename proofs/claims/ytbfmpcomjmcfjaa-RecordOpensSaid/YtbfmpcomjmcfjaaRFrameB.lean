/- The cases of RecordTurns and RecordOpens. -/
import Derived.Test.YtbfmpcomjmcfjaaRFrame
import Derived.Test.YtbfmpcomjmcfjaaFrameZ
namespace Go.Proofs.Ytbfmpcomjmcfjaa
open Go.ChangeShapes Go.WideShapes Go.ChangeAt Go.RowKit Go.Deep

section
variable {H : Type} {enc : TypeId × Value → H} {W : World} {v : Value} {d : DataW H} {p : List MemPlace} {base : Nat}
end

end Go.Proofs.Ytbfmpcomjmcfjaa

namespace Go.Proofs.Ytbfmpcomjmcfjaa
open Go.ChangeShapes Go.WideShapes Go.ChangeAt Go.RowKit Go.Deep

section
variable {H : Type} {enc : TypeId × Value → H} {W : World} {v : Value} {d : DataW H} {p : List MemPlace} {base : Nat}
set_option maxRecDepth 100000 in
theorem intz_list_in {fuel : Nat} {u : Value} {y : DataW H × List MemPlace} (hf : DataW.trod enc Try.prog W 0 (fun _ => true) true fuel 49 [u] = some y) : ∃ a len cap zs, u = .slice a len cap ∧ RowZ W a len cap zs := by
  rcases open_ints Try.underlying49 Try.underlying3 (by kernel_rfl) hf with ⟨hcs, _⟩ | ⟨x, l, c, zs, hcs, _, hl, hm, hz, _, hcell, hwz⟩
  · simp at hcs
    subst hcs
    exact ⟨_, _, _, [], rfl, rfl, Nat.le_refl _, Nat.zero_le _, (fun _ => rfl), (fun x hx => by cases hx), fun h => by omega⟩
  · simp at hcs
    subst hcs
    exact ⟨_, _, _, _, rfl, rowZ_of hl hm (by simpa using hz) hcell hwz⟩
set_option maxRecDepth 100000 in
theorem opensCase_in (hv : Value.okWide Try.prog W .any base 88 v) (h : DataW.Trod enc Try.prog W 0 (fun _ => true) true 88 v d p) :
    ∃ (a : Option Addr) (len cap : Nat) (ds : List Nat) (a2 : Option Addr) (len2 cap2 : Nat) (os : List Nat) (h : RH) (az : Option Addr) (lz cz : Nat) (zs : List Int) (ac : Option Addr) (lc cc : Nat) (cs : List Nat),
      v = .agg (#[.slice a len cap, .slice a2 len2 cap2] ++ h.cells ++ #[.slice az lz cz, .slice ac lc cc]) ∧ (InB W a len cap ds ∧ InB W a2 len2 cap2 os ∧ h.Fits ∧ RowZ W az lz cz zs ∧ InB W ac lc cc cs) := by
  obtain ⟨cs, rfl, hsz⟩ := okWide_struct Try.underlying88 hv
  obtain ⟨fuel, hf⟩ := h
  have hc : Try.prog.cellsOf 88 = 11 := by kernel_rfl
  rw [hc] at hsz
  obtain ⟨t0, t1, v0, v1, v2, v3, v4, v5, v6, u0, u1, hl⟩ := eleven (l := cs.toList) (by simpa using hsz)
  obtain ⟨l⟩ := cs
  simp only at hl
  subst hl
  obtain ⟨n, _, hg⟩ := field_in Try.underlying88 hf
  obtain ⟨y0, h0⟩ := hg 0 57 0 rfl
  obtain ⟨y1, h1⟩ := hg 1 57 1 rfl
  obtain ⟨y2, h2⟩ := hg 2 86 2 rfl
  obtain ⟨y3, h3⟩ := hg 3 49 9 rfl
  obtain ⟨y4, h4⟩ := hg 4 57 10 rfl
  have kh : Try.prog.cellsOf 86 = 7 := by kernel_rfl
  have kb : Try.prog.cellsOf 57 = 1 := by kernel_rfl
  have ki : Try.prog.cellsOf 49 = 1 := by kernel_rfl
  simp only [Value.cells, kh, kb, ki, List.drop_zero, List.drop_succ_cons, List.take_succ_cons, List.take_zero] at h0 h1 h2 h3 h4
  obtain ⟨hh, hfit, e0⟩ := hdr_list_in h2
  obtain ⟨a, len, cap, ds, rfl, hin⟩ := bytes_list_in h0
  obtain ⟨a2, len2, cap2, os, rfl, hin2⟩ := bytes_list_in h1
  obtain ⟨az, lz, cz, zs, rfl, hz⟩ := intz_list_in h3
  obtain ⟨ac, lc, cc, cs, rfl, hinc⟩ := bytes_list_in h4
  refine ⟨a, len, cap, ds, a2, len2, cap2, os, hh, az, lz, cz, zs, ac, lc, cc, cs, ?_, hin, hin2, hfit, hz, hinc⟩
  unfold RH.cells at e0 ⊢
  simp only [List.cons.injEq, and_true] at e0
  obtain ⟨rfl, rfl, rfl, rfl, rfl, rfl, rfl⟩ := e0
  rfl
end

end Go.Proofs.Ytbfmpcomjmcfjaa
