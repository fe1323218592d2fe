/- InodeDecodes' case that comes in. -/
import Derived.Test.YtnnaijeapapehaaInIn
import Derived.Test.YtnnaijeapapehaaInDcP
namespace Go.Proofs.Ytnnaijeapapehaa
open Go.ChangeShapes Go.WideShapes Go.ChangeAt Go.RowKit Go.Deep

section
variable {H : Type} {enc : TypeId × Value → H} {W : World} {v : Value} {d : DataW H} {p : List MemPlace} {base : Nat}
theorem listS16 {α : Type} {l : List α} (h : l.length = 16) : ∃ a0 a1 a2 a3 a4 a5 a6 a7 a8 a9 a10 a11 a12 a13 a14 a15, l = [a0, a1, a2, a3, a4, a5, a6, a7, a8, a9, a10, a11, a12, a13, a14, a15] := by
  match l, h with
  | [a0, a1, a2, a3, a4, a5, a6, a7, a8, a9, a10, a11, a12, a13, a14, a15], _ => exact ⟨a0, a1, a2, a3, a4, a5, a6, a7, a8, a9, a10, a11, a12, a13, a14, a15, rfl⟩
theorem rowE_in {fuel : Nat} {u : Value} {y : DataW H × List MemPlace} (hf : DataW.trod enc Try.prog W 0 (fun _ => true) true fuel 40 [u] = some y) :
    ∃ a len cap, u = .slice a len cap ∧ RowE W a len := by
  rcases open_ints Try.underlying40 Try.underlying3 (by kernel_rfl) hf with ⟨hcs, _⟩ | ⟨x, l, c, zs, hcs, _, hl, hm, hz, _, hcell, hwz⟩
  · simp at hcs
    subst hcs
    exact ⟨_, _, _, rfl, fun i hi => absurd hi (Nat.not_lt_zero i)⟩
  · simp at hcs
    subst hcs
    refine ⟨_, _, _, rfl, fun i hi => ?_⟩
    obtain ⟨b, off, spot⟩ := x
    have hz' : zs.length = c := by simpa using hz
    have hc0 := hcell 0 (by omega)
    have hspot : spot = none := by simpa [Addr.add] using World.cell?_spot hc0
    subst hspot
    refine ⟨b, off, zs.getD i 0, rfl, ?_⟩
    have hci := hcell i (by omega)
    rw [← hci]
    congr 1
    unfold Addr.add
    split
    · rename_i h; subst h; simp
    · rfl
set_option maxRecDepth 100000 in
theorem decodes_in (hv : Value.okWide Try.prog W .any base 42 v) (h : DataW.Trod enc Try.prog W 0 (fun _ => true) true 42 v d p) :
    ∃ (ba : Option Addr) (bn bc : Nat) (bs : List Nat) (n : Ino) (ta : Option Addr) (tn tc : Nat) (ca : Option Addr) (cn cc : Nat) (cs : List Nat), v = .agg #[.slice ba bn bc, .int .u8 (n.ki : Int), .int .u16 (n.ln : Int), .int .u32 (n.sz : Int), .int .u32 (n.d0 : Int), .int .u32 (n.d1 : Int), .int .u32 (n.d2 : Int), .int .u32 (n.d3 : Int), .int .u32 (n.d4 : Int), .int .u32 (n.d5 : Int), .int .u32 (n.d6 : Int), .int .u32 (n.d7 : Int), .int .u32 (n.si : Int), .int .u32 (n.db : Int), .slice ta tn tc, .slice ca cn cc] ∧ DOk ba bn bc bs n ta tn ca cn cc cs W := by
  obtain ⟨cs, rfl, hsz⟩ := okWide_struct Try.underlying42 hv
  obtain ⟨fuel, hf⟩ := h
  have hc : Try.prog.cellsOf 42 = 16 := by kernel_rfl
  rw [hc] at hsz
  obtain ⟨v0, v1, v2, v3, v4, v5, v6, v7, v8, v9, v10, v11, v12, v13, v14, v15, hl⟩ := listS16 (l := cs.toList) (by simpa using hsz)
  obtain ⟨l⟩ := cs
  simp only at hl
  subst hl
  obtain ⟨m, _, hg⟩ := fieldS_in Try.underlying42 hf
  have ks : Try.prog.cellsOf 27 = 1 := by kernel_rfl
  have kn : Try.prog.cellsOf 26 = 13 := by kernel_rfl
  have kt : Try.prog.cellsOf 40 = 1 := by kernel_rfl
  obtain ⟨y0, h0⟩ := hg 0 27 0 rfl
  obtain ⟨y1, h1⟩ := hg 1 26 1 rfl
  obtain ⟨y2, h2⟩ := hg 2 40 14 rfl
  obtain ⟨y3, h3⟩ := hg 3 27 15 rfl
  simp only [Value.cells, ks, kn, kt, List.drop_zero, List.drop_succ_cons, List.take_succ_cons, List.take_zero] at h0 h1 h2 h3
  obtain ⟨ba, bn, bc, bs, rfl, hb⟩ := pageS_in h0
  obtain ⟨n, hn, hfn⟩ := inoCells_in h1
  obtain ⟨ta, tn, tc, rfl, ht⟩ := rowE_in h2
  obtain ⟨ca, cn, cc, cs, rfl, hcc⟩ := pageS_in h3
  simp only [Ino.cl, List.cons.injEq, and_true] at hn
  obtain ⟨rfl, rfl, rfl, rfl, rfl, rfl, rfl, rfl, rfl, rfl, rfl, rfl, rfl⟩ := hn
  exact ⟨ba, bn, bc, bs, n, ta, tn, tc, ca, cn, cc, cs, rfl, ⟨hb, hfn, ht, hcc⟩⟩
end
end Go.Proofs.Ytnnaijeapapehaa
