/- MemberParses' case comes in. -/
import Derived.Test.YtdljihemnfpkaaaFrame
import Derived.Test.YtdljihemnfpkaaaMemPlIn
import Derived.Test.YtdljihemnfpkaaaMemberParsesWalk
namespace Go.Proofs.Ytdljihemnfpkaaa
open Go.ChangeShapes Go.WideShapes Go.ChangeAt Go.RowKit Go.Deep

section
variable {H : Type} {enc : TypeId × Value → H} {W : World} {v : Value} {d : DataW H} {p : List MemPlace} {base : Nat}
theorem pageP_in {fuel : Nat} {u : Value} {y : DataW H × List MemPlace} (hf : DataW.trod enc Try.prog W 0 (fun _ => true) true fuel 34 [u] = some y) :
    ∃ a len cap bs, u = .slice a len cap ∧ InB W a len cap bs := by
  rcases open_ints Try.underlying34 Try.underlying5 (by kernel_rfl) hf with ⟨hcs, _⟩ | ⟨x, l, c, zs, hcs, _, hl, hm, hz, _, hcell, hwz⟩
  · simp at hcs
    subst hcs
    exact ⟨_, _, _, [], rfl, ⟨rfl, (fun x hx => by cases hx), (fun h => by omega)⟩, by omega, by unfold maxLen; omega, fun _ => rfl⟩
  · simp at hcs
    subst hcs
    exact ⟨_, _, _, _, rfl, row_of hl (by simpa using hz) hcell hwz, hl, hm, fun h => by cases h⟩
theorem intsP_in {fuel : Nat} {u : Value} {y : DataW H × List MemPlace} (hf : DataW.trod enc Try.prog W 0 (fun _ => true) true fuel 29 [u] = some y) :
    ∃ a len cap zs, u = .slice a len cap ∧ RowI W a len cap zs := by
  rcases open_ints Try.underlying29 Try.underlying3 (by kernel_rfl) hf with ⟨hcs, _⟩ | ⟨x, len, cap, zs, hcs, _, hl, hm, hz, _, hcell, hwz⟩
  · simp at hcs
    subst hcs
    exact ⟨_, _, _, [], rfl, ⟨rfl, Nat.le_refl _, by unfold maxLen; omega, fun _ => rfl, by simp, fun h => by omega⟩⟩
  · simp at hcs
    subst hcs
    have hz' : zs.length = cap := by simpa using hz
    refine ⟨_, _, _, zs.take len, rfl, ⟨by simp; omega, hl, hm, (fun h => by cases h), (fun z hzm => ?_), fun h0 => ?_⟩⟩
    · have h := hwz z (List.mem_of_mem_take hzm)
      have hm : IntKind.i64.min = -9223372036854775808 := by decide
      have hM : IntKind.i64.max = 9223372036854775807 := by decide
      simp [Lit.wf, hm, hM] at h
      omega
    · obtain ⟨b, off, spot⟩ := x
      have hc := hcell 0 (by omega)
      have hspot : spot = none := by simpa [Addr.add] using World.cell?_spot hc
      subst hspot
      refine ⟨b, off, rfl, fun i hi => ?_⟩
      have hci := hcell i (by omega)
      have e : (zs.take len).getD i 0 = zs.getD i 0 := by
        rw [List.getD, List.getD, List.getElem?_take_of_lt hi]
      rw [e, ← hci]
      congr 1
      unfold Addr.add
      split
      · rename_i h; subst h; simp
      · rfl
set_option maxRecDepth 100000 in
theorem parses_in (hv : Value.okWide Try.prog W .any base 47 v) (h : DataW.Trod enc Try.prog W 0 (fun _ => true) true 47 v d p) :
    ∃ (x0 x1 : Int) (aa : Option Addr) (an ac : Nat) (AS : List Int) (ca : Option Addr) (cn cc : Nat) (CS : List Nat) (re : Bool), v = .agg #[.int .i64 x0, .int .i64 x1, .slice aa an ac, .slice ca cn cc, .bool re] ∧ (RowI W aa an ac AS ∧ InB W ca cn cc CS) := by
  obtain ⟨cs, rfl, hsz⟩ := okWide_struct Try.underlying47 hv
  obtain ⟨fuel, hf⟩ := h
  have hc : Try.prog.cellsOf 47 = 5 := by kernel_rfl
  rw [hc] at hsz
  obtain ⟨v0, v1, v2, v3, v4, hl⟩ := listP5 (l := cs.toList) (by simpa using hsz)
  obtain ⟨l⟩ := cs
  simp only at hl
  subst hl
  obtain ⟨n, _, hg⟩ := fieldP_in Try.underlying47 hf
  have ki : Try.prog.cellsOf 3 = 1 := by kernel_rfl
  have kb : Try.prog.cellsOf 4 = 1 := by kernel_rfl
  have ks : Try.prog.cellsOf 34 = 1 := by kernel_rfl
  have kz : Try.prog.cellsOf 29 = 1 := by kernel_rfl
  obtain ⟨y0, h0⟩ := hg 0 3 0 rfl
  obtain ⟨y1, h1⟩ := hg 1 3 1 rfl
  obtain ⟨y2, h2⟩ := hg 2 29 2 rfl
  obtain ⟨y3, h3⟩ := hg 3 34 3 rfl
  obtain ⟨y4, h4⟩ := hg 4 4 4 rfl
  simp only [Value.cells, ki, kb, ks, kz, List.drop_zero, List.drop_succ_cons, List.take_succ_cons, List.take_zero] at h0 h1 h2 h3 h4
  obtain ⟨z0, e0, _, _⟩ := DataW.trod_int Try.underlying3 h0
  obtain ⟨z1, e1, _, _⟩ := DataW.trod_int Try.underlying3 h1
  obtain ⟨aa, an, ac, AS, rfl, hA⟩ := intsP_in h2
  obtain ⟨ca, cn, cc, CS, rfl, hB⟩ := pageP_in h3
  obtain ⟨z4, e4, _⟩ := DataW.trod_bool Try.underlying4 h4
  simp only [List.cons.injEq, and_true] at e0 e1 e4
  subst e0 e1 e4
  exact ⟨z0, z1, aa, an, ac, AS, ca, cn, cc, CS, z4, rfl, hA, hB⟩
end
theorem memberParses_all (x y : Int) (aa : Option Addr) (an ac : Nat) (AS : List Int) (ca : Option Addr) (cn cc : Nat) (CS : List Nat) (re : Bool) (w : World) (h : RowI w aa an ac AS ∧ InB w ca cn cc CS) :
    Calls Try.prog 4 #[.agg #[.int .i64 x, .int .i64 y, .slice aa an ac, .slice ca cn cc, .bool re]] w fun e w' => e = .returned (.bool true) ∧ Below w.heap.size w w' := by
  by_cases hb : 6 < an ∨ cn < an
  · exact memberParses_big x y aa an ac ca cn cc re w (Nat.le_trans h.1.2.1 h.1.2.2.1) (Nat.le_trans h.2.2.1 h.2.2.2.1) hb
  · exact memberParses_small x y aa an ac AS ca cn cc CS re w h.1 h.2.1 (Nat.le_trans h.2.2.1 h.2.2.2.1) (by omega) (by omega)
end Go.Proofs.Ytdljihemnfpkaaa
