/- Points that come in. -/
import Derived.Test.YthgcjiocelcblaaGreatK05
import Derived.Test.YthgcjiocelcblaaGreatK44
import Derived.Test.YthgcjiocelcblaaGreatM03
import Derived.Deep.Slices
namespace Go.Proofs.YthgcjiocelcblaaGreat
open Go.ChangeShapes Go.WideShapes Go.ChangeAt Go.RowKit Go.Deep

section
variable {H : Type} {enc : TypeId × Value → H} {W : World} {v : Value} {d : DataW H} {p : List MemPlace} {base : Nat}
theorem listW4 {α : Type} {l : List α} (h : l.length = 4) : ∃ a0 a1 a2 a3, l = [a0, a1, a2, a3] := by
  match l, h with
  | [a0, a1, a2, a3], _ => exact ⟨a0, a1, a2, a3, rfl⟩
theorem addW_at (b off i j : Nat) : (((⟨b, off, none⟩ : Addr).add i).add j) = ⟨b, off + i + j, none⟩ := by
  unfold Addr.add
  split <;> split <;> simp_all <;> omega
set_option maxRecDepth 100000 in
theorem pt_listw_in {fuel : Nat} {cs : List Value} {y : DataW H × List MemPlace} (hf : DataW.trod enc Tryz.prog W 0 (fun _ => true) true fuel 25 cs = some y) :
    ∃ p : PT, cs = [.int .u32 (p.sq : Int), .int .u32 (p.ba : Int), .slice p.ma p.mn p.mc, .slice p.ea p.en p.ec] ∧ PT.Ok p W := by
  obtain ⟨n, hl, hg⟩ := fieldS_in Tryz.underlying25 hf
  have hc : Tryz.prog.cellsOf 25 = 4 := by kernel_rfl
  rw [hc] at hl
  obtain ⟨v0, v1, v2, v3, rfl⟩ := listW4 hl
  have kb : Tryz.prog.cellsOf 22 = 1 := by kernel_rfl
  have ks : Tryz.prog.cellsOf 23 = 1 := by kernel_rfl
  obtain ⟨y0, h0⟩ := hg 0 22 0 rfl
  obtain ⟨y1, h1⟩ := hg 1 22 1 rfl
  obtain ⟨y2, h2⟩ := hg 2 23 2 rfl
  obtain ⟨y3, h3⟩ := hg 3 23 3 rfl
  simp only [kb, ks, List.drop_zero, List.drop_succ_cons, List.take_succ_cons, List.take_zero] at h0 h1 h2 h3
  obtain ⟨z0, e0, _, w0⟩ := DataW.trod_int Tryz.underlying22 h0
  obtain ⟨z1, e1, _, w1⟩ := DataW.trod_int Tryz.underlying22 h1
  obtain ⟨a, la, ca, xs, rfl, i2, -⟩ := ints_in Tryz.underlying23 Tryz.underlying22 (by kernel_rfl) wfb_u32 h2
  obtain ⟨b, lb, cb, ys, rfl, i3, -⟩ := ints_in Tryz.underlying23 Tryz.underlying22 (by kernel_rfl) wfb_u32 h3
  obtain ⟨n0, rfl, l0⟩ := wfS_u32 w0
  obtain ⟨n1, rfl, l1⟩ := wfS_u32 w1
  simp only [List.cons.injEq, and_true] at e0 e1
  subst e0 e1
  exact ⟨⟨n0, n1, a, la, ca, xs, b, lb, cb, ys⟩, rfl, l0, l1, i2.1, i3.1⟩
set_option maxRecDepth 100000 in
theorem pts_in (hv : Value.okWide Tryz.prog W .any base 47 v) (h : DataW.Trod enc Tryz.prog W 0 (fun _ => true) true 47 v d p) :
    ∃ a len cap P, v = .slice a len cap ∧ PtsIn W a len P := by
  obtain ⟨a, len, cap, rfl⟩ := okWide_slice Tryz.underlying47 hv
  obtain ⟨fuel, hf⟩ := h
  rcases open_slice Tryz.underlying47 hf with ⟨hcs, _⟩ | ⟨x, l, c, m, n', D, Pl, hcs, _, hl, hm, hmm, _, hx⟩
  · simp [Value.cells] at hcs
    obtain ⟨rfl, rfl, rfl⟩ := hcs
    exact ⟨_, _, _, fun _ => ptZero, rfl, ⟨fun h => by omega, fun i hi => by omega⟩⟩
  · simp [Value.cells] at hcs
    obtain ⟨rfl, rfl, rfl⟩ := hcs
    have c3 : Tryz.prog.cellsOf 25 = 4 := by kernel_rfl
    rw [c3] at hx
    have hmc : m = cap := by simpa using hmm
    have each : ∀ i, i < len → ∃ z : PT, (W.cell? ((x.add (i * 4)).add 0) = some (.int .u32 (z.sq : Int)) ∧ W.cell? ((x.add (i * 4)).add 1) = some (.int .u32 (z.ba : Int)) ∧ W.cell? ((x.add (i * 4)).add 2) = some (.slice z.ma z.mn z.mc) ∧ W.cell? ((x.add (i * 4)).add 3) = some (.slice z.ea z.en z.ec)) ∧ PT.Ok z W := by
      intro i hi
      obtain ⟨cs', hc, ht⟩ := hx i (by omega)
      obtain ⟨_, hcl, hat⟩ := World.cells?_some hc
      obtain ⟨o, rfl, ho⟩ := pt_listw_in ht
      exact ⟨o, ⟨hat 0 (by omega), hat 1 (by omega), hat 2 (by omega), hat 3 (by omega)⟩, ho⟩
    obtain ⟨f, hf2⟩ := @choose_lt PT ⟨ptZero⟩ _ _ each
    refine ⟨_, _, _, f, rfl, ⟨fun h0 => ?_, fun i hi => (hf2 i hi).2⟩⟩
    obtain ⟨b, off, spot⟩ := x
    have hspot : spot = none := by
      have h1 := (hf2 0 h0).1.1
      have h2 := World.cell?_spot h1
      simpa [Addr.add] using h2
    subst hspot
    refine ⟨b, off, rfl, fun i hi => ?_⟩
    have h1 := (hf2 i hi).1
    rw [addW_at, addW_at, addW_at, addW_at] at h1
    exact h1
end
theorem pointWrites_all (z : Int) (a : Option Addr) (n c : Nat) (P : Nat → PT) (d : Int) (w : World) (_ : (Lit.int .i64 z).wf = true) (hP : PtsIn w a n P) (hd : (Lit.int .i64 d).wf = true) :
    Calls Tryz.prog 5 #[.int .i64 z, .slice a n c, .int .i64 d] w fun e w' => e = .returned (.bool true) ∧ Below w.heap.size w w' :=
  pointWrites_any z d a n c P w hP (by
    have hM : IntKind.i64.max = 9223372036854775807 := by decide
    simp [Lit.wf, hM] at hd
    omega)
end Go.Proofs.YthgcjiocelcblaaGreat
