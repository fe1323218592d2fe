/- NandKeeps' own input. -/
import Derived.Test.YtbfmpcomjmcfjaaFrame
import Derived.Test.YtbfmpcomjmcfjaaQKeepsWalk
import Derived.Deep.Strs
import Derived.Deep.Slices
namespace Go.Proofs.Ytbfmpcomjmcfjaa
open Go.ChangeShapes Go.WideShapes Go.ChangeAt Go.RowKit Go.Deep
instance : Inhabited OpV := ⟨⟨0, 0, 0, 0, 0, false⟩⟩
theorem wfq_u8 {x : Int} (h : (Lit.int .u8 x).wf = true) : ∃ n : Nat, x = (n : Int) ∧ n < 256 := by
  have hm : IntKind.u8.min = 0 := by decide
  have hM : IntKind.u8.max = 255 := by decide
  simp [Lit.wf, hm, hM] at h
  exact ⟨x.toNat, by omega, by omega⟩
theorem addQ_at (b off i j : Nat) : (((⟨b, off, none⟩ : Addr).add i).add j) = ⟨b, off + i + j, none⟩ := by
  unfold Addr.add
  split <;> split <;> simp_all <;> omega
theorem six_list {α : Type} {l : List α} (h : l.length = 6) : ∃ a b c d e f, l = [a, b, c, d, e, f] := by
  match l, h with
  | [a, b, c, d, e, f], _ => exact ⟨a, b, c, d, e, f, rfl⟩
theorem four_list {α : Type} {l : List α} (h : l.length = 4) : ∃ a b c d, l = [a, b, c, d] := by
  match l, h with
  | [a, b, c, d], _ => exact ⟨a, b, c, d, rfl⟩
theorem lt_of_cell {w : World} {b o : Nat} {v : Value} (h : w.cell? ⟨b, o, none⟩ = some v) : b < w.heap.size := by
  rcases Nat.lt_or_ge b w.heap.size with q | q
  · exact q
  · simp [World.cell?, Array.getElem?_eq_none q] at h
section
variable {H : Type} {enc : TypeId × Value → H} {W : World} {v : Value} {d : DataW H} {p : List MemPlace} {base : Nat}
theorem fieldQ_in {fs : Array Field} {fuel : Nat} {t : TypeId} {cs : List Value} {x : DataW H × List MemPlace} (ht : Try.prog.underlying t = some (.struct fs)) (h : DataW.trod enc Try.prog W 0 (fun _ => true) true fuel t cs = some x) :
    ∃ n, cs.length = Try.prog.cellsOf t ∧ ∀ (j : Nat) (ty : TypeId) (off : Nat), (fs[j]?).map (fun f => (f.type, f.offset)) = some (ty, off) → ∃ y, DataW.trod enc Try.prog W 0 (fun _ => true) true n ty ((cs.drop off).take (Try.prog.cellsOf ty)) = some y := by
  obtain ⟨xs, n, _, rfl, hl, hlen, hf⟩ := DataW.trod_struct ht h
  refine ⟨n, hl, fun j ty off hj => ?_⟩
  cases hfj : fs[j]? with
  | none => rw [hfj] at hj; cases hj
  | some f =>
    rw [hfj] at hj
    simp only [Option.map_some, Option.some.injEq, Prod.mk.injEq] at hj
    obtain ⟨rfl, rfl⟩ := hj
    have h1 := hf j f hfj
    have hjl : j < fs.size := (Array.getElem?_eq_some_iff.1 hfj).1
    have h2 : xs[j]? = some (xs[j]'(by omega)) := List.getElem?_eq_getElem (by omega)
    exact ⟨_, h1.trans h2⟩
theorem op_in {n : Nat} {cs : List Value} {x : DataW H × List MemPlace} (h : DataW.trod enc Try.prog W 0 (fun _ => true) true n 43 cs = some x) :
    ∃ o : OpV, cs = [.int .i64 o.ki, .int .i64 o.ch, .int .i64 o.bl, .int .i64 o.pg, .int .u8 (o.dt : Int), .bool o.sh] ∧ o.dt < 256 := by
  obtain ⟨n, hl, hg⟩ := fieldQ_in Try.underlying43 h
  have hc : Try.prog.cellsOf 43 = 6 := by kernel_rfl
  rw [hc] at hl
  obtain ⟨c0, c1, c2, c3, c4, c5, rfl⟩ := six_list hl
  have ki : Try.prog.cellsOf 3 = 1 := by kernel_rfl
  have k8 : Try.prog.cellsOf 5 = 1 := by kernel_rfl
  have kb : Try.prog.cellsOf 4 = 1 := by kernel_rfl
  obtain ⟨y0, h0⟩ := hg 0 3 0 rfl
  obtain ⟨y1, h1⟩ := hg 1 3 1 rfl
  obtain ⟨y2, h2⟩ := hg 2 3 2 rfl
  obtain ⟨y3, h3⟩ := hg 3 3 3 rfl
  obtain ⟨y4, h4⟩ := hg 4 5 4 rfl
  obtain ⟨y5, h5⟩ := hg 5 4 5 rfl
  simp only [ki, k8, kb, List.drop_zero, List.drop_succ_cons, List.take_succ_cons, List.take_zero] at h0 h1 h2 h3 h4 h5
  obtain ⟨x0, e0, _, w0⟩ := DataW.trod_int Try.underlying3 h0
  obtain ⟨x1, e1, _, w1⟩ := DataW.trod_int Try.underlying3 h1
  obtain ⟨x2, e2, _, w2⟩ := DataW.trod_int Try.underlying3 h2
  obtain ⟨x3, e3, _, w3⟩ := DataW.trod_int Try.underlying3 h3
  obtain ⟨x4, e4, _, w4⟩ := DataW.trod_int Try.underlying5 h4
  obtain ⟨x5, e5, _⟩ := DataW.trod_bool Try.underlying4 h5
  obtain ⟨n4, rfl, l4⟩ := wfq_u8 w4
  simp only [List.cons.injEq, and_true] at e0 e1 e2 e3 e4 e5
  subst e0 e1 e2 e3 e4 e5
  exact ⟨⟨x0, x1, x2, x3, n4, x5⟩, rfl, l4⟩
set_option maxRecDepth 100000 in
theorem ops_list_in {fuel : Nat} {u : Value} {y : DataW H × List MemPlace} (hf : DataW.trod enc Try.prog W 0 (fun _ => true) true fuel 24 [u] = some y) : ∃ a len cap ops, u = .slice a len cap ∧ RowO W a len ops := by
  rcases open_slice Try.underlying24 hf with ⟨hcs, _⟩ | ⟨x, len, cap, m, n', D, Pl, hcs, _, hl, hm, hmm, _, hx⟩
  · simp at hcs
    subst hcs
    exact ⟨none, 0, 0, fun _ => default, rfl, Nat.zero_le _, fun _ => (by decide : (0 : Nat) < 256), fun h => by omega⟩
  · simp at hcs
    subst hcs
    have c6 : Try.prog.cellsOf 43 = 6 := by kernel_rfl
    rw [c6] at hx
    have hmc : m = cap := by simpa using hmm
    have each : ∀ i, i < len → ∃ z : OpV, (W.cell? ((x.add (i * 6)).add 0) = some (.int .i64 z.ki) ∧ W.cell? ((x.add (i * 6)).add 1) = some (.int .i64 z.ch) ∧ W.cell? ((x.add (i * 6)).add 2) = some (.int .i64 z.bl) ∧ W.cell? ((x.add (i * 6)).add 3) = some (.int .i64 z.pg) ∧ W.cell? ((x.add (i * 6)).add 4) = some (.int .u8 (z.dt : Int)) ∧ W.cell? ((x.add (i * 6)).add 5) = some (.bool z.sh)) ∧ z.dt < 256 := by
      intro i hi
      obtain ⟨cs', hc, ht⟩ := hx i (by omega)
      obtain ⟨_, hcl, hat⟩ := World.cells?_some hc
      obtain ⟨o, rfl, ho⟩ := op_in ht
      exact ⟨o, ⟨hat 0 (by omega), hat 1 (by omega), hat 2 (by omega), hat 3 (by omega), hat 4 (by omega), hat 5 (by omega)⟩, ho⟩
    obtain ⟨f, hf2⟩ := choose_lt each
    refine ⟨_, _, _, fun i => if i < len then f i else default, rfl, by omega, fun i => ?_, fun h0 => ?_⟩
    · show (if i < len then f i else default).dt < 256
      split
      · rename_i q; exact (hf2 i q).2
      · exact (by decide : (0 : Nat) < 256)
    obtain ⟨b, off, spot⟩ := x
    have hspot : spot = none := by
      have h1 := (hf2 0 h0).1.1
      have h2 := World.cell?_spot h1
      simpa [Addr.add] using h2
    subst hspot
    have h00 := (hf2 0 h0).1.1
    rw [addQ_at] at h00
    refine ⟨b, off, rfl, lt_of_cell h00, fun i hi => ?_⟩
    have h1 := (hf2 i hi).1
    rw [addQ_at, addQ_at, addQ_at, addQ_at, addQ_at, addQ_at] at h1
    show OpCells W b (off + i * 6) (if i < len then f i else default)
    rw [if_pos hi]
    exact h1
set_option maxRecDepth 100000 in
theorem keepsCase_in (hv : Value.okWide Try.prog W .any base 79 v) (h : DataW.Trod enc Try.prog W 0 (fun _ => true) true 79 v d p) :
    ∃ (x y : Int) (c : Nat) (a : Option Addr) (len cap : Nat) (ops : Nat → OpV), v = .agg #[.int .i64 x, .int .i64 y, .int .u8 (c : Int), .slice a len cap] ∧ (c < 256 ∧ RowO W a len ops) := by
  obtain ⟨cs, rfl, hsz⟩ := okWide_struct Try.underlying79 hv
  obtain ⟨fuel, hf⟩ := h
  have hc : Try.prog.cellsOf 79 = 4 := by kernel_rfl
  rw [hc] at hsz
  obtain ⟨v0, v1, v2, v3, hl⟩ := four_list (l := cs.toList) (by simpa using hsz)
  obtain ⟨l⟩ := cs
  simp only at hl
  subst hl
  obtain ⟨n, _, hg⟩ := fieldQ_in Try.underlying79 hf
  obtain ⟨y0, h0⟩ := hg 0 3 0 rfl
  obtain ⟨y1, h1⟩ := hg 1 3 1 rfl
  obtain ⟨y2, h2⟩ := hg 2 5 2 rfl
  obtain ⟨y3, h3⟩ := hg 3 24 3 rfl
  have ki : Try.prog.cellsOf 3 = 1 := by kernel_rfl
  have k8 : Try.prog.cellsOf 5 = 1 := by kernel_rfl
  have ks : Try.prog.cellsOf 24 = 1 := by kernel_rfl
  simp only [Value.cells, ki, k8, ks, List.drop_zero, List.drop_succ_cons, List.take_succ_cons, List.take_zero] at h0 h1 h2 h3
  obtain ⟨x, e0, _, _⟩ := DataW.trod_int Try.underlying3 h0
  obtain ⟨y, e1, _, _⟩ := DataW.trod_int Try.underlying3 h1
  obtain ⟨z, e2, _, w2⟩ := DataW.trod_int Try.underlying5 h2
  obtain ⟨c, rfl, hcl⟩ := wfq_u8 w2
  obtain ⟨a, len, cap, ops, rfl, hr⟩ := ops_list_in h3
  simp only [List.cons.injEq, and_true] at e0 e1 e2
  subst e0 e1 e2
  exact ⟨x, y, c, a, len, cap, ops, rfl, hcl, hr⟩
end
theorem nandKeeps_all (x y : Int) (c : Nat) (a : Option Addr) (len cap : Nat) (ops : Nat → OpV) (w : World) (h : c < 256 ∧ RowO w a len ops) :
    Calls Try.prog 7 #[.agg #[.int .i64 x, .int .i64 y, .int .u8 (c : Int), .slice a len cap]] w fun e w' => e = .returned (.bool true) ∧ Below w.heap.size w w' :=
  nandKeeps_walk x y c h.1 a len cap ops w h.2

end Go.Proofs.Ytbfmpcomjmcfjaa
