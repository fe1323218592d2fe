/- Segments, and ints, that come in. -/
import Derived.Test.YtjimgbeockfpmaaFrame
import Derived.Test.YtjimgbeockfpmaaWearF
import Derived.Deep.Strs
import Derived.Deep.Slices
namespace Go.Proofs.Ytjimgbeockfpmaa
open Go.ChangeShapes Go.WideShapes Go.ChangeAt Go.RowKit Go.Deep

instance : Inhabited SegV := ⟨SegV.nil⟩
theorem wfg_u32 {x : Int} (h : (Lit.int .u32 x).wf = true) : ∃ n : Nat, x = (n : Int) ∧ n < 4294967296 := by
  have hm : IntKind.u32.min = 0 := by decide
  have hM : IntKind.u32.max = 4294967295 := by decide
  simp [Lit.wf, hm, hM] at h
  exact ⟨x.toNat, by omega, by omega⟩
theorem three_list {α : Type} {l : List α} (h : l.length = 3) : ∃ a b c, l = [a, b, c] := by
  match l, h with
  | [a, b, c], _ => exact ⟨a, b, c, rfl⟩
theorem addG_at (b off i j : Nat) : (((⟨b, off, none⟩ : Addr).add i).add j) = ⟨b, off + i + j, none⟩ := by
  unfold Addr.add
  split <;> split <;> simp_all <;> omega
theorem rangeG (f : Nat → SegV) (len i : Nat) (h : i < len) : ((List.range len).map f).getD i SegV.nil = f i := by
  simp [List.getD, h]
section
variable {H : Type} {enc : TypeId × Value → H} {W : World} {v : Value} {d : DataW H} {p : List MemPlace} {base : Nat}
theorem fieldG_in {fs : Array Field} {fuel : Nat} {t : TypeId} {cs : List Value} {x : DataW H × List MemPlace} (ht : Try.prog.underlying t = some (.struct fs)) (h : DataW.trod enc Try.prog W 0 (fun _ => true) true fuel t cs = some x) :
    ∃ n, cs.length = Try.prog.cellsOf t ∧ ∀ (j : Nat) (ty : TypeId) (off : Nat), (fs[j]?).map (fun f => (f.type, f.offset)) = some (ty, off) → ∃ y, DataW.trod enc Try.prog W 0 (fun _ => true) true n ty ((cs.drop off).take (Try.prog.cellsOf ty)) = some y := by
  obtain ⟨xs, n, _, rfl, hl, hlen, hf⟩ := DataW.trod_struct ht h
  refine ⟨n, hl, fun j ty off hj => ?_⟩
  cases hfj : fs[j]? with
  | none => rw [hfj] at hj; cases hj
  | some f =>
    rw [hfj] at hj
    simp only [Option.map_some, Option.some.injEq, Prod.mk.injEq] at hj
    obtain ⟨rfl, rfl⟩ := hj
    have h1 := hf j f hfj
    have hjl : j < fs.size := (Array.getElem?_eq_some_iff.1 hfj).1
    have h2 : xs[j]? = some (xs[j]'(by omega)) := List.getElem?_eq_getElem (by omega)
    exact ⟨_, h1.trans h2⟩
theorem seg_in {n : Nat} {cs : List Value} {x : DataW H × List MemPlace} (h : DataW.trod enc Try.prog W 0 (fun _ => true) true n 33 cs = some x) :
    ∃ s : SegV, cs = [.int .i64 s.k, .int .i64 s.l, .int .u32 (s.e : Int)] ∧ s.e < 4294967296 := by
  obtain ⟨n, hl, hg⟩ := fieldG_in Try.underlying33 h
  have hc : Try.prog.cellsOf 33 = 3 := by kernel_rfl
  rw [hc] at hl
  obtain ⟨c0, c1, c2, rfl⟩ := three_list hl
  have ki : Try.prog.cellsOf 3 = 1 := by kernel_rfl
  have ku : Try.prog.cellsOf 31 = 1 := by kernel_rfl
  obtain ⟨y0, h0⟩ := hg 0 3 0 rfl
  obtain ⟨y1, h1⟩ := hg 1 3 1 rfl
  obtain ⟨y2, h2⟩ := hg 2 31 2 rfl
  simp only [ki, ku, List.drop_zero, List.drop_succ_cons, List.take_succ_cons, List.take_zero] at h0 h1 h2
  obtain ⟨x0, e0, _, _⟩ := DataW.trod_int Try.underlying3 h0
  obtain ⟨x1, e1, _, _⟩ := DataW.trod_int Try.underlying3 h1
  obtain ⟨x2, e2, _, w2⟩ := DataW.trod_int Try.underlying31 h2
  obtain ⟨n2, rfl, l2⟩ := wfg_u32 w2
  simp only [List.cons.injEq, and_true] at e0 e1 e2
  subst e0 e1 e2
  exact ⟨⟨x0, x1, n2⟩, rfl, l2⟩
set_option maxRecDepth 100000 in
theorem segs_in4 (hv : Value.okWide Try.prog W .any base 22 v) (h : DataW.Trod enc Try.prog W 0 (fun _ => true) true 22 v d p) :
    ∃ a len cap G, v = .slice a len cap ∧ (RowG W a len G ∧ len ≤ cap ∧ cap ≤ maxLen ∧ (a = none → cap = 0)) := by
  obtain ⟨a, len, cap, rfl⟩ := okWide_slice Try.underlying22 hv
  obtain ⟨fuel, hf⟩ := h
  rcases open_slice Try.underlying22 hf with ⟨hcs, _⟩ | ⟨x, l, c, m, n', D, Pl, hcs, _, hl, hm, hmm, _, hx⟩
  · simp [Value.cells] at hcs
    obtain ⟨rfl, rfl, rfl⟩ := hcs
    exact ⟨_, _, _, [], rfl, ⟨rfl, by simp, fun h => by omega⟩, Nat.le_refl _, by unfold maxLen; omega, fun _ => rfl⟩
  · simp [Value.cells] at hcs
    obtain ⟨rfl, rfl, rfl⟩ := hcs
    have c3 : Try.prog.cellsOf 33 = 3 := by kernel_rfl
    rw [c3] at hx
    have hmc : m = cap := by simpa using hmm
    have each : ∀ i, i < len → ∃ z : SegV, (W.cell? ((x.add (i * 3)).add 0) = some (.int .i64 z.k) ∧ W.cell? ((x.add (i * 3)).add 1) = some (.int .i64 z.l) ∧ W.cell? ((x.add (i * 3)).add 2) = some (.int .u32 (z.e : Int))) ∧ z.e < 4294967296 := by
      intro i hi
      obtain ⟨cs', hc, ht⟩ := hx i (by omega)
      obtain ⟨_, hcl, hat⟩ := World.cells?_some hc
      obtain ⟨o, rfl, ho⟩ := seg_in ht
      exact ⟨o, ⟨hat 0 (by omega), hat 1 (by omega), hat 2 (by omega)⟩, ho⟩
    obtain ⟨f, hf2⟩ := choose_lt each
    refine ⟨_, _, _, (List.range len).map f, rfl, ⟨by simp, fun s hs => ?_, fun h0 => ?_⟩, hl, hm, fun h => by cases h⟩
    · rw [List.mem_map] at hs
      obtain ⟨i, hi, rfl⟩ := hs
      exact (hf2 i (List.mem_range.1 hi)).2
    obtain ⟨b, off, spot⟩ := x
    have hspot : spot = none := by
      have h1 := (hf2 0 h0).1.1
      have h2 := World.cell?_spot h1
      simpa [Addr.add] using h2
    subst hspot
    refine ⟨b, off, rfl, fun i hi => ?_⟩
    have h1 := (hf2 i hi).1
    rw [addG_at, addG_at, addG_at] at h1
    rw [rangeG f len i hi]
    exact h1
theorem segs_in (hv : Value.okWide Try.prog W .any base 22 v) (h : DataW.Trod enc Try.prog W 0 (fun _ => true) true 22 v d p) :
    ∃ a len cap G, v = .slice a len cap ∧ (RowG W a len G ∧ len ≤ cap ∧ cap ≤ maxLen) := by
  obtain ⟨a, len, cap, G, h1, h2, h3, h4, _⟩ := segs_in4 hv h
  exact ⟨a, len, cap, G, h1, h2, h3, h4⟩
/-- Ints that come in. -/
def RowZ (w : World) (a : Option Addr) (len : Nat) (zs : List Int) : Prop :=
  zs.length = len ∧ (∀ z ∈ zs, -9223372036854775808 ≤ z ∧ z ≤ 9223372036854775807) ∧ (0 < len → ∃ b off, a = some ⟨b, off, none⟩ ∧ ∀ i, i < len → w.cell? ⟨b, off + i, none⟩ = some (.int .i64 (zs.getD i 0)))
theorem ints_in (hv : Value.okWide Try.prog W .any base 29 v) (h : DataW.Trod enc Try.prog W 0 (fun _ => true) true 29 v d p) :
    ∃ a len cap zs, v = .slice a len cap ∧ (RowZ W a len zs ∧ len ≤ cap ∧ cap ≤ maxLen) := by
  obtain ⟨a, len, cap, rfl⟩ := okWide_slice Try.underlying29 hv
  obtain ⟨fuel, hf⟩ := h
  rcases open_ints Try.underlying29 Try.underlying3 (by kernel_rfl) hf with ⟨hcs, _⟩ | ⟨x, l, c, zs, hcs, _, hl, hm, hz, _, hcell, hwz⟩
  · simp [Value.cells] at hcs
    obtain ⟨rfl, rfl, rfl⟩ := hcs
    exact ⟨_, _, _, [], rfl, ⟨rfl, by simp, fun h => by omega⟩, Nat.le_refl _, by unfold maxLen; omega⟩
  · simp [Value.cells] at hcs
    obtain ⟨rfl, rfl, rfl⟩ := hcs
    have hz' : zs.length = cap := by simpa using hz
    refine ⟨_, _, _, zs.take len, rfl, ⟨by simp; omega, fun z hzm => ?_, fun h0 => ?_⟩, hl, hm⟩
    · have h := hwz z (List.mem_of_mem_take hzm)
      have hm : IntKind.i64.min = -9223372036854775808 := by decide
      have hM : IntKind.i64.max = 9223372036854775807 := by decide
      simp [Lit.wf, hm, hM] at h
      omega
    · obtain ⟨b, off, spot⟩ := x
      have hc := hcell 0 (by omega)
      have hspot : spot = none := by simpa [Addr.add] using World.cell?_spot hc
      subst hspot
      refine ⟨b, off, rfl, fun i hi => ?_⟩
      have hci := hcell i (by omega)
      have e : (zs.take len).getD i 0 = zs.getD i 0 := by
        rw [List.getD, List.getD, List.getElem?_take_of_lt hi]
      rw [e, ← hci]
      congr 1
      unfold Addr.add
      split
      · rename_i h; subst h; simp
      · rfl
end
end Go.Proofs.Ytjimgbeockfpmaa
