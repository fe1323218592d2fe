/- Entries that come in. -/
import Derived.Test.YtdpkinppkhnjkaaFrame
import Derived.Test.YtdpkinppkhnjkaaDnP
import Derived.Deep.Strs
import Derived.Deep.Slices
namespace Go.Proofs.Ytdpkinppkhnjkaa
open Go.ChangeShapes Go.WideShapes Go.ChangeAt Go.RowKit Go.Deep

theorem wfd_u32 {x : Int} (h : (Lit.int .u32 x).wf = true) : ∃ n : Nat, x = (n : Int) ∧ n < 4294967296 := by
  have hm : IntKind.u32.min = 0 := by decide
  have hM : IntKind.u32.max = 4294967295 := by decide
  simp [Lit.wf, hm, hM] at h
  exact ⟨x.toNat, by omega, by omega⟩
theorem two_list {α : Type} {l : List α} (h : l.length = 2) : ∃ a b, l = [a, b] := by
  match l, h with
  | [a, b], _ => exact ⟨a, b, rfl⟩
theorem addD_at (b off i j : Nat) : (((⟨b, off, none⟩ : Addr).add i).add j) = ⟨b, off + i + j, none⟩ := by
  unfold Addr.add
  split <;> split <;> simp_all <;> omega
theorem rangeD (f : Nat → Nat × ByteArray) (len i : Nat) (h : i < len) : ((List.range len).map f).getD i ent0 = f i := by
  simp [List.getD, h]
section
variable {H : Type} {enc : TypeId × Value → H} {W : World} {v : Value} {d : DataW H} {p : List MemPlace} {base : Nat}
theorem fieldD_in {fs : Array Field} {fuel : Nat} {t : TypeId} {cs : List Value} {x : DataW H × List MemPlace} (ht : Try.prog.underlying t = some (.struct fs)) (h : DataW.trod enc Try.prog W 0 (fun _ => true) true fuel t cs = some x) :
    ∃ n, cs.length = Try.prog.cellsOf t ∧ ∀ (j : Nat) (ty : TypeId) (off : Nat), (fs[j]?).map (fun f => (f.type, f.offset)) = some (ty, off) → ∃ y, DataW.trod enc Try.prog W 0 (fun _ => true) true n ty ((cs.drop off).take (Try.prog.cellsOf ty)) = some y := by
  obtain ⟨xs, n, _, rfl, hl, hlen, hf⟩ := DataW.trod_struct ht h
  refine ⟨n, hl, fun j ty off hj => ?_⟩
  cases hfj : fs[j]? with
  | none => rw [hfj] at hj; cases hj
  | some f =>
    rw [hfj] at hj
    simp only [Option.map_some, Option.some.injEq, Prod.mk.injEq] at hj
    obtain ⟨rfl, rfl⟩ := hj
    have h1 := hf j f hfj
    have hjl : j < fs.size := (Array.getElem?_eq_some_iff.1 hfj).1
    have h2 : xs[j]? = some (xs[j]'(by omega)) := List.getElem?_eq_getElem (by omega)
    exact ⟨_, h1.trans h2⟩
theorem ent_in {n : Nat} {cs : List Value} {x : DataW H × List MemPlace} (h : DataW.trod enc Try.prog W 0 (fun _ => true) true n 26 cs = some x) :
    ∃ (nd : Nat) (s : ByteArray), cs = [.int .u32 (nd : Int), .string s] ∧ nd < 4294967296 := by
  obtain ⟨n, hl, hg⟩ := fieldD_in Try.underlying26 h
  have hc : Try.prog.cellsOf 26 = 2 := by kernel_rfl
  rw [hc] at hl
  obtain ⟨c0, c1, rfl⟩ := two_list hl
  have ki : Try.prog.cellsOf 9 = 1 := by kernel_rfl
  have ku : Try.prog.cellsOf 24 = 1 := by kernel_rfl
  obtain ⟨y0, h0⟩ := hg 0 24 0 rfl
  obtain ⟨y1, h1⟩ := hg 1 9 1 rfl
  simp only [ki, ku, List.drop_zero, List.drop_succ_cons, List.take_succ_cons, List.take_zero] at h0 h1
  obtain ⟨x0, e0, _, w0⟩ := DataW.trod_int Try.underlying24 h0
  obtain ⟨n0, rfl, l0⟩ := wfd_u32 w0
  obtain ⟨s, e1, _, _⟩ := DataW.trod_string Try.underlying9 h1
  simp only [List.cons.injEq, and_true] at e0 e1
  subst e0 e1
  exact ⟨n0, s, rfl, l0⟩
set_option maxRecDepth 100000 in
theorem ents_in (hv : Value.okWide Try.prog W .any base 22 v) (h : DataW.Trod enc Try.prog W 0 (fun _ => true) true 22 v d p) :
    ∃ a len cap L, v = .slice a len cap ∧ (RowD W a len L ∧ len ≤ maxLen) := by
  obtain ⟨a, len, cap, rfl⟩ := okWide_slice Try.underlying22 hv
  obtain ⟨fuel, hf⟩ := h
  rcases open_slice Try.underlying22 hf with ⟨hcs, _⟩ | ⟨x, l, c, m, n', D, Pl, hcs, _, hl, hm, hmm, _, hx⟩
  · simp [Value.cells] at hcs
    obtain ⟨rfl, rfl, rfl⟩ := hcs
    exact ⟨_, _, _, [], rfl, ⟨rfl, by simp, fun h => by omega⟩, by unfold maxLen; omega⟩
  · simp [Value.cells] at hcs
    obtain ⟨rfl, rfl, rfl⟩ := hcs
    have c3 : Try.prog.cellsOf 26 = 2 := by kernel_rfl
    rw [c3] at hx
    have hmc : m = cap := by simpa using hmm
    have each : ∀ i, i < len → ∃ z : Nat × ByteArray, (W.cell? ((x.add (i * 2)).add 0) = some (.int .u32 (z.1 : Int)) ∧ W.cell? ((x.add (i * 2)).add 1) = some (.string z.2)) ∧ z.1 < 4294967296 := by
      intro i hi
      obtain ⟨cs', hc, ht⟩ := hx i (by omega)
      obtain ⟨_, hcl, hat⟩ := World.cells?_some hc
      obtain ⟨nd, s, rfl, ho⟩ := ent_in ht
      exact ⟨(nd, s), ⟨hat 0 (by omega), hat 1 (by omega)⟩, ho⟩
    obtain ⟨f, hf2⟩ := choose_lt each
    refine ⟨_, _, _, (List.range len).map f, rfl, ⟨by simp, fun s hs => ?_, fun h0 => ?_⟩, by omega⟩
    · rw [List.mem_map] at hs
      obtain ⟨i, hi, rfl⟩ := hs
      exact (hf2 i (List.mem_range.1 hi)).2
    obtain ⟨b, off, spot⟩ := x
    have hspot : spot = none := by
      have h1 := (hf2 0 h0).1.1
      have h2 := World.cell?_spot h1
      simpa [Addr.add] using h2
    subst hspot
    refine ⟨b, off, rfl, fun i hi => ?_⟩
    have h1 := (hf2 i hi).1
    rw [addD_at, addD_at] at h1
    rw [rangeD f len i hi]
    exact h1
end
end Go.Proofs.Ytdpkinppkhnjkaa
