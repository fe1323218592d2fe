/- A list of items that comes in. -/
import Derived.Test.YtejhdafipjajnaaItems
import Derived.Deep.Strs
namespace Go.Proofs.Ytejhdafipjajnaa
open Go.ChangeShapes Go.WideShapes Go.ChangeAt Go.RowKit Go.Deep

theorem add_at (b off i j : Nat) : (((⟨b, off, none⟩ : Addr).add i).add j) = ⟨b, off + i + j, none⟩ := by
  unfold Addr.add
  split <;> split <;> simp_all <;> omega
theorem three {α : Type} {l : List α} (h : l.length = 3) : ∃ x y z, l = [x, y, z] := by
  match l, h with
  | [x, y, z], _ => exact ⟨x, y, z, rfl⟩
theorem wfb_i64 (n : Int) (h : (Lit.int .i64 n).wf = true) : -9223372036854775808 ≤ n ∧ n ≤ 9223372036854775807 := by
  have hm : IntKind.i64.min = -9223372036854775808 := by decide
  have hM : IntKind.i64.max = 9223372036854775807 := by decide
  simp [Lit.wf, hm, hM] at h; omega
section
variable {H : Type} {enc : TypeId × Value → H} {W : World} {v : Value} {d : DataW H} {p : List MemPlace} {base : Nat}
/-- One item, out of its three cells. -/
theorem item_in {n : Nat} {cs : List Value} {x : DataW H × List MemPlace} (h : DataW.trod enc Try.prog W 0 (fun _ => true) true n 31 cs = some x) (hl : cs.length = 3) :
    ∃ (k : Int) (m : Nat) (a : Option Addr) (l c : Nat) (bs : List Nat), cs = [.int .i64 k, .int .u64 (m : Int), .slice a l c] ∧ (-9223372036854775808 ≤ k ∧ k ≤ 9223372036854775807) ∧ m < 18446744073709551616 ∧ InK .u8 256 W a l c bs := by
  obtain ⟨v0, v1, v2, rfl⟩ := three hl
  obtain ⟨y0, y1, y2, n', _, _, h0, h1, h2⟩ := trod_struct3 Try.underlying31 h
  have c3 : Try.prog.cellsOf 3 = 1 := by kernel_rfl
  have c30 : Try.prog.cellsOf 29 = 1 := by kernel_rfl
  have c26 : Try.prog.cellsOf 26 = 1 := by kernel_rfl
  simp only [c3, c30, c26, List.drop_zero, List.drop_succ_cons, List.take_succ_cons, List.take_zero] at h0 h1 h2
  obtain ⟨k, e0, _, wk⟩ := DataW.trod_int Try.underlying3 h0
  obtain ⟨m, e1, _, wm⟩ := DataW.trod_int Try.underlying29 h1
  obtain ⟨a, l, c, bs, e2, hin, _⟩ := ints_in Try.underlying26 Try.underlying5 (by kernel_rfl) wfb_u8 h2
  have hm := wfb_u64 m wm
  simp only [List.cons.injEq, and_true] at e0 e1
  refine ⟨k, m.toNat, a, l, c, bs, ?_, wfb_i64 k wk, by omega, hin⟩
  rw [e0, e1, e2, show ((m.toNat : Nat) : Int) = m by omega]
theorem items_in (hv : Value.okWide Try.prog W .any base 22 v) (h : DataW.Trod enc Try.prog W 0 (fun _ => true) true 22 v d p) :
    ∃ a n cap K N A L C B, v = .slice a n cap ∧ InItems W a n cap K N A L C B := by
  obtain ⟨a, n, cap, rfl⟩ := okWide_slice Try.underlying22 hv
  obtain ⟨fuel, hf⟩ := h
  rcases open_slice Try.underlying22 hf with ⟨hcs, _⟩ | ⟨x, len, cap', m, n', D, Pl, hcs, _, hl, hm, hmm, _, hx⟩
  · simp [Value.cells] at hcs
    obtain ⟨rfl, rfl, rfl⟩ := hcs
    exact ⟨_, _, _, fun _ => 0, fun _ => 0, fun _ => none, fun _ => 0, fun _ => 0, fun _ => [], rfl, Nat.le_refl _, Nat.zero_le _, fun h => by omega, fun i hi => by omega⟩
  · simp [Value.cells] at hcs
    obtain ⟨rfl, rfl, rfl⟩ := hcs
    have c32 : Try.prog.cellsOf 31 = 3 := by kernel_rfl
    rw [c32] at hx
    have hmc : m = cap := by simpa using hmm
    have each : ∀ i, i < n → ∃ z : Int × Nat × Option Addr × Nat × Nat × List Nat, (W.cell? ((x.add (i * 3)).add 0) = some (.int .i64 z.1) ∧ W.cell? ((x.add (i * 3)).add 1) = some (.int .u64 (z.2.1 : Int)) ∧ W.cell? ((x.add (i * 3)).add 2) = some (.slice z.2.2.1 z.2.2.2.1 z.2.2.2.2.1)) ∧
        (-9223372036854775808 ≤ z.1 ∧ z.1 ≤ 9223372036854775807) ∧ z.2.1 < 18446744073709551616 ∧ InK .u8 256 W z.2.2.1 z.2.2.2.1 z.2.2.2.2.1 z.2.2.2.2.2 := by
      intro i hi
      obtain ⟨cs', hc, ht⟩ := hx i (by omega)
      obtain ⟨_, hcl, hat⟩ := World.cells?_some hc
      obtain ⟨k, q, a', l', c', bs, rfl, hk, hq, hin⟩ := item_in ht hcl
      exact ⟨(k, q, a', l', c', bs), ⟨hat 0 (by omega), hat 1 (by omega), hat 2 (by omega)⟩, hk, hq, hin⟩
    obtain ⟨f, hf2⟩ := choose_lt each
    refine ⟨_, _, _, fun i => (f i).1, fun i => (f i).2.1, fun i => (f i).2.2.1, fun i => (f i).2.2.2.1, fun i => (f i).2.2.2.2.1, fun i => (f i).2.2.2.2.2, rfl, hl, hm, fun h0 => ?_, fun i hi => (hf2 i hi).2⟩
    obtain ⟨b, off, spot⟩ := x
    have hspot : spot = none := by
      have h1 := (hf2 0 h0).1.1
      have h2 := World.cell?_spot h1
      simpa [Addr.add] using h2
    subst hspot
    refine ⟨b, off, rfl, fun i hi => ?_⟩
    have h1 := (hf2 i hi).1
    rw [add_at, add_at, add_at] at h1
    exact h1
end

end Go.Proofs.Ytejhdafipjajnaa
