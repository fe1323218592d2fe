/- Parts of the proof: Frame, FrameInts, Items, Sets, Ends, TakeB. -/
import Derived.Test.YthgcjiocelcblaaGreatRows
import Derived.Test.YthgcjiocelcblaaGreatK00
import Derived.WalkKit
import Derived.ProofKit
import Derived.OpenShut
import Derived.ShutString
import Derived.ChangeOld
import Derived.Below
import Derived.Test.YthgcjiocelcblaaGreatK01
import Derived.Lib.SmallJoins
import Derived.SizedLaws
import Derived.Test.YthgcjiocelcblaaGreatK04
import Derived.Deep.Slices
import Derived.Test.YthgcjiocelcblaaGreatK03
import Derived.Laws.Rows
namespace Go.Proofs.YthgcjiocelcblaaGreat
open Go.ChangeShapes Go.WideShapes Go.ChangeAt Go.RowKit

theorem own : ownKnob Tryz.prog.godebug = none := by kernel_rfl
theorem laidOut : laidOutB Tryz.prog = true := by kernel_rfl

theorem row_of {W : World} {x : Addr} {len cap : Nat} {zs : List Int} (hl : len ≤ cap) (hz : zs.length = cap)
    (hcell : ∀ i, i < zs.length → W.cell? (x.add i) = some (.int .u8 (zs.getD i 0))) (hwz : ∀ n ∈ zs, (Lit.int .u8 n).wf = true) :
    Row W (some x) len ((zs.take len).map Int.toNat) := by
  have hb : ∀ n ∈ zs, 0 ≤ n ∧ n < 256 := fun n hn => by
    have h := hwz n hn
    have hm : IntKind.u8.min = 0 := by decide
    have hM : IntKind.u8.max = 255 := by decide
    simp [Lit.wf, hm, hM] at h
    omega
  refine ⟨by simp; omega, ?_, fun h0 => ?_⟩
  · intro y hy
    rw [List.mem_map] at hy
    obtain ⟨n, hn, rfl⟩ := hy
    have := hb n (List.mem_of_mem_take hn)
    omega
  · obtain ⟨b, off, spot⟩ := x
    have hc := hcell 0 (by omega)
    have hspot : spot = none := by simpa [Addr.add] using World.cell?_spot hc
    subst hspot
    refine ⟨b, off, rfl, fun i hi => ?_⟩
    have hci := hcell i (by omega)
    have hn : i < zs.length := by omega
    have e : ((((zs.take len).map Int.toNat).getD i 0 : Nat) : Int) = zs.getD i 0 := by
      have h1 : (zs.take len)[i]? = some zs[i] := by rw [List.getElem?_take_of_lt hi]; exact List.getElem?_eq_getElem hn
      have h2 := hb zs[i] (List.getElem_mem hn)
      rw [List.getD, List.getD, List.getElem?_map, h1, List.getElem?_eq_getElem hn]
      simp only [Option.map_some, Option.getD_some]
      omega
    rw [e, ← hci]
    congr 1
    unfold Addr.add
    split
    · rename_i h; subst h; simp
    · rfl

/-- A slice of bytes that came in. -/
def InB (W : World) (a : Option Addr) (len cap : Nat) (bs : List Nat) : Prop := Row W a len bs ∧ len ≤ cap ∧ cap ≤ maxLen ∧ (a = none → cap = 0)
section
variable {H : Type} {enc : TypeId × Value → H} {W : World} {v : Value} {d : DataW H} {p : List MemPlace} {base : Nat}
set_option maxRecDepth 100000 in
theorem bytes_in (hv : Value.okWide Tryz.prog W .any base 28 v) (h : DataW.Trod enc Tryz.prog W 0 (fun _ => true) true 28 v d p) :
    ∃ a len cap bs, v = .slice a len cap ∧ InB W a len cap bs := by
  obtain ⟨a, len, cap, rfl⟩ := okWide_slice Tryz.underlying28 hv
  obtain ⟨fuel, hf⟩ := h
  rcases open_ints Tryz.underlying28 Tryz.underlying5 (by kernel_rfl) hf with ⟨hcs, _⟩ | ⟨x, l, c, zs, hcs, _, hl, hm, hz, _, hcell, hwz⟩
  · simp [Value.cells] at hcs
    obtain ⟨rfl, rfl, rfl⟩ := hcs
    exact ⟨_, _, _, [], rfl, ⟨rfl, (fun x hx => by cases hx), (fun h => by omega)⟩, by omega, by unfold maxLen; omega, fun _ => rfl⟩
  · simp [Value.cells] at hcs
    obtain ⟨rfl, rfl, rfl⟩ := hcs
    exact ⟨_, _, _, _, rfl, row_of hl (by simpa using hz) hcell hwz, hl, hm, fun h => by cases h⟩
end

end Go.Proofs.YthgcjiocelcblaaGreat

namespace Go.Proofs.YthgcjiocelcblaaGreat
open Go.ChangeShapes Go.WideShapes Go.ChangeAt Go.RowKit

theorem rowK_of {K : IntKind} {M : Nat} {W : World} {x : Addr} {len cap : Nat} {zs : List Int} (hM : ∀ n, (Lit.int K n).wf = true → 0 ≤ n ∧ n < M) (hl : len ≤ cap) (hz : zs.length = cap)
    (hcell : ∀ i, i < zs.length → W.cell? (x.add i) = some (.int K (zs.getD i 0))) (hwz : ∀ n ∈ zs, (Lit.int K n).wf = true) :
    RowK K M W (some x) len ((zs.take len).map Int.toNat) := by
  have hb : ∀ n ∈ zs, 0 ≤ n ∧ n < M := fun n hn => hM n (hwz n hn)
  refine ⟨by simp; omega, ?_, fun h0 => ?_⟩
  · intro y hy
    rw [List.mem_map] at hy
    obtain ⟨n, hn, rfl⟩ := hy
    have := hb n (List.mem_of_mem_take hn)
    omega
  · obtain ⟨b, off, spot⟩ := x
    have hc := hcell 0 (by omega)
    have hspot : spot = none := by simpa [Addr.add] using World.cell?_spot hc
    subst hspot
    refine ⟨b, off, rfl, fun i hi => ?_⟩
    have hci := hcell i (by omega)
    have hn : i < zs.length := by omega
    have e : ((((zs.take len).map Int.toNat).getD i 0 : Nat) : Int) = zs.getD i 0 := by
      have h1 : (zs.take len)[i]? = some zs[i] := by rw [List.getElem?_take_of_lt hi]; exact List.getElem?_eq_getElem hn
      have h2 := hb zs[i] (List.getElem_mem hn)
      rw [List.getD, List.getD, List.getElem?_map, h1, List.getElem?_eq_getElem hn]
      simp only [Option.map_some, Option.getD_some]
      omega
    rw [e, ← hci]
    congr 1
    unfold Addr.add
    split
    · rename_i h; subst h; simp
    · rfl
theorem wfb_u8 (n : Int) (h : (Lit.int .u8 n).wf = true) : 0 ≤ n ∧ n < (256 : Nat) := by
  have hm : IntKind.u8.min = 0 := by decide
  have hM : IntKind.u8.max = 255 := by decide
  simp [Lit.wf, hm, hM] at h; omega
theorem wfb_u16 (n : Int) (h : (Lit.int .u16 n).wf = true) : 0 ≤ n ∧ n < (65536 : Nat) := by
  have hm : IntKind.u16.min = 0 := by decide
  have hM : IntKind.u16.max = 65535 := by decide
  simp [Lit.wf, hm, hM] at h; omega
theorem wfb_u32 (n : Int) (h : (Lit.int .u32 n).wf = true) : 0 ≤ n ∧ n < (4294967296 : Nat) := by
  have hm : IntKind.u32.min = 0 := by decide
  have hM : IntKind.u32.max = 4294967295 := by decide
  simp [Lit.wf, hm, hM] at h; omega
theorem wfb_u64 (n : Int) (h : (Lit.int .u64 n).wf = true) : 0 ≤ n ∧ n < (18446744073709551616 : Nat) := by
  have hm : IntKind.u64.min = 0 := by decide
  have hM : IntKind.u64.max = 18446744073709551615 := by decide
  simp [Lit.wf, hm, hM] at h; omega

/-- A slice of numbers that came in. -/
def InK (K : IntKind) (M : Nat) (W : World) (a : Option Addr) (len cap : Nat) (ns : List Nat) : Prop :=
  RowK K M W a len ns ∧ len ≤ cap ∧ cap ≤ maxLen ∧ (a = none → cap = 0) ∧ ∀ x, a = some x → 0 < len → x.block < W.heap.size
section
variable {H : Type} {enc : TypeId × Value → H} {W : World} {v : Value}
theorem ints_in {K : IntKind} {M : Nat} {t e : TypeId} {fuel : Nat} {y : DataW H × List MemPlace} (ht : Tryz.prog.underlying t = some (.slice e)) (he : Tryz.prog.underlying e = some (.int K)) (hc : Tryz.prog.cellsOf e = 1)
    (hM : ∀ n, (Lit.int K n).wf = true → 0 ≤ n ∧ n < M) (h : DataW.trod enc Tryz.prog W 0 (fun _ => true) true fuel t [v] = some y) :
    ∃ a len cap ns, v = .slice a len cap ∧ InK K M W a len cap ns ∧ ((∀ n ∈ y.1.weights Tryz.prog t, n ≤ reachBytes) → cap * Tryz.prog.bytesOf e ≤ reachBytes) := by
  rcases open_ints ht he hc h with ⟨hcs, hx⟩ | ⟨x, l, c, zs, hcs, _, hl, hm, hz, hx, hcell, hwz⟩
  · simp at hcs
    exact ⟨none, 0, 0, [], hcs, ⟨⟨rfl, (fun x hx => by cases hx), (fun h => by omega)⟩, Nat.le_refl _, Nat.zero_le _, fun _ => rfl, fun _ h => by cases h⟩, fun _ => by simp⟩
  · simp at hcs
    have hz' : zs.length = c := by simpa using hz
    have hr := rowK_of hM hl hz' hcell hwz
    refine ⟨some x, l, c, _, hcs, ⟨hr, hl, hm, (fun h => by cases h), fun x' hx' h0 => ?_⟩, fun hw => ?_⟩
    · cases hx'
      obtain ⟨b, off, h1, h2⟩ := hr.2.2 h0
      cases h1
      exact World.block_lt_of_cell? W _ (h2 0 h0)
    · rw [hx] at hw
      have := hw ((lits K (zs.take l)).length + (lits K (zs.drop l)).length |> (· * Tryz.prog.bytesOf e)) (by simp only [DataW.weights, ht]; exact List.mem_cons_self)
      have e1 : (lits (H := H) K (zs.take l)).length + (lits (H := H) K (zs.drop l)).length = c := by
        unfold lits
        simp
        omega
      rw [← e1]
      exact this
end

end Go.Proofs.YthgcjiocelcblaaGreat

namespace Go.Proofs.YthgcjiocelcblaaGreat
open Go.RowKit

/-- The items in memory. -/
def InItems (W : World) (a : Option Addr) (n cap : Nat) (K : Nat → Int) (N : Nat → Nat) (A : Nat → Option Addr) (L C : Nat → Nat) (B : Nat → List Nat) : Prop :=
  n ≤ cap ∧ cap ≤ maxLen ∧ (0 < n → ∃ b off, a = some ⟨b, off, none⟩ ∧ ∀ i, i < n → W.cell? ⟨b, off + i * 3, none⟩ = some (.int .i64 (K i)) ∧ W.cell? ⟨b, off + i * 3 + 1, none⟩ = some (.int .u64 (N i : Int)) ∧ W.cell? ⟨b, off + i * 3 + 2, none⟩ = some (.slice (A i) (L i) (C i))) ∧
  ∀ i, i < n → (-9223372036854775808 ≤ K i ∧ K i ≤ 9223372036854775807) ∧ N i < 18446744073709551616 ∧ InK .u8 256 W (A i) (L i) (C i) (B i)
/-- No more items, and no longer ones, than some. -/
def Light (n : Nat) (L : Nat → Nat) : Prop := n ≤ 40 ∧ ∀ i, i < n → L i ≤ 400

theorem inK_below {K : IntKind} {M : Nat} {w w' : World} {a : Option Addr} {len cap : Nat} {ns : List Nat} (h : InK K M w a len cap ns) (hb : Below w.heap.size w w') : InK K M w' a len cap ns :=
  ⟨rowK_below h.1 hb, h.2.1, h.2.2.1, h.2.2.2.1, fun x hx h0 => Nat.lt_of_lt_of_le (h.2.2.2.2 x hx h0) hb.size⟩
theorem items_keep {w w' : World} {a : Option Addr} {n cap : Nat} {K : Nat → Int} {N : Nat → Nat} {A : Nat → Option Addr} {L C : Nat → Nat} {B : Nat → List Nat} (h : InItems w a n cap K N A L C B) (hb : Below w.heap.size w w') : InItems w' a n cap K N A L C B := by
  obtain ⟨h1, h2, h3, h4⟩ := h
  refine ⟨h1, h2, fun h0 => ?_, fun i hi => ⟨(h4 i hi).1, (h4 i hi).2.1, inK_below (h4 i hi).2.2 hb⟩⟩
  obtain ⟨b, off, e, hc⟩ := h3 h0
  refine ⟨b, off, e, fun i hi => ?_⟩
  obtain ⟨c0, c1, c2⟩ := hc i hi
  exact ⟨below_cell hb c0, below_cell hb c1, below_cell hb c2⟩

theorem padTo_len (X : List Nat) (n : Nat) : (padTo X (n : Int)).length ≤ X.length + n := by
  unfold padTo; rw [List.length_append, List.length_replicate]; omega
theorem layItem_len (k : Int) (n : Nat) (bs X : List Nat) (hb : bs.length ≤ 400) : (layItem k n bs X).length ≤ X.length + 600 := by
  unfold layItem
  split
  · rw [List.length_append, Crc.les_len]; omega
  split
  · rw [List.length_append, Crc.les_len]; omega
  split
  · rw [List.length_append]; omega
  split
  · rw [List.length_append, Crc.les_len]; omega
  split
  · rw [List.length_append]; unfold textOf; rw [List.length_cons, List.length_take]; omega
  split
  · have h1 := padTo_len X (n % 600); have h2 : n % 600 < 600 := Nat.mod_lt _ (by omega); omega
  split
  · rw [List.length_append, Crc.les_len]; omega
  · omega
end Go.Proofs.YthgcjiocelcblaaGreat

namespace Go.Proofs.YthgcjiocelcblaaGreat
open Go.RowKit

/-- Behind the reader's Raw. -/
theorem raw_keeps {w W W1 : World} {pr pg c n : Nat} {bs : List Nat} {e : Ending} (h : RawRet W pr pg c bs n e W1) (hb : Below w.heap.size w W) (hp : w.heap.size ≤ pr) :
    ∃ a2 sv, e = .returned sv ∧ RD W1 pr pg a2 (c - n) (bs.drop n) ∧ Below w.heap.size w W1 ∧ Inner w.heap.size W pr W1 := by
  obtain ⟨a2, w1, rfl, hrd, hb1, sv, rfl, _⟩ := h
  have hs : (W.setCell ⟨pr, 0, none⟩ (.slice a2 (bs.length - n) (c - n))).heap.size = W.heap.size := by simp [World.setCell]
  have hz := hb.size
  have hz1 := hb1.size
  refine ⟨a2, sv, rfl, hrd, (hb.setCell (p := ⟨pr, 0, none⟩) hp _).trans (hb1.mono (by omega)), by omega, fun k h1 h2 h3 => ?_⟩
  rw [hb1.block k (by omega)]
  exact Below.heap_setCell _ _ _ _ h3
theorem inner_below {w W W1 W2 : World} {pr : Nat} (h : Inner w.heap.size W pr W1) (hb : Below W1.heap.size W1 W2) : Inner w.heap.size W pr W2 := by
  refine ⟨Nat.le_trans h.1 hb.size, fun k h1 h2 h3 => ?_⟩
  rw [hb.block k (Nat.lt_of_lt_of_le h2 h.1)]
  exact h.2 k h1 h2 h3
theorem inner_set {w W W1 : World} {pr z : Nat} (h : Inner w.heap.size W pr W1) (hz : z < w.heap.size) (v : Value) : Inner w.heap.size W pr (W1.setCell ⟨z, 0, none⟩ v) := by
  refine ⟨by simp [World.setCell]; exact h.1, fun k h1 h2 h3 => ?_⟩
  rw [Below.heap_setCell _ _ _ _ (by show k ≠ z; omega)]
  exact h.2 k h1 h2 h3
/-- What a function that tells one thing leaves: one variable of the caller's is set. -/
def SetOne (w : World) (z : Nat) (v : Value) (W : World) : Prop := ∃ W2, Below w.heap.size w W2 ∧ W = W2.setCell ⟨z, 0, none⟩ v
/-- Two variables of the caller's are set. -/
def SetTwo (w : World) (y : Nat) (u : Value) (z : Nat) (v : Value) (W : World) : Prop := ∃ W2, Below w.heap.size w W2 ∧ W = (W2.setCell ⟨y, 0, none⟩ u).setCell ⟨z, 0, none⟩ v
theorem text_keeps {w W W1 : World} {pr pg c k : Nat} {bs : List Nat} {e : Ending} (h : TextRet W pr pg c bs k e W1) (hb : Below w.heap.size w W) (hp : w.heap.size ≤ pr) :
    ∃ a2, e = .returned (.string (strOf ((bs.drop 1).take k))) ∧ RD W1 pr pg a2 (c - 1 - k) ((bs.drop 1).drop k) ∧ Below w.heap.size w W1 ∧ Inner w.heap.size W pr W1 := by
  obtain ⟨a2, rfl, hrd, hs, h1, h2, h3, h4⟩ := h
  refine ⟨a2, rfl, hrd, hb.trans ⟨h1, h2, h3, by omega, fun j hj => h4 j (by omega)⟩, by omega, fun j _ _ hj => h4 j hj⟩
theorem num_keeps {w W W0 W1 : World} {pr pg c k : Nat} {bs : List Nat} {v : Value} {e : Ending} (h : NumRet W pr pg c bs k v e W1) (hb : Below w.heap.size w W) (hp : w.heap.size ≤ pr) (hi : Inner w.heap.size W0 pr W) :
    e = .returned v ∧ Below w.heap.size w W1 ∧ Inner w.heap.size W0 pr W1 := by
  obtain ⟨a2, rfl, rfl, hrd⟩ := h
  refine ⟨rfl, hb.setCell (p := ⟨pr, 0, none⟩) hp _, by simp [World.setCell]; exact hi.1, fun k h1 h2 h3 => ?_⟩
  rw [Below.heap_setCell _ _ _ _ h3]
  exact hi.2 k h1 h2 h3
theorem wf_i64 {n : Int} (h : (Lit.int .i64 n).wf = true) : -9223372036854775808 ≤ n ∧ n ≤ 9223372036854775807 := by
  have hm : IntKind.i64.min = -9223372036854775808 := by decide
  have hM : IntKind.i64.max = 9223372036854775807 := by decide
  simp [Lit.wf, hm, hM] at h
  omega
theorem row_aside {pw : Nat} {w4 w5 : World} {sv : Value} {X Y : List Nat} {a : Option Addr} {c n : Nat} (hw : WR pw w4 pw sv X) (ho : Own w4.heap.size w5 (.slice a n c) Y) : ∀ x, a = some x → x.block ≠ pw ∧ some x.block ≠ sv.ownBlock := fun x hx => by
  have h1 : pw < w4.heap.size := World.block_lt_of_cell? w4 ⟨pw, 0, none⟩ (cell_of_heap1 hw.2.1)
  have h2 := own_base ho x.block (by rw [hx]; rfl)
  refine ⟨by omega, fun h => ?_⟩
  have h3 := own_base hw.2.2.1 x.block h.symm
  omega
theorem row_moved {w w' : World} {pw : Nat} {sv sv' : Value} {a : Option Addr} {len : Nat} {bs : List Nat} (h : Row w a len bs) (hm : Moved w pw sv sv' w') (hne : ∀ x, a = some x → x.block ≠ pw ∧ some x.block ≠ sv.ownBlock) : Row w' a len bs := by
  obtain ⟨h1, h2, h3⟩ := h
  refine ⟨h1, h2, fun h0 => ?_⟩
  obtain ⟨b, off, rfl, hc⟩ := h3 h0
  exact ⟨b, off, rfl, fun i hi => moved_cell hm (hc i hi) (hne _ rfl)⟩
theorem frozen_new (w : World) (t : TypeId) : (w.alloc (.cells #[.bool false] t)).frozen? ⟨w.heap.size, 0, none⟩ = false := by
  have h := heap_alloc_new w (.cells #[.bool false] t)
  unfold World.frozen?
  rw [show (w.alloc (.cells #[.bool false] t)).heap[(⟨w.heap.size, 0, none⟩ : Addr).block]? = some (.cells #[.bool false] t) from h]
  rfl
theorem setOne_after {w5 W w7 : World} {t : TypeId} (hq : SetOne (w5.alloc (.cells #[.bool false] t)) w5.heap.size (.bool true) W) (hb : Below (w5.alloc (.cells #[.bool false] t)).heap.size W w7) :
    Below w5.heap.size w5 w7 ∧ w7.cell? ⟨w5.heap.size, 0, none⟩ = some (.bool true) := by
  obtain ⟨W2, h2, rfl⟩ := hq
  have hs : (w5.alloc (.cells #[.bool false] t)).heap.size = w5.heap.size + 1 := by simp
  have hn := heap_alloc_new w5 (.cells #[.bool false] t)
  have h3 : W2.heap[w5.heap.size]? = some (.cells #[.bool false] t (0, 0)) := by rw [h2.block _ (by omega)]; exact hn
  have hc : W2.cell? ⟨w5.heap.size, 0, none⟩ = some (.bool false) := cell_of_heap1 h3
  refine ⟨?_, ?_⟩
  · exact ((bel_alloc (Below.refl _ w5) _).trans ((h2.mono (B' := w5.heap.size) (by omega)).setCell (p := ⟨w5.heap.size, 0, none⟩) (Nat.le_refl _) _)).trans (hb.mono (by omega))
  · rw [hb.cell (p := ⟨w5.heap.size, 0, none⟩) (by rw [hs]; exact Nat.lt_succ_self _)]
    simp [go_sem, hc]

theorem two_new (w5 : World) (u v : Value) (t t' : TypeId) : ((w5.alloc (.cells #[u] t)).alloc (.cells #[v] t')).cell? ⟨w5.heap.size, 0, none⟩ = some u ∧ ((w5.alloc (.cells #[u] t)).alloc (.cells #[v] t')).cell? ⟨w5.heap.size + 1, 0, none⟩ = some v ∧
    ((w5.alloc (.cells #[u] t)).alloc (.cells #[v] t')).frozen? ⟨w5.heap.size, 0, none⟩ = false ∧ ((w5.alloc (.cells #[u] t)).alloc (.cells #[v] t')).frozen? ⟨w5.heap.size + 1, 0, none⟩ = false := by
  have h1 : ((w5.alloc (.cells #[u] t)).alloc (.cells #[v] t')).heap[w5.heap.size]? = some (.cells #[u] t) := by
    rw [Below.heap_alloc _ _ _ (by simp)]; exact heap_alloc_new w5 _
  have h2 : ((w5.alloc (.cells #[u] t)).alloc (.cells #[v] t')).heap[w5.heap.size + 1]? = some (.cells #[v] t') := by
    have h := heap_alloc_new (w5.alloc (.cells #[u] t)) (.cells #[v] t')
    rw [show (w5.alloc (.cells #[u] t)).heap.size = w5.heap.size + 1 by simp] at h
    exact h
  refine ⟨cell_of_heap1 h1, cell_of_heap1 h2, ?_, ?_⟩
  · unfold World.frozen?; rw [show (_ : World).heap[(⟨w5.heap.size, 0, none⟩ : Addr).block]? = _ from h1]; rfl
  · unfold World.frozen?; rw [show (_ : World).heap[(⟨w5.heap.size + 1, 0, none⟩ : Addr).block]? = _ from h2]; rfl
theorem setTwo_after {w5 W w7 : World} {u v u' v' : Value} {t t' : TypeId} (hq : SetTwo ((w5.alloc (.cells #[u] t)).alloc (.cells #[v] t')) w5.heap.size u' (w5.heap.size + 1) v' W) (hb : Below ((w5.alloc (.cells #[u] t)).alloc (.cells #[v] t')).heap.size W w7) :
    Below w5.heap.size w5 w7 ∧ w7.cell? ⟨w5.heap.size, 0, none⟩ = some u' ∧ w7.cell? ⟨w5.heap.size + 1, 0, none⟩ = some v' := by
  obtain ⟨W2, h2, rfl⟩ := hq
  have hs : ((w5.alloc (.cells #[u] t)).alloc (.cells #[v] t')).heap.size = w5.heap.size + 2 := by simp
  obtain ⟨c1, c2, _, _⟩ := two_new w5 u v t t'
  have d1 := below_cell h2 c1
  have d2 := below_cell h2 c2
  have b1 : Below w5.heap.size w5 W2 := (bel_alloc (bel_alloc (Below.refl _ w5) _) _).trans (h2.mono (B' := w5.heap.size) (by omega))
  have b2 := (b1.setCell (p := ⟨w5.heap.size, 0, none⟩) (Nat.le_refl _) u').setCell (p := ⟨w5.heap.size + 1, 0, none⟩) (Nat.le_succ _) v'
  refine ⟨b2.trans (hb.mono (by omega)), ?_, ?_⟩
  · rw [hb.cell (p := ⟨w5.heap.size, 0, none⟩) (by rw [hs]; show w5.heap.size < w5.heap.size + 2; omega)]
    simp [go_sem, d1]
  · rw [hb.cell (p := ⟨w5.heap.size + 1, 0, none⟩) (by rw [hs]; show w5.heap.size + 1 < w5.heap.size + 2; omega)]
    simp [go_sem, d2]


end Go.Proofs.YthgcjiocelcblaaGreat

namespace Go.Proofs.YthgcjiocelcblaaGreat
open Go.RowKit

/-- How many bytes an item takes. -/
def need (k n : Int) (bs : List Nat) : Int :=
  if k = 1 then 1 else if k = 2 then 2 else if k = 3 then n else if k = 4 then 4 else if k = 5 then 1 + (bs.getD 0 0 : Nat) else if k = 8 then 8 else 0
def fits (m : Int) (bs : List Nat) : Bool := decide (0 ≤ m) && decide (m ≤ (bs.length : Int))
/-- What is left behind all items; none: more is taken than there is. -/
def goes (ns : List Int) : Nat → List Int → List Nat → Option (List Nat)
  | _, [], bs => some bs
  | i, k :: ks, bs => if fits (need k (ns.getD i 0) bs) bs then goes ns (i + 1) ks (bs.drop (need k (ns.getD i 0) bs).toNat) else none
theorem goes_end (ns ks : List Int) (i : Nat) (bs : List Nat) (h : ks.length ≤ i) : goes ns i (ks.drop i) bs = some bs := by
  rw [List.drop_of_length_le h, goes]
theorem goes_step (ns ks : List Int) {i : Nat} (bs : List Nat) (h : i < ks.length) :
    goes ns i (ks.drop i) bs = if fits (need (ks.getD i 0) (ns.getD i 0) bs) bs then goes ns (i + 1) (ks.drop (i + 1)) (bs.drop (need (ks.getD i 0) (ns.getD i 0) bs).toNat) else none := by
  have hg : ks.getD i 0 = ks[i] := by simp [List.getD, h]
  rw [List.drop_eq_getElem_cons h, goes, hg]
theorem goes_fit {ns ks : List Int} {i : Nat} {bs : List Nat} {A : Option (List Nat)} (hA : goes ns i (ks.drop i) bs = A) (h : i < ks.length) {m : Nat} (hm : need (ks.getD i 0) (ns.getD i 0) bs = (m : Int)) (hf : m ≤ bs.length) : goes ns (i + 1) (ks.drop (i + 1)) (bs.drop m) = A := by
  rw [goes_step ns ks bs h, hm, if_pos (by unfold fits; simp; omega)] at hA
  exact hA
theorem goes_out {ns ks : List Int} {i : Nat} {bs : List Nat} {A : Option (List Nat)} (hA : goes ns i (ks.drop i) bs = A) (h : i < ks.length) {m : Int} (hm : need (ks.getD i 0) (ns.getD i 0) bs = m) (hf : m < 0 ∨ (bs.length : Int) < m) : A = none := by
  rw [goes_step ns ks bs h, hm, if_neg (by unfold fits; simp; omega)] at hA
  exact hA.symm

/-- A slice of ints that is read. -/
def RowZ (w : World) (a : Option Addr) (len cap : Nat) (zs : List Int) : Prop :=
  zs.length = len ∧ len ≤ cap ∧ cap ≤ maxLen ∧ (a = none → cap = 0) ∧ (∀ z ∈ zs, -9223372036854775808 ≤ z ∧ z ≤ 9223372036854775807) ∧ (0 < len → ∃ b off, a = some ⟨b, off, none⟩ ∧ ∀ i, i < len → w.cell? ⟨b, off + i, none⟩ = some (.int .i64 (zs.getD i 0)))
theorem rowZ_below {w w' : World} {a : Option Addr} {len cap : Nat} {zs : List Int} (h : RowZ w a len cap zs) (hb : Below w.heap.size w w') : RowZ w' a len cap zs := by
  obtain ⟨h1, h2, h3, h4, h5, h6⟩ := h
  refine ⟨h1, h2, h3, h4, h5, fun h0 => ?_⟩
  obtain ⟨b, off, e, hc⟩ := h6 h0
  exact ⟨b, off, e, fun i hi => cell_bel hb (hc i hi)⟩
theorem rowZ_at {w : World} {a : Option Addr} {len cap k : Nat} {zs : List Int} (h : RowZ w a len cap zs) (hk : k < len) :
    ∃ b off, a = some ⟨b, off, none⟩ ∧ w.cell? ⟨b, off + k, none⟩ = some (.int .i64 (zs.getD k 0)) ∧ -9223372036854775808 ≤ zs.getD k 0 ∧ zs.getD k 0 ≤ 9223372036854775807 := by
  obtain ⟨h1, h2, h3, h4, h5, h6⟩ := h
  obtain ⟨b, off, e, hc⟩ := h6 (by omega)
  have hm : zs.getD k 0 ∈ zs := by simp [List.getD, show k < zs.length by omega]
  exact ⟨b, off, e, hc k hk, h5 _ hm⟩

def zeros (bs : List Nat) : Bool := bs.all (· == 0)
theorem zeros_drop {bs : List Nat} {k : Nat} (h : k < bs.length) : zeros (bs.drop k) = ((bs.getD k 0 == 0) && zeros (bs.drop (k + 1))) := by
  unfold zeros
  rw [List.drop_eq_getElem_cons h, List.all_cons, getD_in _ _ h]
set_option maxHeartbeats 400000 in
theorem rZero_any {w : World} {pr pg c : Nat} {a : Option Addr} {bs : List Nat} (h : RD w pr pg a c bs) :
    Calls Tryz.prog 32 #[.pointer (some ⟨pr, 0, none⟩)] w fun e w' => e = .returned (.bool (zeros bs)) ∧ Below w.heap.size w w' := by
  obtain ⟨h0, h1, h2⟩ := rd_cells h
  have hbs : bs.length ≤ maxLen := by have := h.2.2.2.1; have := h.2.2.2.2.1; omega
  unfold maxLen at hbs
  obtain ⟨z, hz⟩ : ∃ z, zeros bs = z := ⟨_, rfl⟩
  rw [hz]
  have HZ0 : Hid (zeros (bs.drop 0) = z) := by rw [List.drop_zero]; exact hz
  have HH := Lib.hid h
  clear hz h
  go_enter Tryz.func32, Tryz.ntmps32
  go_wp2
  go_loop [12] (fun i => ∃ k : Nat, k ≤ bs.length ∧ i = .int .i64 k ∧ Hid (zeros (bs.drop k) = z)) (fun i => bs.length - (intOf i).toNat)
  case atStart => exact ⟨0, by omega, rfl, HZ0⟩
  case round =>
    obtain ⟨k, hk, rfl, HZ⟩ := hrel
    by_cases hlt : k < bs.length
    · obtain ⟨b, off, rfl, hcl⟩ := HH.out.2.1.2.2 (by omega)
      have hck := hcl k hlt
      have hzd := zeros_drop hlt
      rw [HZ.out] at hzd
      obtain ⟨x, hx⟩ : ∃ x, bs.getD k 0 = x := ⟨_, rfl⟩
      rw [hx] at hck hzd
      have HZD := Lib.hid hzd
      clear hcl hzd hx
      by_cases hx0 : x = 0
      · subst hx0
        have HZ2 : Hid (zeros (bs.drop (k + 1)) = z) := by have := HZD.out; simp at this; exact this.symm
        go_wp2
        go_round
        case rel => exact ⟨k + 1, by omega, by go_num, HZ2⟩
        case measure => simp [intOf]; omega
      · have hxb : ((x : Int) != 0) = true := by rw [bne_iff_ne]; omega
        have hzf : z = false := by
          have := HZD.out
          rw [beq_eq_false_iff_ne.2 hx0, Bool.false_and] at this
          exact this
        subst hzf
        clear hx0
        go_wp2
        go_ret
        exact ⟨rfl, Below.refl _ _⟩
    · have hzt : z = true := by rw [← HZ.out, List.drop_of_length_le (by omega)]; rfl
      subst hzt
      go_wp2
      go_ret
      exact ⟨rfl, Below.refl _ _⟩
set_option maxHeartbeats 400000 in
theorem refIsZero_any {w : World} {a : Option Addr} {n c : Nat} {bs : List Nat} (h : Row w a n bs) (hc : n ≤ 1000000) :
    Calls Tryz.prog 34 #[.slice a n c] w fun e w' => e = .returned (.bool (zeros bs)) ∧ Below w.heap.size w w' := by
  obtain ⟨h1, h2, h3⟩ := h
  obtain ⟨z, hz⟩ : ∃ z, zeros bs = z := ⟨_, rfl⟩
  rw [hz]
  have HZ0 : Hid (zeros (bs.drop 0) = z) := by rw [List.drop_zero]; exact hz
  have HL := Lib.hid h1
  clear hz h1
  go_enter Tryz.func34, Tryz.ntmps34
  go_wp2
  go_loop [3] (fun i => ∃ k : Nat, k ≤ n ∧ i = .int .i64 k ∧ Hid (zeros (bs.drop k) = z)) (fun i => n - (intOf i).toNat)
  case atStart => exact ⟨0, by omega, rfl, HZ0⟩
  case round =>
    obtain ⟨k, hk, rfl, HZ⟩ := hrel
    by_cases hlt : k < n
    · obtain ⟨b, off, rfl, hcl⟩ := h3 (by omega)
      have hck := hcl k hlt
      have hzd := zeros_drop (bs := bs) (k := k) (by have := HL.out; omega)
      rw [HZ.out] at hzd
      obtain ⟨x, hx⟩ : ∃ x, bs.getD k 0 = x := ⟨_, rfl⟩
      rw [hx] at hck hzd
      have HZD := Lib.hid hzd
      have hkn : (k : Int) < (n : Int) := by omega
      have hk0 : (0 : Int) ≤ (k : Int) := by omega
      clear hcl hzd hx
      by_cases hx0 : x = 0
      · subst hx0
        have HZ2 : Hid (zeros (bs.drop (k + 1)) = z) := by have := HZD.out; simp at this; exact this.symm
        go_wp2
        go_round
        case rel => exact ⟨k + 1, by omega, by go_num, HZ2⟩
        case measure => simp [intOf]; omega
      · have hxb : ((x : Int) != 0) = true := by rw [bne_iff_ne]; omega
        have hzf : z = false := by
          have := HZD.out
          rw [beq_eq_false_iff_ne.2 hx0, Bool.false_and] at this
          exact this
        subst hzf
        clear hx0
        go_wp2
        go_ret
        exact ⟨rfl, Below.refl _ _⟩
    · have hzt : z = true := by rw [← HZ.out, List.drop_of_length_le (by have := HL.out; omega)]; rfl
      subst hzt
      go_wp2
      go_ret
      exact ⟨rfl, Below.refl _ _⟩

end Go.Proofs.YthgcjiocelcblaaGreat

namespace Go.Proofs.YthgcjiocelcblaaGreat
open Go.RowKit

/-- A store into a block in which no two bytes stand side by side leaves the reader. -/
theorem rd_setB {wr : World} {pr pg c b j : Nat} {a : Option Addr} {bs : List Nat} (h : RD wr pr pg a c bs) (hb : b ≠ pr) (hno : ∀ o (q : Nat), wr.cell? ⟨b, o, none⟩ = some (.int .u8 (q : Int)) → o = 0 ∧ 2 ≤ bs.length) (v : Value) : RD (wr.setCell ⟨b, j, none⟩ v) pr pg a c bs := by
  have hk : ∀ k, k ≠ b → (wr.setCell ⟨b, j, none⟩ v).heap[k]? = wr.heap[k]? := fun k hk => Below.heap_setCell _ _ _ _ hk
  obtain ⟨r1, r2, r3, r4, r5, r6⟩ := h
  refine ⟨by rw [hk pr (fun e => hb e.symm)]; exact r1, ⟨r2.1, r2.2.1, fun h0 => ?_⟩, r3, r4, r5, r6⟩
  obtain ⟨b', o, e, hcs⟩ := r2.2.2 h0
  have hne : b' ≠ b := fun e2 => by
    have h1 := hcs 0 h0
    rw [e2] at h1
    obtain ⟨h2, h3⟩ := hno _ _ h1
    have h4 := hcs 1 (by omega)
    rw [e2] at h4
    have := (hno _ _ h4).1
    omega
  refine ⟨b', o, e, fun i hi => ?_⟩
  rw [World.cell?_of_block (w := wr) (a := ⟨b', o + i, none⟩) (hk b' hne)]
  exact hcs i hi
/-- The boxes stand at p, p + 1, ..; the last blocks of the caller's. -/
structure TkB (w W : World) (p pr pg : Nat) (bx : List (Array Value × TypeId)) (x : World) (bs : List Nat) : Prop where
  rd : ∃ a c, RD x pr pg a c bs
  box : ∀ i cs t, bx[i]? = some (cs, t) → x.heap[p + i]? = some (.cells cs t (0, 0))
  inner : Inner w.heap.size W pr x
  bel : Below p w x
section
variable {w W : World} {p pr pg : Nat} {bx : List (Array Value × TypeId)} {x : World} {bs : List Nat}
theorem tkB_start (hw : w.heap.size = p + bx.length) (hb : Below w.heap.size w W) {a : Option Addr} {c : Nat} (hr : RD W pr pg a c bs) (h0 : ∀ i cs t, bx[i]? = some (cs, t) → w.heap[p + i]? = some (.cells cs t (0, 0))) : TkB w W p pr pg bx W bs :=
  ⟨⟨a, c, hr⟩, fun i cs t h => (hb.block _ (by have := (List.getElem?_eq_some_iff.1 h).1; omega)).trans (h0 i cs t h), ⟨Nat.le_refl _, fun _ _ _ _ => rfl⟩, hb.mono (by omega)⟩
theorem TkB.num (hI : TkB w W p pr pg bx x bs) (hp : p + bx.length ≤ pr) {rc s : Nat} {v : Value} {e : Ending} {w' : World} (hr : NumRet x pr pg rc bs s v e w') : e = .returned v ∧ TkB w W p pr pg bx w' (bs.drop s) := by
  obtain ⟨a2, rfl, rfl, hrd⟩ := hr
  have hk : ∀ j, j ≠ pr → (x.setCell ⟨pr, 0, none⟩ (.slice a2 (bs.length - s) (rc - s))).heap[j]? = x.heap[j]? := fun j hj => Below.heap_setCell _ _ _ _ hj
  refine ⟨rfl, ⟨_, _, hrd⟩, fun i cs t h => ?_, ⟨by simpa [World.setCell] using hI.inner.1, fun j k1 k2 k3 => by rw [hk j k3]; exact hI.inner.2 j k1 k2 k3⟩, hI.bel.setCell (p := ⟨pr, 0, none⟩) (by show p ≤ pr; omega) _⟩
  have := (List.getElem?_eq_some_iff.1 h).1
  rw [hk _ (by omega)]
  exact hI.box i cs t h
/-- A store into one of the boxes. -/
theorem TkB.set (hI : TkB w W p pr pg bx x bs) (hp : p + bx.length ≤ pr) (hw : w.heap.size = p + bx.length) (i j : Nat) (v : Value) (cs : Array Value) (t : TypeId) (hi : bx[i]? = some (cs, t)) (bx' : List (Array Value × TypeId)) (hbx : bx.set i (cs.setIfInBounds j v, t) = bx') (hno : ∀ o (q : Nat), cs[o]? = some (.int .u8 (q : Int)) → o = 0 ∧ 2 ≤ bs.length) {d : Nat} (hd : d = p + i) :
    TkB w W p pr pg bx' (x.setCell ⟨d, j, none⟩ v) bs := by
  subst hd hbx
  have hil := (List.getElem?_eq_some_iff.1 hi).1
  have hbk := hI.box i cs t hi
  have hk : ∀ y, y ≠ p + i → (x.setCell ⟨p + i, j, none⟩ v).heap[y]? = x.heap[y]? := fun y hy => Below.heap_setCell _ _ _ _ hy
  obtain ⟨a, c, hrd⟩ := hI.rd
  refine ⟨⟨a, c, rd_setB hrd (by omega) (fun o q e => hno o q (by simpa [World.cell?, hbk] using e)) v⟩, fun k cs' t' h => ?_, ⟨by simpa [World.setCell] using hI.inner.1, fun y k1 k2 k3 => by rw [hk y (by omega)]; exact hI.inner.2 y k1 k2 k3⟩, hI.bel.setCell (p := ⟨p + i, j, none⟩) (by show p ≤ p + i; omega) _⟩
  by_cases e : k = i
  · subst e
    rw [List.getElem?_set_self hil] at h
    simp only [Option.some.injEq, Prod.mk.injEq] at h
    obtain ⟨rfl, rfl⟩ := h
    exact heap_setCell_same _ _ _ _ _ _ hbk
  · rw [List.getElem?_set_ne (fun e2 => e e2.symm)] at h
    rw [hk _ (by omega)]
    exact hI.box k cs' t' h
theorem TkB.step (hI : TkB w W p pr pg bx x bs) (hp : p + bx.length ≤ pr) {y : World} (hb : Below x.heap.size x y) : TkB w W p pr pg bx y bs := by
  obtain ⟨a, c, hrd⟩ := hI.rd
  have hpl := (Array.getElem?_eq_some_iff.1 hrd.1).1
  exact ⟨⟨a, c, rd_below hrd hb⟩, fun i cs t h => (hb.block _ (by have := (List.getElem?_eq_some_iff.1 h).1; omega)).trans (hI.box i cs t h), ⟨Nat.le_trans hI.inner.1 hb.size, fun j k1 k2 k3 => (hb.block _ (Nat.lt_of_lt_of_le k2 hI.inner.1)).trans (hI.inner.2 j k1 k2 k3)⟩, hI.bel.trans (hb.mono (by omega))⟩
theorem TkB.u8 {k : Nat} (hI : TkB w W p pr pg bx x (bs.drop k)) (hp : p + bx.length ≤ pr) (hk : k + 1 ≤ bs.length) :
    Calls Tryz.prog 117 #[.pointer (some ⟨pr, 0, none⟩)] x fun e y => e = .returned (.int .u8 ((bs.getD k 0 : Nat) : Int)) ∧ TkB w W p pr pg bx y (bs.drop (k + 1)) := by
  obtain ⟨a, c, hr⟩ := hI.rd
  refine (rU8_ok hr (by rw [List.length_drop]; omega)).mono fun e y h => ?_
  obtain ⟨rfl, h2⟩ := hI.num hp h
  rw [List.drop_drop] at h2
  refine ⟨?_, h2⟩
  rw [List.getD_eq_getElem?_getD, List.getElem?_drop, Nat.add_zero, ← List.getD_eq_getElem?_getD]
theorem TkB.u16 {k : Nat} (hI : TkB w W p pr pg bx x (bs.drop k)) (hp : p + bx.length ≤ pr) (hk : k + 2 ≤ bs.length) :
    Calls Tryz.prog 116 #[.pointer (some ⟨pr, 0, none⟩)] x fun e y => e = .returned (.int .u16 ((leVal ((bs.drop k).take 2) : Nat) : Int)) ∧ TkB w W p pr pg bx y (bs.drop (k + 2)) := by
  obtain ⟨a, c, hr⟩ := hI.rd
  refine (rU16_ok hr (by rw [List.length_drop]; omega)).mono fun e y h => ?_
  obtain ⟨rfl, h2⟩ := hI.num hp h
  rw [List.drop_drop] at h2
  exact ⟨rfl, h2⟩
theorem TkB.u32 {k : Nat} (hI : TkB w W p pr pg bx x (bs.drop k)) (hp : p + bx.length ≤ pr) (hk : k + 4 ≤ bs.length) :
    Calls Tryz.prog 30 #[.pointer (some ⟨pr, 0, none⟩)] x fun e y => e = .returned (.int .u32 ((leVal ((bs.drop k).take 4) : Nat) : Int)) ∧ TkB w W p pr pg bx y (bs.drop (k + 4)) := by
  obtain ⟨a, c, hr⟩ := hI.rd
  refine (rU32_ok hr (by rw [List.length_drop]; omega)).mono fun e y h => ?_
  obtain ⟨rfl, h2⟩ := hI.num hp h
  rw [List.drop_drop] at h2
  exact ⟨rfl, h2⟩
theorem TkB.zero_ {k : Nat} (hI : TkB w W p pr pg bx x (bs.drop k)) (hp : p + bx.length ≤ pr) :
    Calls Tryz.prog 32 #[.pointer (some ⟨pr, 0, none⟩)] x fun e y => e = .returned (.bool (zeros (bs.drop k))) ∧ TkB w W p pr pg bx y (bs.drop k) := by
  obtain ⟨a, c, hr⟩ := hI.rd
  exact (rZero_any hr).mono fun e y h => ⟨h.1, hI.step hp h.2⟩
end
end Go.Proofs.YthgcjiocelcblaaGreat
