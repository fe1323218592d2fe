/- What a function that reads leaves of the caller's variables; new variables. -/
import Derived.Test.YtdpkinppkhnjkaaDoorReaderMore
import Derived.Test.YtdpkinppkhnjkaaDoorItems
namespace Go.Proofs.YtdpkinppkhnjkaaDoor
open Go.RowKit

/-- Behind the reader's Raw. -/
theorem raw_keeps {w W W1 : World} {pr pg c n : Nat} {bs : List Nat} {e : Ending} (h : RawRet W pr pg c bs n e W1) (hb : Below w.heap.size w W) (hp : w.heap.size ≤ pr) :
    ∃ a2 sv, e = .returned sv ∧ RD W1 pr pg a2 (c - n) (bs.drop n) ∧ Below w.heap.size w W1 ∧ Inner w.heap.size W pr W1 := by
  obtain ⟨a2, w1, rfl, hrd, hb1, sv, rfl, _⟩ := h
  have hs : (W.setCell ⟨pr, 0, none⟩ (.slice a2 (bs.length - n) (c - n))).heap.size = W.heap.size := by simp [World.setCell]
  have hz := hb.size
  have hz1 := hb1.size
  refine ⟨a2, sv, rfl, hrd, (hb.setCell (p := ⟨pr, 0, none⟩) hp _).trans (hb1.mono (by omega)), by omega, fun k h1 h2 h3 => ?_⟩
  rw [hb1.block k (by omega)]
  exact Below.heap_setCell _ _ _ _ h3
theorem inner_below {w W W1 W2 : World} {pr : Nat} (h : Inner w.heap.size W pr W1) (hb : Below W1.heap.size W1 W2) : Inner w.heap.size W pr W2 := by
  refine ⟨Nat.le_trans h.1 hb.size, fun k h1 h2 h3 => ?_⟩
  rw [hb.block k (Nat.lt_of_lt_of_le h2 h.1)]
  exact h.2 k h1 h2 h3
theorem inner_set {w W W1 : World} {pr z : Nat} (h : Inner w.heap.size W pr W1) (hz : z < w.heap.size) (v : Value) : Inner w.heap.size W pr (W1.setCell ⟨z, 0, none⟩ v) := by
  refine ⟨by simp [World.setCell]; exact h.1, fun k h1 h2 h3 => ?_⟩
  rw [Below.heap_setCell _ _ _ _ (by show k ≠ z; omega)]
  exact h.2 k h1 h2 h3
/-- What a function that tells one thing leaves: one variable of the caller's is set. -/
def SetOne (w : World) (z : Nat) (v : Value) (W : World) : Prop := ∃ W2, Below w.heap.size w W2 ∧ W = W2.setCell ⟨z, 0, none⟩ v
/-- Two variables of the caller's are set. -/
def SetTwo (w : World) (y : Nat) (u : Value) (z : Nat) (v : Value) (W : World) : Prop := ∃ W2, Below w.heap.size w W2 ∧ W = (W2.setCell ⟨y, 0, none⟩ u).setCell ⟨z, 0, none⟩ v
theorem text_keeps {w W W1 : World} {pr pg c k : Nat} {bs : List Nat} {e : Ending} (h : TextRet W pr pg c bs k e W1) (hb : Below w.heap.size w W) (hp : w.heap.size ≤ pr) :
    ∃ a2, e = .returned (.string (strOf ((bs.drop 1).take k))) ∧ RD W1 pr pg a2 (c - 1 - k) ((bs.drop 1).drop k) ∧ Below w.heap.size w W1 ∧ Inner w.heap.size W pr W1 := by
  obtain ⟨a2, rfl, hrd, hs, h1, h2, h3, h4⟩ := h
  refine ⟨a2, rfl, hrd, hb.trans ⟨h1, h2, h3, by omega, fun j hj => h4 j (by omega)⟩, by omega, fun j _ _ hj => h4 j hj⟩
theorem num_keeps {w W W0 W1 : World} {pr pg c k : Nat} {bs : List Nat} {v : Value} {e : Ending} (h : NumRet W pr pg c bs k v e W1) (hb : Below w.heap.size w W) (hp : w.heap.size ≤ pr) (hi : Inner w.heap.size W0 pr W) :
    e = .returned v ∧ Below w.heap.size w W1 ∧ Inner w.heap.size W0 pr W1 := by
  obtain ⟨a2, rfl, rfl, hrd⟩ := h
  refine ⟨rfl, hb.setCell (p := ⟨pr, 0, none⟩) hp _, by simp [World.setCell]; exact hi.1, fun k h1 h2 h3 => ?_⟩
  rw [Below.heap_setCell _ _ _ _ h3]
  exact hi.2 k h1 h2 h3
theorem wf_i64 {n : Int} (h : (Lit.int .i64 n).wf = true) : -9223372036854775808 ≤ n ∧ n ≤ 9223372036854775807 := by
  have hm : IntKind.i64.min = -9223372036854775808 := by decide
  have hM : IntKind.i64.max = 9223372036854775807 := by decide
  simp [Lit.wf, hm, hM] at h
  omega
theorem row_moved {w w' : World} {pw : Nat} {sv sv' : Value} {a : Option Addr} {len : Nat} {bs : List Nat} (h : Row w a len bs) (hm : Moved w pw sv sv' w') (hne : ∀ x, a = some x → x.block ≠ pw ∧ some x.block ≠ sv.ownBlock) : Row w' a len bs := by
  obtain ⟨h1, h2, h3⟩ := h
  refine ⟨h1, h2, fun h0 => ?_⟩
  obtain ⟨b, off, rfl, hc⟩ := h3 h0
  exact ⟨b, off, rfl, fun i hi => moved_cell hm (hc i hi) (hne _ rfl)⟩
theorem frozen_new (w : World) (t : TypeId) : (w.alloc (.cells #[.bool false] t)).frozen? ⟨w.heap.size, 0, none⟩ = false := by
  have h := heap_alloc_new w (.cells #[.bool false] t)
  unfold World.frozen?
  rw [show (w.alloc (.cells #[.bool false] t)).heap[(⟨w.heap.size, 0, none⟩ : Addr).block]? = some (.cells #[.bool false] t) from h]
  rfl
theorem setOne_after {w5 W w7 : World} {t : TypeId} (hq : SetOne (w5.alloc (.cells #[.bool false] t)) w5.heap.size (.bool true) W) (hb : Below (w5.alloc (.cells #[.bool false] t)).heap.size W w7) :
    Below w5.heap.size w5 w7 ∧ w7.cell? ⟨w5.heap.size, 0, none⟩ = some (.bool true) := by
  obtain ⟨W2, h2, rfl⟩ := hq
  have hs : (w5.alloc (.cells #[.bool false] t)).heap.size = w5.heap.size + 1 := by simp
  have hn := heap_alloc_new w5 (.cells #[.bool false] t)
  have h3 : W2.heap[w5.heap.size]? = some (.cells #[.bool false] t (0, 0)) := by rw [h2.block _ (by omega)]; exact hn
  have hc : W2.cell? ⟨w5.heap.size, 0, none⟩ = some (.bool false) := cell_of_heap1 h3
  refine ⟨?_, ?_⟩
  · exact ((bel_alloc (Below.refl _ w5) _).trans ((h2.mono (B' := w5.heap.size) (by omega)).setCell (p := ⟨w5.heap.size, 0, none⟩) (Nat.le_refl _) _)).trans (hb.mono (by omega))
  · rw [hb.cell (p := ⟨w5.heap.size, 0, none⟩) (by rw [hs]; exact Nat.lt_succ_self _)]
    simp [go_sem, hc]

theorem two_new (w5 : World) (u v : Value) (t t' : TypeId) : ((w5.alloc (.cells #[u] t)).alloc (.cells #[v] t')).cell? ⟨w5.heap.size, 0, none⟩ = some u ∧ ((w5.alloc (.cells #[u] t)).alloc (.cells #[v] t')).cell? ⟨w5.heap.size + 1, 0, none⟩ = some v ∧
    ((w5.alloc (.cells #[u] t)).alloc (.cells #[v] t')).frozen? ⟨w5.heap.size, 0, none⟩ = false ∧ ((w5.alloc (.cells #[u] t)).alloc (.cells #[v] t')).frozen? ⟨w5.heap.size + 1, 0, none⟩ = false := by
  have h1 : ((w5.alloc (.cells #[u] t)).alloc (.cells #[v] t')).heap[w5.heap.size]? = some (.cells #[u] t) := by
    rw [Below.heap_alloc _ _ _ (by simp)]; exact heap_alloc_new w5 _
  have h2 : ((w5.alloc (.cells #[u] t)).alloc (.cells #[v] t')).heap[w5.heap.size + 1]? = some (.cells #[v] t') := by
    have h := heap_alloc_new (w5.alloc (.cells #[u] t)) (.cells #[v] t')
    rw [show (w5.alloc (.cells #[u] t)).heap.size = w5.heap.size + 1 by simp] at h
    exact h
  refine ⟨cell_of_heap1 h1, cell_of_heap1 h2, ?_, ?_⟩
  · unfold World.frozen?; rw [show (_ : World).heap[(⟨w5.heap.size, 0, none⟩ : Addr).block]? = _ from h1]; rfl
  · unfold World.frozen?; rw [show (_ : World).heap[(⟨w5.heap.size + 1, 0, none⟩ : Addr).block]? = _ from h2]; rfl
theorem setTwo_after {w5 W w7 : World} {u v u' v' : Value} {t t' : TypeId} (hq : SetTwo ((w5.alloc (.cells #[u] t)).alloc (.cells #[v] t')) w5.heap.size u' (w5.heap.size + 1) v' W) (hb : Below ((w5.alloc (.cells #[u] t)).alloc (.cells #[v] t')).heap.size W w7) :
    Below w5.heap.size w5 w7 ∧ w7.cell? ⟨w5.heap.size, 0, none⟩ = some u' ∧ w7.cell? ⟨w5.heap.size + 1, 0, none⟩ = some v' := by
  obtain ⟨W2, h2, rfl⟩ := hq
  have hs : ((w5.alloc (.cells #[u] t)).alloc (.cells #[v] t')).heap.size = w5.heap.size + 2 := by simp
  obtain ⟨c1, c2, _, _⟩ := two_new w5 u v t t'
  have d1 := below_cell h2 c1
  have d2 := below_cell h2 c2
  have b1 : Below w5.heap.size w5 W2 := (bel_alloc (bel_alloc (Below.refl _ w5) _) _).trans (h2.mono (B' := w5.heap.size) (by omega))
  have b2 := (b1.setCell (p := ⟨w5.heap.size, 0, none⟩) (Nat.le_refl _) u').setCell (p := ⟨w5.heap.size + 1, 0, none⟩) (Nat.le_succ _) v'
  refine ⟨b2.trans (hb.mono (by omega)), ?_, ?_⟩
  · rw [hb.cell (p := ⟨w5.heap.size, 0, none⟩) (by rw [hs]; show w5.heap.size < w5.heap.size + 2; omega)]
    simp [go_sem, d1]
  · rw [hb.cell (p := ⟨w5.heap.size + 1, 0, none⟩) (by rw [hs]; show w5.heap.size + 1 < w5.heap.size + 2; omega)]
    simp [go_sem, d2]


end Go.Proofs.YtdpkinppkhnjkaaDoor
