/- gabionref04.New: what a chip's blocks are behind some rounds. -/
import Derived.Test.YtbfmpcomjmcfjaaQA
import Derived.Maps.AppendAt
namespace Go.Proofs.Ytbfmpcomjmcfjaa
open Go.RowKit Go.Deep

def upd (f : Nat → Nat) (k v j : Nat) : Nat := if j = k then v else f j
theorem upd_same (f : Nat → Nat) (k v : Nat) : upd f k v k = v := if_pos rfl
theorem upd_ne (f : Nat → Nat) {k v j : Nat} (h : j ≠ k) : upd f k v j = f j := if_neg h
def blkCells (b m : Nat) : List Value := [.slice (some ⟨b, 0, none⟩) m m, .int .i64 0, .int .i64 0, .bool false]
def blkRow (pb : Nat → Nat) (m k : Nat) : List Value := (List.range k).flatMap fun j => blkCells (pb j) m
theorem blkRow_len (pb : Nat → Nat) (m k : Nat) : (blkRow pb m k).length = k * 4 := by
  induction k with
  | zero => rfl
  | succ k ih => unfold blkRow at ih ⊢; rw [List.range_succ, List.flatMap_append, List.length_append, ih]; simp [blkCells]; omega
theorem blkRow_snoc (pb : Nat → Nat) (m k : Nat) : blkRow pb m (k + 1) = blkRow pb m k ++ blkCells (pb k) m := by
  unfold blkRow; rw [List.range_succ, List.flatMap_append]; simp
theorem blkRow_congr {pb pb' : Nat → Nat} {m k : Nat} (h : ∀ j, j < k → pb j = pb' j) : blkRow pb m k = blkRow pb' m k := by
  induction k with
  | zero => rfl
  | succ k ih => rw [blkRow_snoc, blkRow_snoc, ih (fun j hj => h j (by omega)), h k (by omega)]
theorem blkRow_at {pb : Nat → Nat} {m k j r : Nat} (hj : j < k) (hr : r < 4) : (blkRow pb m k)[j * 4 + r]? = (blkCells (pb j) m)[r]? := by
  induction k with
  | zero => omega
  | succ k ih =>
    rw [blkRow_snoc]
    by_cases e : j = k
    · subst e
      rw [List.getElem?_append_right (by rw [blkRow_len]; omega), blkRow_len, show j * 4 + r - j * 4 = r by omega]
    · rw [List.getElem?_append_left (by rw [blkRow_len]; omega)]
      exact ih (by omega)
theorem info_blk : (Try.prog.info? 54).map (fun i => (i.zero, i.size, i.bytes)) = some (some (.agg #[.slice none 0 0, .int .i64 0, .int .i64 0, .bool false]), 4, 48) := by kernel_rfl
/-- The blocks that stand in l, their pages in blocks of their own. -/
def RowI (lo m k : Nat) (sv : Value) (pb : Nat → Nat) (w : World) : Prop :=
  w.ownsRow lo 54 4 sv k (blkRow pb m k) ∧ (∀ j, j < k → lo ≤ pb j ∧ pb j < w.heap.size ∧ w.rowIs (pb j) 57 m (fun _ => .slice none 0 0) ∧ sv.ownBlock ≠ some (pb j)) ∧ (∀ j j', j < j' → j' < k → pb j < pb j')
theorem rowI_step {lo m k : Nat} {sv v' : Value} {pb : Nat → Nat} {w w2 w' : World} (h : RowI lo m k sv pb w) (hlo : lo ≤ w.heap.size) (h2 : w2 = (w.alloc (.cells (madeCells #[Value.slice none 0 0] m) 57)).alloc (.cells (blkCells w.heap.size m).toArray 54))
    (ho : w'.ownsRow lo 54 4 v' (k + 1) (blkRow pb m k ++ blkCells w.heap.size m)) (hg : w2.grownBy w' sv.ownBlock) (hv : v'.ownBlock = sv.ownBlock ∨ v'.ownBlock = some w2.heap.size) :
    RowI lo m (k + 1) v' (upd pb k w.heap.size) w' ∧ Below lo w w' := by
  obtain ⟨h1, hp, hord⟩ := h
  have hz2 : w2.heap.size = w.heap.size + 2 := by rw [h2]; simp
  have hnew := (World.rowIs_made w (.slice none 0 0) m 57).alloc (.cells (blkCells w.heap.size m).toArray 54)
  rw [← h2] at hnew
  have hsv : ∀ b, sv.ownBlock = some b → lo ≤ b ∧ b < w.heap.size := h1.lt
  have hb2 : Below lo w w2 := by rw [h2]; exact ((Below.refl lo w).alloc hlo _).alloc (by simp; omega) _
  have hsz := hg.size
  have hb : Below lo w w' := hb2.grown hg (by omega) (fun b hb => (hsv b hb).1)
  have hw2 : ∀ b, b < w.heap.size → w2.heap[b]? = w.heap[b]? := fun b hb => by
    rw [h2]
    exact (heap_alloc_old (by simp; omega) _).trans (heap_alloc_old hb _)
  refine ⟨⟨?_, fun j hj => ?_, fun j j' h3 h4 => ?_⟩, hb⟩
  · rw [blkRow_snoc, blkRow_congr (pb' := pb) (fun j hj => upd_ne pb (by omega)), upd_same]; exact ho
  · by_cases e : j = k
    · rw [e, upd_same]
      have hne : some w.heap.size ≠ sv.ownBlock := fun q => by have := (hsv _ q.symm).2; omega
      refine ⟨hlo, by omega, hnew.of_block (hg.block _ (by omega) hne), ?_⟩
      rcases hv with q | q
      · rw [q]; exact fun r => hne r.symm
      · rw [q]; intro r; have := Option.some.inj r; omega
    · rw [upd_ne pb e]
      obtain ⟨a1, a2, a3, a4⟩ := hp j (by omega)
      refine ⟨a1, by omega, a3.of_block ((hg.block _ (by omega) (fun q => a4 q.symm)).trans (hw2 _ a2)), ?_⟩
      rcases hv with q | q
      · rw [q]; exact a4
      · rw [q]; intro r; have := Option.some.inj r; omega
  · by_cases e : j' = k
    · rw [upd_ne pb (by omega), e, upd_same]
      exact (hp j (by omega)).2.1
    · rw [upd_ne pb (by omega), upd_ne pb e]
      exact hord j j' h3 (by omega)
/-- A chip whose blocks are made. -/
structure ChipAt (w : World) (lo hi bb bc : Nat) (pb : Nat → Nat) (n m : Nat) : Prop where
  row : w.ownsRow lo 54 4 (.slice (some ⟨bb, 0, none⟩) n bc) n (blkRow pb m n)
  lohi : lo ≤ bb ∧ bb < hi ∧ hi ≤ w.heap.size
  pg : ∀ j, j < n → lo ≤ pb j ∧ pb j < hi ∧ w.rowIs (pb j) 57 m (fun _ => .slice none 0 0) ∧ pb j ≠ bb
  ord : ∀ j j', j < j' → j' < n → pb j < pb j'
theorem chipAt_of {lo n m : Nat} {sv : Value} {pb : Nat → Nat} {w : World} (h : RowI lo m n sv pb w) (hn : 0 < n) : ∃ bb bc, sv = .slice (some ⟨bb, 0, none⟩) n bc ∧ ChipAt w lo w.heap.size bb bc pb n m ∧ n ≤ bc ∧ bc ≤ maxLen := by
  obtain ⟨h1, hp, hord⟩ := h
  have hlt := h1.lt
  have h1' := h1
  rcases h1.2 with ⟨_, h2⟩ | ⟨g, cap, cur, rfl, hb, _, hc1, hc2, _⟩
  · omega
  · exact ⟨g, cap, rfl, ⟨h1', ⟨hb, (hlt g rfl).2, Nat.le_refl _⟩, fun j hj => by
      obtain ⟨a1, a2, a3, a4⟩ := hp j hj
      exact ⟨a1, a2, a3, fun e => a4 (by rw [e]; rfl)⟩, hord⟩, hc1, hc2⟩
theorem ChipAt.keep {w w' : World} {lo hi bb bc n m : Nat} {pb : Nat → Nat} (h : ChipAt w lo hi bb bc pb n m) (hs : w.heap.size ≤ w'.heap.size) (he : ∀ b, lo ≤ b → b < hi → w'.heap[b]? = w.heap[b]?) : ChipAt w' lo hi bb bc pb n m := by
  refine ⟨⟨h.row.1, ?_⟩, ⟨h.lohi.1, h.lohi.2.1, Nat.le_trans h.lohi.2.2 hs⟩, fun j hj => ?_, h.ord⟩
  · rcases h.row.2 with h0 | ⟨g, cap, cur, e1, e2, e3, e4⟩
    · exact .inl h0
    · simp only [Value.slice.injEq, Option.some.injEq, Addr.mk.injEq, and_true, true_and] at e1
      refine .inr ⟨g, cap, cur, by rw [e1.1, e1.2], e2, ?_, e4⟩
      rw [← e1.1] at e3 ⊢
      rw [he _ h.lohi.1 h.lohi.2.1]; exact e3
  · obtain ⟨a1, a2, a3, a4⟩ := h.pg j hj
    exact ⟨a1, a2, a3.of_block (he _ a1 a2), a4⟩

def chipsRow (bb bc : Nat → Nat) (n k : Nat) : List Value := (List.range k).map fun i => .slice (some ⟨bb i, 0, none⟩) n (bc i)
theorem chipsRow_snoc (bb bc : Nat → Nat) (n k b c : Nat) : chipsRow (upd bb k b) (upd bc k c) n (k + 1) = chipsRow bb bc n k ++ [.slice (some ⟨b, 0, none⟩) n c] := by
  unfold chipsRow
  rw [List.range_succ, List.map_append]
  congr 1
  · exact List.map_congr_left fun i hi => by rw [List.mem_range] at hi; rw [upd_ne bb (by omega), upd_ne bc (by omega)]
  · simp [upd_same]
/-- What stands in memory behind kl chips' blocks, and kg marks. -/
structure OutI (pa kl kg : Nat) (g0 g1 g2 g3 : Nat) (ev Lv Gv : Value) (lo hi bb bc : Nat → Nat) (pb : Nat → Nat → Nat) (w : World) : Prop where
  st : w.heap[pa]? = some (.cells #[.int .i64 (g0 : Int), .int .i64 (g1 : Int), .int .i64 (g2 : Int), .int .i64 (g3 : Int), Lv, Gv, ev, .int .i64 0, .bool false] 48 (0, 0))
  rl : w.ownsRow (pa + 1) 55 1 Lv kl (chipsRow bb bc g1 kl)
  rg : w.ownsRow (pa + 1) 4 1 Gv kg (List.replicate kg (.bool false))
  ne : Lv.ownBlock = none ∨ Lv.ownBlock ≠ Gv.ownBlock
  ch : ∀ i, i < kl → pa + 1 ≤ lo i ∧ ChipAt w (lo i) (hi i) (bb i) (bc i) (pb i) g1 g2 ∧ g1 ≤ bc i ∧ bc i ≤ maxLen
  ord : ∀ i i', i < i' → i' < kl → hi i ≤ lo i'
  aL : ∀ i, i < kl → ∀ b, Lv.ownBlock = some b → b < lo i ∨ hi i ≤ b
  aG : ∀ i, i < kl → ∀ b, Gv.ownBlock = some b → b < lo i ∨ hi i ≤ b
theorem heap_set_st {w : World} {pa : Nat} {cs : Array Value} {t : TypeId} (h : w.heap[pa]? = some (.cells cs t (0, 0))) (k : Nat) (v : Value) : (w.setCell ⟨pa, k, none⟩ v).heap[pa]? = some (.cells (cs.setIfInBounds k v) t (0, 0)) :=
  heap_setCell_same w pa k cs t v h
theorem owns_set {w : World} {base : Nat} {e : TypeId} {size n : Nat} {v : Value} {xs : List Value} (h : w.ownsRow base e size v n xs) {a : Addr} (ha : a.block < base) (u : Value) : (w.setCell a u).ownsRow base e size v n xs := by
  refine ⟨h.1, ?_⟩
  rcases h.2 with h0 | ⟨g, cap, cur, e1, e2, e3, e4⟩
  · exact .inl h0
  · exact .inr ⟨g, cap, cur, e1, e2, by rw [heap_setCell_other w a g u (by omega)]; exact e3, e4⟩
theorem owns_below {w w' : World} {base : Nat} {e : TypeId} {size n : Nat} {v : Value} {xs : List Value} (h : w.ownsRow base e size v n xs) (hb : Below w.heap.size w w') : w'.ownsRow base e size v n xs := by
  have hlt := h.lt
  refine ⟨h.1, ?_⟩
  rcases h.2 with h0 | ⟨g, cap, cur, e1, e2, e3, e4⟩
  · exact .inl h0
  · exact .inr ⟨g, cap, cur, e1, e2, by rw [hb.block g (hlt g (by rw [e1]; rfl)).2]; exact e3, e4⟩
theorem OutI.palt {pa kl kg g0 g1 g2 g3 : Nat} {ev Lv Gv : Value} {lo hi bb bc : Nat → Nat} {pb : Nat → Nat → Nat} {w : World} (h : OutI pa kl kg g0 g1 g2 g3 ev Lv Gv lo hi bb bc pb w) : pa < w.heap.size := (Array.getElem?_eq_some_iff.1 h.st).1
theorem outL {pa k kg g0 g1 g2 g3 : Nat} {ev Lv Gv Lv' : Value} {lo hi bb bc : Nat → Nat} {pb : Nat → Nat → Nat} {wr w1 w2 w3 : World} {b c : Nat} {p : Nat → Nat} (h : OutI pa k kg g0 g1 g2 g3 ev Lv Gv lo hi bb bc pb wr)
    (hb1 : Below wr.heap.size wr w1) (hc : ChipAt w1 wr.heap.size w1.heap.size b c p g1 g2) (hcc : g1 ≤ c ∧ c ≤ maxLen) (h2 : w2 = w1.alloc (.cells #[.slice (some ⟨b, 0, none⟩) g1 c] 55))
    (ho : w3.ownsRow (pa + 1) 55 1 Lv' (k + 1) (chipsRow bb bc g1 k ++ [.slice (some ⟨b, 0, none⟩) g1 c])) (hg : w2.grownBy w3 Lv.ownBlock) (hv : Lv'.ownBlock = Lv.ownBlock ∨ Lv'.ownBlock = some w2.heap.size) :
    OutI pa (k + 1) kg g0 g1 g2 g3 ev Lv' Gv (upd lo k wr.heap.size) (upd hi k w1.heap.size) (upd bb k b) (upd bc k c) (fun i => if i = k then p else pb i) (w3.setCell ⟨pa, 4, none⟩ Lv') ∧ Below (pa + 1) w1 w3 ∧ w3.cell? ⟨pa, 4, none⟩ = some Lv := by
  have hpl := h.palt
  have hz2 : w2.heap.size = w1.heap.size + 1 := by rw [h2]; simp
  have hz1 := hb1.size
  have hz3 := hg.size
  have hLlt := h.rl.lt
  have hGlt := h.rg.lt
  have hb2 : Below w1.heap.size w1 w2 := by rw [h2]; exact bel_alloc (Below.refl _ w1) _
  have hb12 : Below wr.heap.size wr w2 := hb1.trans (hb2.mono hz1)
  have hoth : ∀ x, x < w2.heap.size → some x ≠ Lv.ownBlock → x ≠ pa → (w3.setCell ⟨pa, 4, none⟩ Lv').heap[x]? = w2.heap[x]? := fun x h3 h4 h5 => (heap_setCell_other w3 _ x Lv' h5).trans (hg.block x h3 h4)
  have hsz : (w3.setCell ⟨pa, 4, none⟩ Lv').heap.size = w3.heap.size := by simp
  have hpaL : some pa ≠ Lv.ownBlock := fun e => by have := (hLlt pa e.symm).1; omega
  have hst3 : w3.heap[pa]? = _ := (hg.block pa (by omega) hpaL).trans ((hb12.block pa hpl).trans h.st)
  have hLb : ∀ x, Lv'.ownBlock = some x → (x < wr.heap.size ∧ Lv.ownBlock = some x) ∨ x = w2.heap.size := fun x hx => by
    rcases hv with q | q
    · rw [q] at hx; exact .inl ⟨(hLlt x hx).2, hx⟩
    · rw [q] at hx; exact .inr (Option.some.inj hx).symm
  have hrg2 := owns_below h.rg hb12
  refine ⟨⟨?_, ?_, ?_, ?_, fun i hi' => ?_, fun i i' h3 h4 => ?_, fun i hi' x hx => ?_, fun i hi' x hx => ?_⟩, ?_⟩
  · have := heap_set_st hst3 4 Lv'
    simpa using this
  · rw [chipsRow_snoc]; exact owns_set ho (show pa < pa + 1 by omega) _
  · refine owns_set (hrg2.kept hg ?_) (show pa < pa + 1 by omega) _
    rcases h.ne with q | q
    · rw [q]
      cases hgo : Gv.ownBlock with
      | none => exact .inl rfl
      | some x => exact .inr (fun r => by cases r)
    · exact .inr fun r => q r.symm
  · rcases hv with q | q
    · rw [q]; exact h.ne
    · refine .inr fun r => ?_
      rw [q] at r
      have := (hGlt _ r.symm).2
      omega
  · by_cases e : i = k
    · subst e
      rw [upd_same, upd_same, upd_same, upd_same, if_pos rfl]
      refine ⟨hpl, hc.keep (by rw [hsz]; omega) fun x h3 h4 => ?_, hcc⟩
      rw [hoth x (by omega) (fun q => by have := (hLlt x q.symm).2; omega) (by omega)]
      exact hb2.block x h4
    · rw [upd_ne lo e, upd_ne hi e, upd_ne bb e, upd_ne bc e, if_neg e]
      obtain ⟨q1, q2, q3⟩ := h.ch i (by omega)
      have hhi := q2.lohi.2.2
      refine ⟨q1, q2.keep (by rw [hsz]; omega) fun x h3 h4 => ?_, q3⟩
      rw [hoth x (by omega) (fun q => by have := h.aL i (by omega) x q.symm; omega) (by omega)]
      exact hb12.block x (by omega)
  · by_cases e : i' = k
    · rw [upd_ne hi (by omega), e, upd_same]
      exact (h.ch i (by omega)).2.1.lohi.2.2
    · rw [upd_ne hi (by omega), upd_ne lo e]
      exact h.ord i i' h3 (by omega)
  · by_cases e : i = k
    · rw [e, upd_same, upd_same]
      rcases hLb x hx with q | q <;> omega
    · rw [upd_ne lo e, upd_ne hi e]
      have hhi := (h.ch i (by omega)).2.1.lohi.2.2
      rcases hLb x hx with q | q
      · exact h.aL i (by omega) x q.2
      · omega
  · by_cases e : i = k
    · rw [e, upd_same, upd_same]
      have := (hGlt x hx).2; omega
    · rw [upd_ne lo e, upd_ne hi e]
      exact h.aG i (by omega) x hx
  · exact ⟨(hb2.mono (by omega)).grown hg (by omega) (fun x hx => (hLlt x hx).1), by simp [World.cell?, hst3]⟩
theorem outG {pa k kg g0 g1 g2 g3 : Nat} {ev Lv Gv Gv' : Value} {lo hi bb bc : Nat → Nat} {pb : Nat → Nat → Nat} {wr w2 w3 : World} (h : OutI pa k kg g0 g1 g2 g3 ev Lv Gv lo hi bb bc pb wr)
    (h2 : w2 = wr.alloc (.cells #[.bool false] 4)) (ho : w3.ownsRow (pa + 1) 4 1 Gv' (kg + 1) (List.replicate kg (.bool false) ++ [.bool false])) (hg : w2.grownBy w3 Gv.ownBlock) (hv : Gv'.ownBlock = Gv.ownBlock ∨ Gv'.ownBlock = some w2.heap.size) :
    OutI pa k (kg + 1) g0 g1 g2 g3 ev Lv Gv' lo hi bb bc pb (w3.setCell ⟨pa, 5, none⟩ Gv') ∧ Below (pa + 1) wr w3 ∧ w3.cell? ⟨pa, 5, none⟩ = some Gv := by
  have hpl := h.palt
  have hz2 : w2.heap.size = wr.heap.size + 1 := by rw [h2]; simp
  have hz3 := hg.size
  have hLlt := h.rl.lt
  have hGlt := h.rg.lt
  have hb2 : Below wr.heap.size wr w2 := by rw [h2]; exact bel_alloc (Below.refl _ wr) _
  have hoth : ∀ x, x < w2.heap.size → some x ≠ Gv.ownBlock → x ≠ pa → (w3.setCell ⟨pa, 5, none⟩ Gv').heap[x]? = w2.heap[x]? := fun x h3 h4 h5 => (heap_setCell_other w3 _ x Gv' h5).trans (hg.block x h3 h4)
  have hsz : (w3.setCell ⟨pa, 5, none⟩ Gv').heap.size = w3.heap.size := by simp
  have hpaG : some pa ≠ Gv.ownBlock := fun e => by have := (hGlt pa e.symm).1; omega
  have hst3 : w3.heap[pa]? = _ := (hg.block pa (by omega) hpaG).trans ((hb2.block pa hpl).trans h.st)
  have hGb : ∀ x, Gv'.ownBlock = some x → (x < wr.heap.size ∧ Gv.ownBlock = some x) ∨ x = w2.heap.size := fun x hx => by
    rcases hv with q | q
    · rw [q] at hx; exact .inl ⟨(hGlt x hx).2, hx⟩
    · rw [q] at hx; exact .inr (Option.some.inj hx).symm
  have hrl2 := owns_below h.rl hb2
  refine ⟨⟨?_, ?_, ?_, ?_, fun i hi' => ?_, h.ord, h.aL, fun i hi' x hx => ?_⟩, ?_⟩
  · have := heap_set_st hst3 5 Gv'
    simpa using this
  · exact owns_set (hrl2.kept hg h.ne) (show pa < pa + 1 by omega) _
  · rw [List.replicate_succ']; exact owns_set ho (show pa < pa + 1 by omega) _
  · rcases hv with q | q
    · rw [q]; exact h.ne
    · refine .inr fun r => ?_
      rw [q] at r
      have := (hLlt _ r).2
      omega
  · obtain ⟨q1, q2, q3⟩ := h.ch i hi'
    have hhi := q2.lohi.2.2
    refine ⟨q1, q2.keep (by rw [hsz]; omega) fun x h3 h4 => ?_, q3⟩
    rw [hoth x (by omega) (fun q => by have := h.aG i hi' x q.symm; omega) (by omega)]
    exact hb2.block x (by omega)
  · have hhi := (h.ch i hi').2.1.lohi.2.2
    rcases hGb x hx with q | q
    · exact h.aG i hi' x q.2
    · omega
  · exact ⟨(hb2.mono (by omega)).grown hg (by omega) (fun x hx => (hGlt x hx).1), by simp [World.cell?, hst3]⟩

end Go.Proofs.Ytbfmpcomjmcfjaa
