/- The writer in memory; what its calls leave; Raw, Same, Clone, Bytes. -/
import Derived.Test.YtallambldbhibaaAppend
namespace Go.Proofs.Ytallambldbhibaa
open Go.RowKit

/-- A writer: its one field holds bytes of the call's own. -/
def WR (B : Nat) (w : World) (pw : Nat) (sv : Value) (bs : List Nat) : Prop :=
  B ≤ pw ∧ w.heap[pw]? = some (.cells #[sv] 184 (0, 0)) ∧ Own B w sv bs ∧ sv.ownBlock ≠ some pw
/-- What a call of the writer leaves of all other memory. -/
structure Moved (w : World) (pw : Nat) (sv sv' : Value) (w' : World) : Prop where
  os : w'.os = w.os
  tape : w'.tape = w.tape
  output : w'.output = w.output
  size : w.heap.size ≤ w'.heap.size
  block : ∀ k, k < w.heap.size → k ≠ pw → some k ≠ sv.ownBlock → w'.heap[k]? = w.heap[k]?
  where_ : sv'.ownBlock = sv.ownBlock ∨ sv'.ownBlock = none ∨ ∃ k, sv'.ownBlock = some k ∧ w.heap.size ≤ k
theorem Moved.refl (w : World) (pw : Nat) (sv : Value) : Moved w pw sv sv w := ⟨rfl, rfl, rfl, Nat.le_refl _, fun _ _ _ _ => rfl, .inl rfl⟩
theorem Moved.trans {w w1 w2 : World} {pw : Nat} {sv sv1 sv2 : Value} (h : Moved w pw sv sv1 w1) (k : Moved w1 pw sv1 sv2 w2) : Moved w pw sv sv2 w2 := by
  refine ⟨k.os.trans h.os, k.tape.trans h.tape, k.output.trans h.output, Nat.le_trans h.size k.size, fun j hj hp ho => ?_, ?_⟩
  · rw [k.block j (Nat.lt_of_lt_of_le hj h.size) hp ?_, h.block j hj hp ho]
    intro e
    rcases h.where_ with h1 | h1 | ⟨i, h1, h2⟩
    · exact ho (by rw [e, h1])
    · rw [h1] at e; cases e
    · rw [h1] at e; cases e; omega
  · rcases k.where_ with h1 | h1 | ⟨i, h1, h2⟩
    · rw [h1]; exact h.where_
    · exact .inr (.inl h1)
    · exact .inr (.inr ⟨i, h1, Nat.le_trans h.size h2⟩)
theorem Moved.below {B : Nat} {w w' : World} {pw : Nat} {sv sv' : Value} {bs : List Nat} (h : Moved w pw sv sv' w') (hw : WR B w pw sv bs) (hB : B ≤ w.heap.size) : Below B w w' :=
  ⟨h.os, h.tape, h.output, h.size, fun k hk => h.block k (by omega) (by have := hw.1; omega) (fun e => by have := own_base hw.2.2.1 k e.symm; omega)⟩
/-- Memory is made: the writer is as it was. -/
theorem moved_of_below {w w' : World} (hb : Below w.heap.size w w') (pw : Nat) (sv : Value) : Moved w pw sv sv w' :=
  ⟨hb.os, hb.tape, hb.output, hb.size, fun k hk _ _ => hb.block k hk, .inl rfl⟩
theorem wr_keep {B : Nat} {w w' : World} {pw : Nat} {sv : Value} {bs : List Nat} (h : WR B w pw sv bs) (hb : Below w.heap.size w w') : WR B w' pw sv bs := by
  obtain ⟨h1, h2, h3, h4⟩ := h
  have hlt : pw < w.heap.size := by
    rcases Nat.lt_or_ge pw w.heap.size with h | h
    · exact h
    · rw [Array.getElem?_eq_none h] at h2; cases h2
  refine ⟨h1, by rw [hb.block pw hlt]; exact h2, ⟨⟨h3.1.1, ?_⟩, h3.2⟩, h4⟩
  rcases h3.1.2 with h0 | ⟨g, cap, cur, e1, e2, e3, e4⟩
  · exact .inl h0
  · refine .inr ⟨g, cap, cur, e1, e2, ?_, e4⟩
    have hg := own_base h3 g (by rw [e1]; rfl)
    rw [hb.block g hg.2]; exact e3
theorem wr_lt {B : Nat} {w : World} {pw : Nat} {sv : Value} {bs : List Nat} (h : WR B w pw sv bs) : pw < w.heap.size := by
  rcases Nat.lt_or_ge pw w.heap.size with h0 | h0
  · exact h0
  · have := h.2.1; rw [Array.getElem?_eq_none h0] at this; cases this
theorem wr_cell {B : Nat} {w : World} {pw : Nat} {sv : Value} {bs : List Nat} (h : WR B w pw sv bs) : w.cell? ⟨pw, 0, none⟩ = some sv := by
  simp [World.cell?, h.2.1]
theorem wr_frozen {B : Nat} {w : World} {pw : Nat} {sv : Value} {bs : List Nat} (h : WR B w pw sv bs) : w.frozen? ⟨pw, 0, none⟩ = false := by
  simp [World.frozen?, h.2.1]
theorem wr_shape {B : Nat} {w : World} {pw : Nat} {sv : Value} {bs : List Nat} (h : WR B w pw sv bs) : ∃ a c, sv = .slice a bs.length c ∧ Row w a bs.length bs ∧ (a = none → c = 0) ∧ bs.length ≤ maxLen := by
  obtain ⟨a, c, h1, h2, h3⟩ := row_of_own h.2.2.1
  refine ⟨a, c, h1, h2, fun ha => ?_, h3⟩
  rcases h.2.2.1.1.2 with ⟨e, _⟩ | ⟨g, cap, cur, e, _⟩
  · rw [h1] at e
    simp only [Value.slice.injEq] at e
    exact e.2.2
  · rw [h1] at e
    simp only [Value.slice.injEq] at e
    rw [ha] at e
    cases e.1
/-- What a call of the writer ends with. -/
def WRet (w : World) (pw B : Nat) (sv : Value) (bs : List Nat) (e : Ending) (w' : World) : Prop :=
  e = .returned (.pointer (some ⟨pw, 0, none⟩)) ∧ ∃ sv', WR B w' pw sv' bs ∧ Moved w pw sv sv' w'

/-- Behind an append onto the writer's own bytes, and the store of what it gave. -/
theorem wr_stored {B : Nat} {w w1 : World} {pw : Nat} {sv sv1 : Value} {bs bs1 : List Nat} (h : WR B w pw sv bs) (ha : Apd B w sv bs1 sv1 w1) :
    WR B (w1.setCell ⟨pw, 0, none⟩ sv1) pw sv1 bs1 ∧ Moved w pw sv sv1 (w1.setCell ⟨pw, 0, none⟩ sv1) := by
  have hlt := wr_lt h
  have h1 : w1.heap[pw]? = some (.cells #[sv] 184 (0, 0)) := by rw [ha.grown.block pw hlt (fun e => h.2.2.2 e.symm)]; exact h.2.1
  have hne : sv1.ownBlock ≠ some pw := by
    rcases ha.where_ with e | e
    · rw [e]; exact h.2.2.2
    · rw [e]; intro e2; cases e2; omega
  have hs : (w1.setCell ⟨pw, 0, none⟩ sv1).heap[pw]? = some (.cells #[sv1] 184 (0, 0)) := by
    have := heap_setCell_same w1 pw 0 #[sv] 184 sv1 h1
    simpa using this
  refine ⟨⟨h.1, hs, ⟨⟨ha.own.1.1, ?_⟩, ha.own.2⟩, hne⟩, ⟨ha.grown.os, ha.grown.tape, ha.grown.output, by have := ha.grown.size; simpa using this, fun k hk hp ho => ?_, ?_⟩⟩
  · rcases ha.own.1.2 with h0 | ⟨g, cap, cur, e1, e2, e3, e4⟩
    · exact .inl h0
    · refine .inr ⟨g, cap, cur, e1, e2, ?_, e4⟩
      have hg : g ≠ pw := fun e => hne (by rw [e1, e]; rfl)
      rw [Below.heap_setCell w1 ⟨pw, 0, none⟩ sv1 g hg]; exact e3
  · rw [Below.heap_setCell w1 ⟨pw, 0, none⟩ sv1 k hp]
    exact ha.grown.block k hk ho
  · rcases ha.where_ with e | e
    · exact .inl e
    · exact .inr (.inr ⟨_, e, Nat.le_refl _⟩)

set_option maxHeartbeats 400000 in
theorem raw_any (pw B : Nat) (sv : Value) (bs : List Nat) (w : World) (hw : WR B w pw sv bs) (hB : B ≤ w.heap.size) (xa : Option Addr) (m c : Nat) (cs : List Nat) (hr : Row w xa m cs) (hc : xa = none → c = 0) (hlen : bs.length + m ≤ 140737488355328) :
    Calls Try.prog 108 #[.pointer (some ⟨pw, 0, none⟩), .slice xa m c] w (WRet w pw B sv (bs ++ cs)) := by
  have hcell := wr_cell hw
  have hfr := wr_frozen hw
  go_enter Try.func108, Try.ntmps108
  go_wp2_with (at_builtin; refine wpList_app rfl _ _ rfl B sv bs rfl hw.2.2.1 _ _ _ cs rfl hr hc hB hlen ?_)
  intro v1 w1 hap
  obtain ⟨a1, c1, hv1, _⟩ := row_of_own hap.own
  rw [List.length_append] at hv1
  have hst := wr_stored hw hap
  subst hv1
  have hcell1 : w1.cell? ⟨pw, 0, none⟩ = some sv := by rw [World.cell?_of_block (hap.grown.block pw (wr_lt hw) (fun e => hw.2.2.2 e.symm))]; exact hcell
  have hfr1 : w1.frozen? ⟨pw, 0, none⟩ = false := by rw [World.frozen?_of_block (hap.grown.block pw (wr_lt hw) (fun e => hw.2.2.2 e.symm))]; exact hfr
  clear hcell hfr
  go_wp2
  go_ret
  exact ⟨rfl, _, hst.1, hst.2⟩

end Go.Proofs.Ytallambldbhibaa
