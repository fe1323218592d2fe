/- CursorPads' own function. -/
import Derived.Test.YteemegigooafkaaReaderZero
namespace Go.Proofs.Yteemegigooafkaa
open Go.RowKit

/-- Behind the reader's Raw. -/
theorem raw_keeps {w W W1 : World} {pr pg c n : Nat} {bs : List Nat} {e : Ending} (h : RawRet W pr pg c bs n e W1) (hb : Below w.heap.size w W) (hp : w.heap.size ≤ pr) :
    ∃ a2 sv, e = .returned sv ∧ RD W1 pr pg a2 (c - n) (bs.drop n) ∧ Below w.heap.size w W1 ∧ Inner w.heap.size W pr W1 := by
  obtain ⟨a2, w1, rfl, hrd, hb1, sv, rfl, _⟩ := h
  have hs : (W.setCell ⟨pr, 0, none⟩ (.slice a2 (bs.length - n) (c - n))).heap.size = W.heap.size := by simp [World.setCell]
  have hz := hb.size
  have hz1 := hb1.size
  refine ⟨a2, sv, rfl, hrd, (hb.setCell (p := ⟨pr, 0, none⟩) hp _).trans (hb1.mono (by omega)), by omega, fun k h1 h2 h3 => ?_⟩
  rw [hb1.block k (by omega)]
  exact Below.heap_setCell _ _ _ _ h3
theorem inner_below {w W W1 W2 : World} {pr : Nat} (h : Inner w.heap.size W pr W1) (hb : Below W1.heap.size W1 W2) : Inner w.heap.size W pr W2 := by
  refine ⟨Nat.le_trans h.1 hb.size, fun k h1 h2 h3 => ?_⟩
  rw [hb.block k (Nat.lt_of_lt_of_le h2 h.1)]
  exact h.2 k h1 h2 h3
theorem inner_set {w W W1 : World} {pr z : Nat} (h : Inner w.heap.size W pr W1) (hz : z < w.heap.size) (v : Value) : Inner w.heap.size W pr (W1.setCell ⟨z, 0, none⟩ v) := by
  refine ⟨by simp [World.setCell]; exact h.1, fun k h1 h2 h3 => ?_⟩
  rw [Below.heap_setCell _ _ _ _ (by show k ≠ z; omega)]
  exact h.2 k h1 h2 h3
/-- What a function that tells one thing leaves: one variable of the caller's is set. -/
def SetOne (w : World) (z : Nat) (v : Value) (W : World) : Prop := ∃ W2, Below w.heap.size w W2 ∧ W = W2.setCell ⟨z, 0, none⟩ v
set_option maxHeartbeats 400000 in
theorem padsBy (aB aZ lb cb : Nat) (ab : Option Addr) (vz : Value) (w : World) (bs : List Nat) (hB : w.cell? ⟨aB, 0, none⟩ = some (.slice ab lb cb)) (hZ : w.cell? ⟨aZ, 0, none⟩ = some vz) (hF : w.frozen? ⟨aZ, 0, none⟩ = false)
    (hn : lb ≤ bs.length) (hl : bs.length ≤ 100000) (hz : ∀ i, i < bs.length - lb → (bs.drop lb).getD i 0 = 0) :
    ByOk 44 #[.pointer (some ⟨aB, 0, none⟩), .pointer (some ⟨aZ, 0, none⟩)] bs w (SetOne w aZ (.bool true)) := by
  intro W pr pg a c hrd hb hp
  have ltB : aB < w.heap.size := World.block_lt_of_cell? w ⟨aB, 0, none⟩ hB
  have ltZ : aZ < w.heap.size := World.block_lt_of_cell? w ⟨aZ, 0, none⟩ hZ
  have hB1 := hb.cell (p := ⟨aB, 0, none⟩) ltB
  rw [hB] at hB1
  have HRD := Lib.hid hrd
  have HB := Lib.hid hb
  clear hrd hb hB
  show Calls Try.prog _ #[.pointer (some ⟨pr, 0, none⟩), .pointer (some ⟨aB, 0, none⟩), .pointer (some ⟨aZ, 0, none⟩)] W _
  go_enter Try.func44, Try.ntmps44
  go_wp2_with fail
  refine (rRaw_ok lb HRD.out hn hl).mono ?_
  intro e w1 h1
  obtain ⟨a2, sv, rfl, hrd1, hb1, hi1⟩ := raw_keeps h1 HB.out hp
  clear h1
  go_wp2_with fail
  refine (rZero_ok hrd1 ?_ ?_).mono ?_
  · intro i hi
    rw [List.length_drop] at hi
    exact hz i hi
  · rw [List.length_drop]; omega
  rintro e w2 ⟨rfl, hb2⟩
  have hb3 : Below w.heap.size w w2 := hb1.trans (hb2.mono hb1.size)
  have hZ2 := hb3.cell (p := ⟨aZ, 0, none⟩) ltZ
  have hF2 := hb3.frozen (p := ⟨aZ, 0, none⟩) ltZ
  rw [hZ] at hZ2
  rw [hF] at hF2
  go_wp2
  go_end0
  exact ⟨rfl, inner_set (inner_below hi1 hb2) ltZ _, w2, hb3, rfl⟩

end Go.Proofs.Yteemegigooafkaa
