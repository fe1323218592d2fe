/- Parts of the proof: ReaderEnds, ReadDies, RefText, TwoRows, Laid, Lay. -/
import Derived.Test.YthgcjiocelcblaaGreatK03
import Derived.Test.YthgcjiocelcblaaGreatK02
import Derived.Lib.AppendStr
import Derived.Test.YthgcjiocelcblaaGreatK01
namespace Go.Proofs.YthgcjiocelcblaaGreat
open Go.RowKit

/-- A reading in memory. -/
def RG (w : World) (pg : Nat) (sh : Bool) : Prop := w.heap[pg]? = some (.cells #[.bool sh, .bool false] 112 (0, 0))
theorem rg_cells {w : World} {pg : Nat} {sh : Bool} (h : RG w pg sh) : w.cell? ⟨pg, 0, none⟩ = some (.bool sh) ∧ w.frozen? ⟨pg, 0, none⟩ = false := by
  unfold RG at h
  constructor <;> simp [World.cell?, World.frozen?, h]
theorem rg_ne {w : World} {pr pg pg2 c : Nat} {a : Option Addr} {bs : List Nat} {sh : Bool} (h : RD w pr pg2 a c bs) (hg : RG w pg sh) : pr ≠ pg := fun e => by
  subst e
  have h1 := h.1
  unfold RG at hg
  rw [hg] at h1
  cases h1
/-- What a reader gives up with. -/
def outChain (pg : Nat) : List PanicEntry := [{ v := .iface 114 (.agg #[.pointer (some ⟨pg, 0, none⟩)]), recovered := false }]
/-- What is left where a reader gave up. -/
def Died (w : World) (pr pg : Nat) (e : Ending) (w' : World) : Prop :=
  e = .panicked (outChain pg) ∧ RG w' pg true ∧ w.heap.size ≤ w'.heap.size ∧ w'.os = w.os ∧ w'.tape = w.tape ∧ w'.output = w.output ∧ ∀ k, k ≠ pr → k ≠ pg → w'.heap[k]? = w.heap[k]?
theorem rg_set {w : World} {pg : Nat} {sh : Bool} (h : RG w pg sh) : RG (w.setCell ⟨pg, 0, none⟩ (.bool true)) pg true := by
  have hlt : pg < w.heap.size := by
    rcases Nat.lt_or_ge pg w.heap.size with h1 | h1
    · exact h1
    · unfold RG at h; rw [Array.getElem?_eq_none h1] at h; cases h
  unfold RG at h ⊢
  simp [World.setCell, Array.getElem?_modify, h]
theorem died_set {w : World} {pr pg : Nat} {sh : Bool} (hg : RG w pg sh) : Died w pr pg (.panicked (outChain pg)) (w.setCell ⟨pg, 0, none⟩ (.bool true)) :=
  ⟨rfl, rg_set hg, by simp [World.setCell], rfl, rfl, rfl, fun _ _ h2 => Below.heap_setCell _ _ _ _ h2⟩
set_option maxHeartbeats 400000 in
theorem giveUp_dies {w : World} {pr pg c : Nat} {a : Option Addr} {bs : List Nat} {sh : Bool} (h : RD w pr pg a c bs) (hg : RG w pg sh) :
    Calls Tryz.prog 85 #[.pointer (some ⟨pr, 0, none⟩)] w (Died w pr pg) := by
  obtain ⟨h0, h1, h2⟩ := rd_cells h
  obtain ⟨g0, g1⟩ := rg_cells hg
  have hne := rg_ne h hg
  have h1' : (w.setCell ⟨pg, 0, none⟩ (.bool true)).cell? ⟨pr, 1, none⟩ = some (.pointer (some ⟨pg, 0, none⟩)) := by
    rw [World.cell?_setCell_other _ _ _ _ (fun e => by cases e)]; exact h1
  have HG := Lib.hid hg
  clear h hg hne
  go_enter Tryz.func85, Tryz.ntmps85
  go_wp2
  exact ⟨rfl, died_set HG.out⟩
set_option maxHeartbeats 400000 in
theorem take_dies {w : World} {pr pg c : Nat} {a : Option Addr} {bs : List Nat} {sh : Bool} (n : Int) (h : RD w pr pg a c bs) (hg : RG w pg sh) (hn : n < 0 ∨ (0 ≤ n ∧ (bs.length : Int) < n)) :
    Calls Tryz.prog 65 #[.pointer (some ⟨pr, 0, none⟩), .int .i64 n] w (Died w pr pg) := by
  have HH := Lib.hid h
  have HG := Lib.hid hg
  have hbs : bs.length ≤ maxLen := by have := h.2.2.2.1; have := h.2.2.2.2.1; omega
  unfold maxLen at hbs
  clear h hg
  rcases hn with hn | ⟨hn0, hn⟩
  · go_enter Tryz.func65, Tryz.ntmps65
    go_wp2_with fail
    refine (giveUp_dies HH.out HG.out).mono ?_
    rintro e w1 hd
    obtain rfl := hd.1
    exact ⟨rfl, hd⟩
  · go_enter Tryz.func65, Tryz.ntmps65
    go_wp2_with fail
    refine (left_ok HH.out).mono ?_
    rintro e w1 ⟨rfl, rfl⟩
    go_wp2_with fail
    refine (giveUp_dies HH.out HG.out).mono ?_
    rintro e w1 hd
    obtain rfl := hd.1
    exact ⟨rfl, hd⟩
set_option maxHeartbeats 400000 in
theorem number_dies {w : World} {pr pg c : Nat} {a : Option Addr} {bs : List Nat} {sh : Bool} (n : Nat) (h : RD w pr pg a c bs) (hg : RG w pg sh) (hn : bs.length < n) :
    Calls Tryz.prog 49 #[.pointer (some ⟨pr, 0, none⟩), .int .i64 (n : Int)] w (Died w pr pg) := by
  have HD := Lib.hid (take_dies (n : Int) h hg (.inr ⟨by omega, by omega⟩))
  clear h hg hn
  go_enter Tryz.func49, Tryz.ntmps49
  go_wp2_with fail
  refine HD.out.mono ?_
  rintro e w1 hd
  obtain rfl := hd.1
  exact ⟨rfl, hd⟩
set_option maxHeartbeats 400000 in
theorem rU8_dies {w : World} {pr pg c : Nat} {a : Option Addr} {bs : List Nat} {sh : Bool} (h : RD w pr pg a c bs) (hg : RG w pg sh) (hn : bs.length < 1) :
    Calls Tryz.prog 117 #[.pointer (some ⟨pr, 0, none⟩)] w (Died w pr pg) := by
  have HD := Lib.hid (number_dies 1 h hg hn)
  clear h hg hn
  go_enter Tryz.func117, Tryz.ntmps117
  go_wp2_with fail
  refine HD.out.mono ?_
  rintro e w1 hd
  obtain rfl := hd.1
  exact ⟨rfl, hd⟩
set_option maxHeartbeats 400000 in
theorem rU16_dies {w : World} {pr pg c : Nat} {a : Option Addr} {bs : List Nat} {sh : Bool} (h : RD w pr pg a c bs) (hg : RG w pg sh) (hn : bs.length < 2) :
    Calls Tryz.prog 116 #[.pointer (some ⟨pr, 0, none⟩)] w (Died w pr pg) := by
  have HD := Lib.hid (number_dies 2 h hg hn)
  clear h hg hn
  go_enter Tryz.func116, Tryz.ntmps116
  go_wp2_with fail
  refine HD.out.mono ?_
  rintro e w1 hd
  obtain rfl := hd.1
  exact ⟨rfl, hd⟩
set_option maxHeartbeats 400000 in
theorem rU32_dies {w : World} {pr pg c : Nat} {a : Option Addr} {bs : List Nat} {sh : Bool} (h : RD w pr pg a c bs) (hg : RG w pg sh) (hn : bs.length < 4) :
    Calls Tryz.prog 30 #[.pointer (some ⟨pr, 0, none⟩)] w (Died w pr pg) := by
  have HD := Lib.hid (number_dies 4 h hg hn)
  clear h hg hn
  go_enter Tryz.func30, Tryz.ntmps30
  go_wp2_with fail
  refine HD.out.mono ?_
  rintro e w1 hd
  obtain rfl := hd.1
  exact ⟨rfl, hd⟩
theorem died_num {w w1 w' : World} {pr pg c n : Nat} {bs : List Nat} {v : Value} {e e' : Ending} (h : NumRet w pr pg c bs n v e' w1) (hd : Died w1 pr pg e w') : Died w pr pg e w' := by
  obtain ⟨a2, _, rfl, _⟩ := h
  obtain ⟨d1, d2, d3, d4, d5, d6, d7⟩ := hd
  refine ⟨d1, d2, ?_, d4, d5, d6, fun k k1 k2 => ?_⟩
  · simpa [World.setCell] using d3
  · rw [d7 k k1 k2]; exact Below.heap_setCell _ _ _ _ k1
end Go.Proofs.YthgcjiocelcblaaGreat

namespace Go.Proofs.YthgcjiocelcblaaGreat
open Go.RowKit

theorem eql_reading (pg : Nat) (w : World) : (binOp .eql 110 (.pointer (some ⟨pg, 0, none⟩)) (.pointer (some ⟨pg, 0, none⟩))).run Tryz.prog w = .ok (.bool true) w := by
  have h : ∀ d : Nat, (Op.equalIn (d + 1) 110 (.pointer (some ⟨pg, 0, none⟩)) (.pointer (some ⟨pg, 0, none⟩))).run Tryz.prog w = .ok true w := fun d => by
    have hs : (sameAddr ⟨pg, 0, none⟩ ⟨pg, 0, none⟩).run Tryz.prog w = .ok true w := by simp [sameAddr]
    simp [Op.equalIn, run_underlying Tryz.underlying110, hs]
  simp only [binOp]
  simp [Op.equal, Op.maxDepth, h 9999]
theorem endedBy_own (pg : Nat) (w : World) :
    Calls Tryz.prog 48 #[.pointer (some ⟨pg, 0, none⟩), .agg #[.pointer (some ⟨pg, 0, none⟩)]] w fun e w' => e = .returned (.bool true) ∧ w' = w.alloc (.cells #[.pointer (some ⟨pg, 0, none⟩)] 114) := by
  have hq := eql_reading pg
  go_enter Tryz.func48, Tryz.ntmps48
  go_wp2
  go_ret
  exact ⟨rfl, rfl⟩
theorem assert_out (w : World) (p : Value) : (Instr.typeAssert (.iface 114 (.agg #[p])) 20 114 true).run Tryz.prog w = .ok (.tuple #[.agg #[p], .bool true]) w := by kernel_rfl
/-- The world in which the reader's end is looked at. -/
theorem done_world {s : Nat} {w w2 : World} {p : Value} {t : TypeId} (h2 : w.cell? ⟨s + 2, 0, none⟩ = some (.pointer (some ⟨s + 1, 0, none⟩)))
    (hw : w2 = (w.setCell ⟨s + 1, 1, none⟩ (.bool true)).alloc (.cells #[p] t)) : w2.cell? ⟨s + 2, 0, none⟩ = some (.pointer (some ⟨s + 1, 0, none⟩)) ∧ w2.cell? ⟨w.heap.size, 0, none⟩ = some p := by
  subst hw
  have h3 : (w.setCell ⟨s + 1, 1, none⟩ (.bool true)).cell? ⟨s + 2, 0, none⟩ = some (.pointer (some ⟨s + 1, 0, none⟩)) := by
    rw [World.cell?_setCell_other _ _ _ _ (fun e => by have := congrArg Addr.block e; simp at this)]; exact h2
  have hz : (w.setCell ⟨s + 1, 1, none⟩ (.bool true)).heap.size = w.heap.size := by simp [World.setCell]
  refine ⟨cell_bel (bel_alloc (Below.refl _ _) _) h3, ?_⟩
  have h4 := cell_new1 (w.setCell ⟨s + 1, 1, none⟩ (.bool true)) p t
  rw [hz] at h4
  exact h4
theorem done_store {s : Nat} {w w2 w3 : World} {v0 : Value} {o o2 : Obj} (hE0 : w.cell? ⟨s, 0, none⟩ = some v0) (hE1 : w.frozen? ⟨s, 0, none⟩ = false)
    (hw : w2 = (w.setCell ⟨s + 1, 1, none⟩ (.bool true)).alloc o) (hw3 : w3 = w2.alloc o2) : w3.cell? ⟨s, 0, none⟩ = some v0 ∧ w3.frozen? ⟨s, 0, none⟩ = false := by
  subst hw hw3
  have hlt : s < w.heap.size := World.block_lt_of_cell? w ⟨s, 0, none⟩ hE0
  have hz : (w.setCell ⟨s + 1, 1, none⟩ (.bool true)).heap.size = w.heap.size := by simp [World.setCell]
  have hb : (((w.setCell ⟨s + 1, 1, none⟩ (.bool true)).alloc o).alloc o2).heap[s]? = w.heap[s]? := by
    rw [Below.heap_alloc _ _ _ (by simp [World.setCell]; omega), Below.heap_alloc _ _ _ (by omega), Below.heap_setCell _ _ _ _ (by show s ≠ s + 1; omega)]
  exact ⟨by rw [World.cell?_of_block (w := w) (a := ⟨s, 0, none⟩) hb]; exact hE0, by rw [World.frozen?_of_block (w := w) (a := ⟨s, 0, none⟩) hb]; exact hE1⟩
set_option maxRecDepth 100000 in
set_option maxHeartbeats 600000 in
theorem readDone_dies (s : Nat) (w : World) {v0 : Value} (hE0 : w.cell? ⟨s, 0, none⟩ = some v0) (hE1 : w.frozen? ⟨s, 0, none⟩ = false) (h2 : w.cell? ⟨s + 2, 0, none⟩ = some (.pointer (some ⟨s + 1, 0, none⟩))) (h1 : w.cell? ⟨s + 1, 1, none⟩ = some (.bool false)) (hz : w.frozen? ⟨s + 1, 1, none⟩ = false) :
    CallsD Tryz.prog 47 #[.pointer (some ⟨s + 2, 0, none⟩), .pointer (some ⟨s, 0, none⟩)] (.panicking (outChain (s + 1))) w fun e u' w' => e = .returned (.tuple #[]) ∧ settle u' = .returning ∧ ∃ o o2, w' = (((w.setCell ⟨s + 1, 1, none⟩ (.bool true)).alloc o).alloc o2).setCell ⟨s, 0, none⟩ (.int .i64 62) := by
  refine callsD_of_wpS Tryz.func47 rfl fun c₀ cs hu => ?_
  apply wpS_seq
  apply wpS_region
  simp [wpOpsS, go_sem, h2, h1, hz, Tryz.ntmps47, Exit.thenS]
  apply wpS_seq
  apply wpS_region
  simp [wpOpsS, go_sem, recoverD, hu, Exit.thenS, outChain]
  apply wpS_seq
  apply wpS_region
  simp [wpOpsS, go_sem, assert_out, Exit.thenS]
  obtain ⟨w2, hw2⟩ : ∃ w2, w2 = (w.setCell ⟨s + 1, 1, none⟩ (.bool true)).alloc (.cells #[.pointer (some ⟨s + 1, 0, none⟩)] 114) := ⟨_, rfl⟩
  obtain ⟨hA, hB⟩ := done_world h2 hw2
  rw [← hw2]
  apply wpS_seq
  apply wpS_region
  simp [wpOpsS, go_sem, Exit.thenS, hA, hB]
  refine (endedBy_own (s + 1) w2).mono ?_
  rintro e w3 ⟨rfl, hw3⟩
  simp only
  refine wpS_cond (t := true) (by simp [Act.eval, Array.replicate]) ?_
  simp only [if_true]
  obtain ⟨hE2, hE3⟩ := done_store hE0 hE1 hw2 hw3
  apply wpS_region
  simp [wpOpsS, go_sem, hE2, hE3]
  cases c₀
  simp_all [bodyPostS, results, Tryz.results47, settle]
  exact ⟨_, _, rfl⟩

/-- What is asked of a function that gives up. -/
def ByDies (F : Nat) (capt : Array Value) (bs : List Nat) (w : World) (Q : World → Prop) : Prop :=
  ∀ (W : World) (pr pg : Nat) (a : Option Addr) (c : Nat), RD W pr pg a c bs → RG W pg false → Below w.heap.size w W → w.heap.size + 3 ≤ pr → w.heap.size ≤ pg →
    Calls Tryz.prog F (#[.pointer (some ⟨pr, 0, none⟩)] ++ capt) W fun e W' => e = .panicked (outChain pg) ∧ RG W' pg true ∧ (W.heap.size ≤ W'.heap.size ∧ ∀ k, w.heap.size ≤ k → k < W.heap.size → k ≠ pr → k ≠ pg → W'.heap[k]? = W.heap[k]?) ∧ Q W'
theorem by_dies {F : Nat} {capt : Array Value} {bs : List Nat} {w W : World} {Q : World → Prop} {pr pg c : Nat} {a : Option Addr} (h : Hid (ByDies F capt bs w Q)) (hr : RD W pr pg a c bs) (hg : RG W pg false) (hpg : w.heap.size ≤ pg) (hb : Below w.heap.size w W ∧ w.heap.size + 3 ≤ pr) :
    Calls Tryz.prog F (#[.pointer (some ⟨pr, 0, none⟩)] ++ capt) W fun e W' => e = .panicked (outChain pg) ∧ RG W' pg true ∧ (W.heap.size ≤ W'.heap.size ∧ ∀ k, w.heap.size ≤ k → k < W.heap.size → k ≠ pr → k ≠ pg → W'.heap[k]? = W.heap[k]?) ∧ Q W' := h.out W pr pg a c hr hg hb.1 hb.2 hpg
/-- The function's own three blocks, where more was taken than there is. -/
def At3d (w w' : World) : Prop := w'.heap[w.heap.size]? = some (.cells #[.int .i64 0] 30 (0, 0)) ∧ RG w' (w.heap.size + 1) true ∧ w'.heap[w.heap.size + 2]? = some (.cells #[.pointer (some ⟨w.heap.size + 1, 0, none⟩)] 110 (0, 0)) ∧ w.heap.size + 3 ≤ w'.heap.size
theorem rg_new {w w1 : World} {o : Obj} (h : At3 w w1) : RG (w1.alloc o) (w.heap.size + 1) false := by
  obtain ⟨_, hG, _, hs⟩ := h
  unfold RG
  rw [Below.heap_alloc _ _ _ (by omega)]; exact hG
theorem died_after {w w1 w4 : World} {o : Obj} (hIn : (w1.alloc o).heap.size ≤ w4.heap.size ∧ ∀ k, w.heap.size ≤ k → k < (w1.alloc o).heap.size → k ≠ w1.heap.size → k ≠ w.heap.size + 1 → w4.heap[k]? = (w1.alloc o).heap[k]?) (hg : RG w4 (w.heap.size + 1) true) (h : At3 w w1) : At3d w w4 := by
  obtain ⟨hE, hG, hH, hs⟩ := h
  have hz : (w1.alloc o).heap.size = w1.heap.size + 1 := by simp
  have hk : ∀ k, w.heap.size ≤ k → k < w1.heap.size → k ≠ w.heap.size + 1 → w4.heap[k]? = w1.heap[k]? := fun k h1 h2 h3 => by
    rw [hIn.2 k h1 (by omega) (by omega) h3, Below.heap_alloc _ _ _ h2]
  have := hIn.1
  refine ⟨?_, hg, ?_, by omega⟩
  · rw [hk _ (by omega) (by omega) (by omega)]; exact hE
  · rw [hk _ (by omega) (by omega) (by omega)]; exact hH
theorem At3d.facts {w w' : World} (h : At3d w w') : w'.cell? ⟨w.heap.size + 2, 0, none⟩ = some (.pointer (some ⟨w.heap.size + 1, 0, none⟩)) ∧ w'.cell? ⟨w.heap.size + 1, 1, none⟩ = some (.bool false) ∧ w'.frozen? ⟨w.heap.size + 1, 1, none⟩ = false ∧ w'.cell? ⟨w.heap.size, 0, none⟩ = some (.int .i64 0) ∧ w'.frozen? ⟨w.heap.size, 0, none⟩ = false := by
  obtain ⟨hE, hG, hH, _⟩ := h
  unfold RG at hG
  refine ⟨cell_of_heap1 hH, ?_, ?_, ?_, ?_⟩ <;> simp [World.cell?, World.frozen?, hE, hG]
theorem read_out_d {w w4 : World} (h : At3d w w4) (o o2 : Obj) : ((((w4.setCell ⟨w.heap.size + 1, 1, none⟩ (.bool true)).alloc o).alloc o2).setCell ⟨w.heap.size, 0, none⟩ (.int .i64 62)).cell? ⟨w.heap.size, 0, none⟩ = some (.int .i64 62) ∧
    Below w.heap.size w4 ((((w4.setCell ⟨w.heap.size + 1, 1, none⟩ (.bool true)).alloc o).alloc o2).setCell ⟨w.heap.size, 0, none⟩ (.int .i64 62)) ∧
    ∀ k, w.heap.size + 3 ≤ k → k < w4.heap.size → ((((w4.setCell ⟨w.heap.size + 1, 1, none⟩ (.bool true)).alloc o).alloc o2).setCell ⟨w.heap.size, 0, none⟩ (.int .i64 62)).heap[k]? = w4.heap[k]? := by
  obtain ⟨hO1, hO2, hO3, hO4, hO5⟩ := At3d.facts h
  have hz := h.2.2.2
  have hb1 : Below w.heap.size w4 (w4.setCell ⟨w.heap.size + 1, 1, none⟩ (.bool true)) := (Below.refl w.heap.size w4).setCell (p := ⟨w.heap.size + 1, 1, none⟩) (Nat.le_succ _) _
  have hb2 := hb1.alloc (Nat.le_trans (by omega) hb1.size) o
  have hb3 := hb2.alloc (Nat.le_trans (by omega) hb2.size) o2
  obtain ⟨hE2, _⟩ := done_store (o := o) (o2 := o2) hO4 hO5 rfl rfl
  refine ⟨by simp [go_sem, hE2], hb3.setCell (p := ⟨w.heap.size, 0, none⟩) (Nat.le_refl _) _, fun k hk1 hk2 => ?_⟩
  rw [Below.heap_setCell _ _ _ _ (by show k ≠ w.heap.size; omega), Below.heap_alloc _ _ _ (by simp [World.setCell]; omega), Below.heap_alloc _ _ _ (by simp [World.setCell]; omega), Below.heap_setCell _ _ _ _ (by show k ≠ w.heap.size + 1; omega)]
/-- What the region in which the function is called ends with. -/
def DeadAt (s : Nat) (D : List Deferred) (R : World → Prop) : Exit → Act → World → Prop
  | .panic c, a, w' => c = outChain (s + 1) ∧ a.tmps.getD 4 undef = .pointer (some ⟨s, 0, none⟩) ∧ a.defers = D ∧ R w'
  | _, _, _ => False
theorem deadAt_put {s : Nat} {D : List Deferred} {R : World → Prop} (d : Nat) (v : Value) (hd : d ≠ 4) (c : List PanicEntry) (a : Act) (w : World) (h : DeadAt s D R (.panic c) (a.put (some d) v) w) : DeadAt s D R (.panic c) a w := by
  obtain ⟨h1, h2, h3, h4⟩ := h
  refine ⟨h1, ?_, h3, h4⟩
  have h5 : (a.put (some d) v).tmps.getD 4 undef = a.tmps.getD 4 undef := by
    simp [Act.put, hd]
  rw [← h5]; exact h2
set_option maxRecDepth 100000 in
set_option maxHeartbeats 800000 in
theorem read_dies (a : Option Addr) (len cap : Nat) (bs : List Nat) (F : Nat) (capt : Array Value) (w : World) (Q : World → Prop) (hr : Row w a len bs) (hn : a = none → cap = 0) (hl : len ≤ 100000)
    (hcall : ∀ (args : Array Value) (wx : World), (callFunc F args).run Tryz.prog wx = .ok (.enter F args) wx) (hby : ByDies F capt bs w Q) :
    Calls Tryz.prog 28 #[.slice a len cap, .func (Fn.func F) #[] capt] w fun e w' => e = .returned (.int .i64 62) ∧ ∃ w2, Q w2 ∧ Below w.heap.size w2 w' ∧ ∀ k, w.heap.size + 3 ≤ k → k < w2.heap.size → w'.heap[k]? = w2.heap[k]? := by
  have hmf : ∀ (fn : Fn) (first cap : Array Value) (w : World), (Instr.makeFunc fn first cap).run Tryz.prog w = .ok (.func fn first cap) w := fun _ _ _ _ => rfl
  have heq := eql_func_nil (Fn.func F) capt
  go_enter_defers Tryz.func28, Tryz.ntmps28
  go_wp2_with fail
  have e2 : w.heap.size + 1 + 1 = w.heap.size + 2 := rfl
  rw [e2]
  obtain ⟨w0, hw0⟩ : ∃ w0, w0 = (((w.alloc (Obj.cells #[.int .i64 0] 30)).alloc (Obj.cells #[.bool false, .bool false] 112)).alloc (Obj.cells #[.pointer (some ⟨w.heap.size + 1, 0, none⟩)] 110)) := ⟨_, rfl⟩
  have hf0 := frame3 w
  rw [← hw0] at hf0 ⊢
  obtain ⟨hb0, hs0, hE, hG, hH⟩ := hf0
  clear hw0 e2
  have h5 := cell_of_heap1 hH
  have hr0 := row_keep hr hb0 (Nat.le_refl _)
  have hl8 : len ≤ 100000000 := by omega
  have HE := Lib.hid hE
  have HG := Lib.hid hG
  have HH := Lib.hid hH
  have HBY := Lib.hid hby
  have HB0 := Lib.hid hb0
  have HS0 := Lib.hid hs0
  clear hE hG hH hby hb0 hs0
  refine Code.wp_mono (Q := DeadAt w.heap.size [{ target := .fn (.func 47) #[.pointer (some ⟨w.heap.size + 2, 0, none⟩), .pointer (some ⟨w.heap.size, 0, none⟩)], args := #[] }] (fun w4 => At3d w w4 ∧ Q w4)) ?_ ?_
  · intro e a4 w4 h4
    cases e
    case panic c =>
      obtain ⟨rfl, ht, hD, hA, hQ⟩ := h4
      simp only [Exit.then]
      show Leaves _ _ _ _ _ _ _
      rw [hD]
      obtain ⟨hO1, hO2, hO3, hO4, hO5⟩ := At3d.facts hA
      refine leaves_cons (f := 47) (args := #[.pointer (some ⟨w.heap.size + 2, 0, none⟩), .pointer (some ⟨w.heap.size, 0, none⟩)]) (by simp) (by simp [go_sem]) ?_
      refine (readDone_dies w.heap.size _ hO4 hO5 hO1 hO2 hO3).mono ?_
      rintro e u' w'' ⟨rfl, hu, o, o2, rfl⟩
      simp only
      rw [hu]
      obtain ⟨hP1, hP2, hP3⟩ := read_out_d hA o o2
      refine ⟨.int .i64 62, ?_, rfl, w4, hQ, hP2, hP3⟩
      have ht2 : a4.tmps[4]?.getD undef = .pointer (some ⟨w.heap.size, 0, none⟩) := by simpa using ht
      simp [results, Tryz.results28, go_sem, ht2, hP1]
    all_goals exact h4.elim
  refine wp_region_any (by kernel_rfl) ?_
  try (change wpAny _ _ _ _ _ _ _ (World.drew _))
  refine wpAny_take (i := 0) (v := .func (Fn.func F) #[] capt) rfl (by kernel_rfl) (by kernel_rfl) (by kernel_rfl) (deadAt_put 11 _ (by decide)) (Or.inl ⟨by rfl, by intro w; go_simp⟩) ?_
  refine wpAny_take (i := 1) (v := .slice a len cap) rfl (by kernel_rfl) (by kernel_rfl) (by kernel_rfl) (deadAt_put 12 _ (by decide)) (Or.inl ⟨by rfl, by intro w; go_simp⟩) ?_
  simp only [Act.put, List.setIfInBounds_toArray]
  refine wpAny_ready (rs := [2, 3]) (by kernel_rfl) (by simp) ?_
  refine AllReady.cons rfl (fun K hK => ?_) ?_
  · go_simp
    refine (clone_any a len cap bs _ (by exact hr0) hn hl8).mono ?_
    intro e w1 h1
    obtain ⟨a1, c1, rfl, hr1, hn1, ho1, hb1⟩ := retOwn_len h1
    have hS := cell_bel (w := w0.drew) hb1 h5
    have hRD := rd_new (pg := w.heap.size + 1) hr1 hn1 ho1
    have hBB := read_bel HB0 HS0 hb1
    have hHH := read_heap HS0 HE HG HH hb1
    have hFC := by_dies HBY hRD (rg_new hHH) (Nat.le_succ _) (hBB _)
    simp only
    refine hK _ _ ?_
    clear hK K
    refine wpAny_ready (rs := [3]) (by kernel_rfl) (by simp) (AllReady.cons rfl (fun K hK => ?_) AllReady.nil)
    go_simp
    refine hK _ _ ?_
    clear hK K
    refine wpAny_ready (rs := [4]) (by kernel_rfl) (by simp) (AllReady.cons rfl (fun K hK => ?_) AllReady.nil)
    go_simp
    refine hK _ _ ?_
    clear hK K
    refine wpAny_ready (rs := [5]) (by kernel_rfl) (by simp) (AllReady.cons rfl (fun K hK => ?_) AllReady.nil)
    go_simp
    refine hK _ _ ?_
    clear hK K
    refine wpAny_ready (rs := [6]) (by kernel_rfl) (by simp) (AllReady.cons rfl (fun K hK => ?_) AllReady.nil)
    go_simp
    refine hFC.mono ?_
    rintro e w4 ⟨rfl, hR4, hIn, hQ⟩
    exact ⟨rfl, rfl, rfl, died_after hIn hR4 hHH, hQ⟩
  · refine AllReady.cons rfl (fun K hK => ?_) AllReady.nil
    go_simp
    refine hK _ _ ?_
    clear hK K
    refine wpAny_ready (rs := [2]) (by kernel_rfl) (by simp) (AllReady.cons rfl (fun K hK => ?_) AllReady.nil)
    go_simp
    refine (clone_any a len cap bs _ (by exact hr0) hn hl8).mono ?_
    intro e w1 h1
    obtain ⟨a1, c1, rfl, hr1, hn1, ho1, hb1⟩ := retOwn_len h1
    have hRD := rd_new (pg := w.heap.size + 1) hr1 hn1 ho1
    have hBB := read_bel HB0 HS0 hb1
    have hHH := read_heap HS0 HE HG HH hb1
    have hFC := by_dies HBY hRD (rg_new hHH) (Nat.le_succ _) (hBB _)
    simp only
    refine hK _ _ ?_
    clear hK K
    refine wpAny_ready (rs := [4]) (by kernel_rfl) (by simp) (AllReady.cons rfl (fun K hK => ?_) AllReady.nil)
    go_simp
    refine hK _ _ ?_
    clear hK K
    refine wpAny_ready (rs := [5]) (by kernel_rfl) (by simp) (AllReady.cons rfl (fun K hK => ?_) AllReady.nil)
    go_simp
    refine hK _ _ ?_
    clear hK K
    refine wpAny_ready (rs := [6]) (by kernel_rfl) (by simp) (AllReady.cons rfl (fun K hK => ?_) AllReady.nil)
    go_simp
    refine hFC.mono ?_
    rintro e w4 ⟨rfl, hR4, hIn, hQ⟩
    exact ⟨rfl, rfl, rfl, died_after hIn hR4 hHH, hQ⟩

end Go.Proofs.YthgcjiocelcblaaGreat

namespace Go.Proofs.YthgcjiocelcblaaGreat
open Go.RowKit

theorem strCells_eq (s : ByteArray) : Lib.strCells s = (sbytes s).map u8v := by
  unfold Lib.strCells sbytes u8v
  simp
theorem own_lit1 (w : World) (x : Int) : (w.alloc (.cells #[.int .u8 x] 5)).ownsRow w.heap.size 5 1 (.slice (some ⟨w.heap.size, 0, none⟩) 1 1) 1 [.int .u8 x] :=
  World.ownsRow_lit w #[.int .u8 x] 1 (Nat.le_refl _) (by unfold maxLen; omega) rfl
theorem own_text {w w' : World} {v : Value} {s : ByteArray} {n : Nat} (h : w'.ownsRow w.heap.size 5 1 v (1 + s.size) (Value.int .u8 (n : Int) :: Lib.strCells s)) (hn : n < 256) : Own w.heap.size w' v (n :: sbytes s) := by
  refine ⟨?_, fun x hx => ?_⟩
  · rw [strCells_eq] at h
    rw [List.length_cons, sbytes_len, Nat.add_comm]
    exact h
  · rw [List.mem_cons] at hx
    rcases hx with rfl | hx
    · exact hn
    · exact sbytes_lt s x hx
theorem bel_text {w w' : World} {o : Obj} (hg : (w.alloc o).grownBy w' (Value.slice (some ⟨w.heap.size, 0, none⟩) 1 1).ownBlock) : Below w.heap.size w w' :=
  ((Below.refl _ w).alloc (Nat.le_refl _) o).grown hg (by simp) (fun k hk => by cases hk; exact Nat.le_refl _)
end Go.Proofs.YthgcjiocelcblaaGreat

namespace Go.Proofs.YthgcjiocelcblaaGreat
open Go.RowKit

/-- The other row lies apart of the writer and of its bytes. -/
def Aside (pw : Nat) (sv ov : Value) : Prop := ∀ k, ov.ownBlock = some k → k ≠ pw ∧ sv.ownBlock ≠ some k
theorem aside_nil (pw : Nat) (sv : Value) : Aside pw sv (.slice none 0 0) := fun k h => by cases h
theorem own_keep {B : Nat} {w w' : World} {ov : Value} {l : List Nat} (h : Own B w ov l) (hb : Below w.heap.size w w') : Own B w' ov l := by
  refine ⟨⟨h.1.1, ?_⟩, h.2⟩
  rcases h.1.2 with h0 | ⟨g, cap, cur, e1, e2, e3, e4⟩
  · exact .inl h0
  · refine .inr ⟨g, cap, cur, e1, e2, ?_, e4⟩
    have hg := own_base h g (by rw [e1]; rfl)
    rw [hb.block g hg.2]; exact e3
/-- The other row has grown: the writer is as it was. -/
theorem wr_apd {B : Nat} {w w' : World} {pw : Nat} {sv ov ov' : Value} {bs l : List Nat} (h : WR B w pw sv bs) (ha : Apd B w ov l ov' w') (hd : Aside pw sv ov) : WR B w' pw sv bs ∧ Aside pw sv ov' := by
  obtain ⟨h1, h2, h3, h4⟩ := h
  have hlt := wr_lt ⟨h1, h2, h3, h4⟩
  refine ⟨⟨h1, ?_, ⟨⟨h3.1.1, ?_⟩, h3.2⟩, h4⟩, ?_⟩
  · rw [ha.grown.block pw hlt (fun e => (hd pw e.symm).1 rfl)]; exact h2
  · rcases h3.1.2 with h0 | ⟨g, cap, cur, e1, e2, e3, e4⟩
    · exact .inl h0
    · refine .inr ⟨g, cap, cur, e1, e2, ?_, e4⟩
      have hg := own_base h3 g (by rw [e1]; rfl)
      rw [ha.grown.block g hg.2 (fun e => (hd g e.symm).2 (by rw [e1]; rfl))]; exact e3
  · intro k hk
    rcases ha.where_ with e | e
    · rw [e] at hk; exact hd k hk
    · rw [e] at hk
      cases hk
      exact ⟨by omega, fun e2 => by have := own_base h3 _ e2; omega⟩
/-- The writer has moved: the other row is as it was. -/
theorem own_moved {B : Nat} {w w' : World} {pw : Nat} {sv sv' ov : Value} {l : List Nat} (h : Own B w ov l) (hm : Moved w pw sv sv' w') (hd : Aside pw sv ov) : Own B w' ov l ∧ Aside pw sv' ov := by
  refine ⟨⟨⟨h.1.1, ?_⟩, h.2⟩, ?_⟩
  · rcases h.1.2 with h0 | ⟨g, cap, cur, e1, e2, e3, e4⟩
    · exact .inl h0
    · refine .inr ⟨g, cap, cur, e1, e2, ?_, e4⟩
      have hg := own_base h g (by rw [e1]; rfl)
      have hdg := hd g (by rw [e1]; rfl)
      rw [hm.block g hg.2 hdg.1 (fun e => hdg.2 e.symm)]; exact e3
  · intro k hk
    have hdk := hd k hk
    have hg := own_base h k hk
    refine ⟨hdk.1, fun e => ?_⟩
    rcases hm.where_ with e1 | e1 | ⟨i, e1, e2⟩
    · rw [e1] at e; exact hdk.2 e
    · rw [e1] at e; cases e
    · rw [e1] at e; cases e; omega
theorem rowK_below {K : IntKind} {M : Nat} {w w' : World} {a : Option Addr} {len : Nat} {ns : List Nat} (h : RowK K M w a len ns) (hb : Below w.heap.size w w') : RowK K M w' a len ns := by
  obtain ⟨h1, h2, h3⟩ := h
  refine ⟨h1, h2, fun h0 => ?_⟩
  obtain ⟨b, off, h4, h5⟩ := h3 h0
  refine ⟨b, off, h4, fun i hi => ?_⟩
  rw [hb.cell (p := ⟨b, off + i, none⟩) (World.block_lt_of_cell? w ⟨b, off + i, none⟩ (h5 i hi))]; exact h5 i hi

end Go.Proofs.YthgcjiocelcblaaGreat

namespace Go.Proofs.YthgcjiocelcblaaGreat
open Go.RowKit

theorem wr_new (w : World) : WR w.heap.size (w.alloc (.cells #[.slice none 0 0] 72)) w.heap.size (.slice none 0 0) [] := by
  refine ⟨Nat.le_refl _, heap_alloc_new w _, own_nil _ _, fun h => by cases h⟩
theorem rowK_new {K : IntKind} {M n : Nat} (w : World) (t : TypeId) (hn : n < M) : RowK K M (w.alloc (.cells #[.int K (n : Int)] t)) (some ⟨w.heap.size, 0, none⟩) 1 [n] :=
  ⟨rfl, fun y hy => by simp at hy; omega, fun _ => ⟨_, 0, rfl, fun i hi => by obtain rfl : i = 0 := by omega
                                                                              exact cell_new1 _ _ _⟩⟩
theorem rowK_new_at {K : IntKind} {M n b : Nat} {w : World} (t : TypeId) (hn : n < M) (hb : w.heap.size = b) : RowK K M (w.alloc (.cells #[.int K (n : Int)] t)) (some ⟨b, 0, none⟩) 1 [n] := by
  subst hb; exact rowK_new w t hn
theorem row_lit5 (w : World) : Row (w.alloc (.cells #[.int .u8 1, .int .u8 2, .int .u8 2, .int .u8 97, .int .u8 98] 5)) (some ⟨w.heap.size, 0, none⟩) 5 [1, 2, 2, 97, 98] := by
  refine ⟨rfl, by decide, fun _ => ⟨_, 0, rfl, fun i hi => ?_⟩⟩
  rw [World.cell?_alloc_mark]
  rcases (show i = 0 ∨ i = 1 ∨ i = 2 ∨ i = 3 ∨ i = 4 from by omega) with rfl | rfl | rfl | rfl | rfl <;> rfl
theorem moved_trans_below {B : Nat} {w w' : World} {pw : Nat} {sv sv' : Value} {bs : List Nat} (h : Moved w pw sv sv' w') (hw : WR B w pw sv bs) (hB : B ≤ w.heap.size) : Below B w w' := h.below hw hB

end Go.Proofs.YthgcjiocelcblaaGreat

namespace Go.Proofs.YthgcjiocelcblaaGreat
open Go.RowKit

/-- What an item lays behind some bytes. -/
def layItem (k : Int) (n : Nat) (bs X : List Nat) : List Nat :=
  if k = 1 then X ++ Crc.les 1 n else if k = 2 then X ++ Crc.les 2 n else if k = 3 then X ++ bs else if k = 4 then X ++ Crc.les 4 n else if k = 5 then X ++ textOf bs else if k = 6 then padTo X ((n % 600 : Nat) : Int) else if k = 8 then X ++ Crc.les 8 n else X
/-- What lay ends with. -/
def CLayRet (B : Nat) (w : World) (pw : Nat) (X Y : List Nat) (e : Ending) (w' : World) : Prop :=
  ∃ ov' sv', e = .returned ov' ∧ WR B w' pw sv' X ∧ Own B w' ov' Y ∧ Aside pw sv' ov' ∧ Below B w w'
theorem les_mod (k v : Nat) : Crc.les k (v % 256 ^ k) = Crc.les k v := by
  induction k generalizing v with
  | zero => rfl
  | succ k ih =>
    simp only [Crc.les]
    have h1 : v % 256 ^ (k + 1) % 256 = v % 256 := by
      rw [Nat.pow_succ, Nat.mul_comm, Nat.mod_mul_right_mod]
    have h2 : v % 256 ^ (k + 1) / 256 = (v / 256) % 256 ^ k := by
      rw [Nat.pow_succ, Nat.mul_comm, Nat.mod_mul_right_div_self]
    rw [h1, h2, ih]
theorem sbytes_strOf {bs : List Nat} (h : ∀ x ∈ bs, x < 256) : sbytes (strOf bs) = bs := by
  unfold sbytes strOf
  simp only [List.map_map]
  apply List.ext_getElem
  · simp
  · intro i h1 h2
    have := h bs[i] (List.getElem_mem _)
    simp
    omega
theorem strOf_size (bs : List Nat) : (strOf bs).size = bs.length := by
  unfold strOf
  show (bs.map UInt8.ofNat).toArray.size = bs.length
  simp
theorem wr_own_keep {B : Nat} {w w' : World} {pw : Nat} {sv ov : Value} {X Y : List Nat} (hw : WR B w pw sv X) (ho : Own B w ov Y) (hb : Below w.heap.size w w') : WR B w' pw sv X ∧ Own B w' ov Y := ⟨wr_keep hw hb, own_keep ho hb⟩

theorem moved_cell {w w' : World} {pw b off : Nat} {sv sv' v : Value} (hm : Moved w pw sv sv' w') (h : w.cell? ⟨b, off, none⟩ = some v) (hne : b ≠ pw ∧ some b ≠ sv.ownBlock) : w'.cell? ⟨b, off, none⟩ = some v := by
  rw [World.cell?_of_block (a := ⟨b, off, none⟩) (hm.block b (World.block_lt_of_cell? w ⟨b, off, none⟩ h) hne.1 hne.2)]; exact h
theorem below_cell {w w' : World} {b off : Nat} {v : Value} (hb : Below w.heap.size w w') (h : w.cell? ⟨b, off, none⟩ = some v) : w'.cell? ⟨b, off, none⟩ = some v := by
  rw [hb.cell (p := ⟨b, off, none⟩) (World.block_lt_of_cell? w ⟨b, off, none⟩ h)]; exact h
theorem cell_new3 (w : World) (v0 v1 v2 : Value) (t : TypeId) : (w.alloc (.cells #[v0, v1, v2] t)).cell? ⟨w.heap.size, 1, none⟩ = some v1 ∧ (w.alloc (.cells #[v0, v1, v2] t)).cell? ⟨w.heap.size, 2, none⟩ = some v2 := by
  constructor
  · rw [World.cell?_alloc_mark w #[v0, v1, v2] t (0, 0) 1]; rfl
  · rw [World.cell?_alloc_mark w #[v0, v1, v2] t (0, 0) 2]; rfl
theorem box_far {B : Nat} {w : World} {pw : Nat} {sv : Value} {X : List Nat} (hw : WR B w pw sv X) : w.heap.size ≠ pw ∧ some w.heap.size ≠ sv.ownBlock :=
  ⟨by have := wr_lt hw; omega, fun e => by have := own_base hw.2.2.1 _ e.symm; omega⟩
theorem box_far2 {B : Nat} {w : World} {pw : Nat} {sv : Value} {X : List Nat} (hw : WR B w pw sv X) : w.heap.size + 1 ≠ pw ∧ some (w.heap.size + 1) ≠ sv.ownBlock :=
  ⟨by have := wr_lt hw; omega, fun e => by have := own_base hw.2.2.1 _ e.symm; omega⟩
theorem row_b {B : Nat} {w w' : World} {a : Option Addr} {len : Nat} {bs : List Nat} (h : Row w a len bs) (hb : Below B w w') (hlt : 0 < len → ∀ x, a = some x → x.block < B) : Row w' a len bs := by
  rcases Nat.eq_zero_or_pos len with h0 | h0
  · exact ⟨h.1, h.2.1, fun h1 => by omega⟩
  · exact row_below h hb (hlt h0)
theorem own_cap {B : Nat} {w : World} {bs : List Nat} {a : Option Addr} {n c : Nat} (h : Own B w (.slice a n c) bs) : n ≤ c ∧ c ≤ maxLen := by
  rcases h.1.2 with ⟨e, _⟩ | ⟨g, cap, cur, e, _, _, h1, h2, _⟩
  · simp only [Value.slice.injEq] at e
    obtain ⟨_, rfl, rfl⟩ := e
    exact ⟨Nat.le_refl _, Nat.zero_le _⟩
  · simp only [Value.slice.injEq] at e
    obtain ⟨_, rfl, rfl⟩ := e
    exact ⟨h1, h2⟩
theorem aside_new {B : Nat} {w w' : World} {pw : Nat} {sv ov : Value} {X Y : List Nat} (hw : WR B w pw sv X) (ho : Own w.heap.size w' ov Y) : Aside pw sv ov := by
  intro k hk
  have h1 := (own_base ho k hk).1
  have h2 := wr_lt hw
  exact ⟨by omega, fun e => by have := own_base hw.2.2.1 k e; omega⟩
theorem row_one_at {w : World} {x : Nat} {b : Nat} (hx : x < 256) (hb : w.heap.size = b) : Row (w.alloc (.cells #[.int .u8 (x : Int)] 5)) (some ⟨b, 0, none⟩) 1 [x] := by
  subst hb; exact row_one w x hx
theorem les_one (n : Nat) : Crc.les 1 n = [n % 256] := rfl
theorem lay_fin {B : Nat} {w : World} {pw : Nat} {X Y Z : List Nat} {w2 w3 w4 : World} {sv2 ov ov4 : Value} (hw2 : WR B w2 pw sv2 X) (ha2 : Aside pw sv2 ov) (hb2 : Below B w w2) (hb3 : Below w2.heap.size w2 w3) (hB2 : B ≤ w2.heap.size) (hap : Apd B w3 ov (Y ++ Z) ov4 w4) :
    CLayRet B w pw X (Y ++ Z) (.returned ov4) w4 := by
  have h := wr_apd (wr_keep hw2 hb3) hap ha2
  exact ⟨ov4, sv2, rfl, h.1, hap.own, h.2, hb2.trans ((hb3.mono hB2).trans hap.below)⟩

section
variable (B pw : Nat) (sv : Value) (X Y : List Nat) (ov : Value) (n m c : Nat) (xa : Option Addr) (bs : List Nat) (w : World)

end

end Go.Proofs.YthgcjiocelcblaaGreat
