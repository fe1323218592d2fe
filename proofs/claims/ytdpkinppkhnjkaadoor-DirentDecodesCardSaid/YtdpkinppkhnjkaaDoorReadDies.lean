/- cursor.Read where its function gives up. -/
import Derived.Test.YtdpkinppkhnjkaaDoorReaderEnds
namespace Go.Proofs.YtdpkinppkhnjkaaDoor
open Go.RowKit

theorem eql_reading (pg : Nat) (w : World) : (binOp .eql 49 (.pointer (some ⟨pg, 0, none⟩)) (.pointer (some ⟨pg, 0, none⟩))).run Tryd.prog w = .ok (.bool true) w := by
  have h : ∀ d : Nat, (Op.equalIn (d + 1) 49 (.pointer (some ⟨pg, 0, none⟩)) (.pointer (some ⟨pg, 0, none⟩))).run Tryd.prog w = .ok true w := fun d => by
    have hs : (sameAddr ⟨pg, 0, none⟩ ⟨pg, 0, none⟩).run Tryd.prog w = .ok true w := by simp [sameAddr]
    simp [Op.equalIn, run_underlying Tryd.underlying49, hs]
  simp only [binOp]
  simp [Op.equal, Op.maxDepth, h 9999]
theorem endedBy_own (pg : Nat) (w : World) :
    Calls Tryd.prog 21 #[.pointer (some ⟨pg, 0, none⟩), .agg #[.pointer (some ⟨pg, 0, none⟩)]] w fun e w' => e = .returned (.bool true) ∧ w' = w.alloc (.cells #[.pointer (some ⟨pg, 0, none⟩)] 53) := by
  have hq := eql_reading pg
  go_enter Tryd.func21, Tryd.ntmps21
  go_wp2
  go_ret
  exact ⟨rfl, rfl⟩
theorem assert_out (w : World) (p : Value) : (Instr.typeAssert (.iface 53 (.agg #[p])) 20 53 true).run Tryd.prog w = .ok (.tuple #[.agg #[p], .bool true]) w := by kernel_rfl
/-- The world in which the reader's end is looked at. -/
theorem done_world {s : Nat} {w w2 : World} {p : Value} {t : TypeId} (h2 : w.cell? ⟨s + 2, 0, none⟩ = some (.pointer (some ⟨s + 1, 0, none⟩)))
    (hw : w2 = (w.setCell ⟨s + 1, 1, none⟩ (.bool true)).alloc (.cells #[p] t)) : w2.cell? ⟨s + 2, 0, none⟩ = some (.pointer (some ⟨s + 1, 0, none⟩)) ∧ w2.cell? ⟨w.heap.size, 0, none⟩ = some p := by
  subst hw
  have h3 : (w.setCell ⟨s + 1, 1, none⟩ (.bool true)).cell? ⟨s + 2, 0, none⟩ = some (.pointer (some ⟨s + 1, 0, none⟩)) := by
    rw [World.cell?_setCell_other _ _ _ _ (fun e => by have := congrArg Addr.block e; simp at this)]; exact h2
  have hz : (w.setCell ⟨s + 1, 1, none⟩ (.bool true)).heap.size = w.heap.size := by simp [World.setCell]
  refine ⟨cell_bel (bel_alloc (Below.refl _ _) _) h3, ?_⟩
  have h4 := cell_new1 (w.setCell ⟨s + 1, 1, none⟩ (.bool true)) p t
  rw [hz] at h4
  exact h4
theorem done_store {s : Nat} {w w2 w3 : World} {v0 : Value} {o o2 : Obj} (hE0 : w.cell? ⟨s, 0, none⟩ = some v0) (hE1 : w.frozen? ⟨s, 0, none⟩ = false)
    (hw : w2 = (w.setCell ⟨s + 1, 1, none⟩ (.bool true)).alloc o) (hw3 : w3 = w2.alloc o2) : w3.cell? ⟨s, 0, none⟩ = some v0 ∧ w3.frozen? ⟨s, 0, none⟩ = false := by
  subst hw hw3
  have hlt : s < w.heap.size := World.block_lt_of_cell? w ⟨s, 0, none⟩ hE0
  have hz : (w.setCell ⟨s + 1, 1, none⟩ (.bool true)).heap.size = w.heap.size := by simp [World.setCell]
  have hb : (((w.setCell ⟨s + 1, 1, none⟩ (.bool true)).alloc o).alloc o2).heap[s]? = w.heap[s]? := by
    rw [Below.heap_alloc _ _ _ (by simp [World.setCell]; omega), Below.heap_alloc _ _ _ (by omega), Below.heap_setCell _ _ _ _ (by show s ≠ s + 1; omega)]
  exact ⟨by rw [World.cell?_of_block (w := w) (a := ⟨s, 0, none⟩) hb]; exact hE0, by rw [World.frozen?_of_block (w := w) (a := ⟨s, 0, none⟩) hb]; exact hE1⟩
set_option maxRecDepth 100000 in
set_option maxHeartbeats 600000 in
theorem readDone_dies (s : Nat) (w : World) {v0 : Value} (hE0 : w.cell? ⟨s, 0, none⟩ = some v0) (hE1 : w.frozen? ⟨s, 0, none⟩ = false) (h2 : w.cell? ⟨s + 2, 0, none⟩ = some (.pointer (some ⟨s + 1, 0, none⟩))) (h1 : w.cell? ⟨s + 1, 1, none⟩ = some (.bool false)) (hz : w.frozen? ⟨s + 1, 1, none⟩ = false) :
    CallsD Tryd.prog 20 #[.pointer (some ⟨s + 2, 0, none⟩), .pointer (some ⟨s, 0, none⟩)] (.panicking (outChain (s + 1))) w fun e u' w' => e = .returned (.tuple #[]) ∧ settle u' = .returning ∧ ∃ o o2, w' = (((w.setCell ⟨s + 1, 1, none⟩ (.bool true)).alloc o).alloc o2).setCell ⟨s, 0, none⟩ (.int .i64 62) := by
  refine callsD_of_wpS Tryd.func20 rfl fun c₀ cs hu => ?_
  apply wpS_seq
  apply wpS_region
  simp [wpOpsS, go_sem, h2, h1, hz, Tryd.ntmps20, Exit.thenS]
  apply wpS_seq
  apply wpS_region
  simp [wpOpsS, go_sem, recoverD, hu, Exit.thenS, outChain]
  apply wpS_seq
  apply wpS_region
  simp [wpOpsS, go_sem, assert_out, Exit.thenS]
  obtain ⟨w2, hw2⟩ : ∃ w2, w2 = (w.setCell ⟨s + 1, 1, none⟩ (.bool true)).alloc (.cells #[.pointer (some ⟨s + 1, 0, none⟩)] 53) := ⟨_, rfl⟩
  obtain ⟨hA, hB⟩ := done_world h2 hw2
  rw [← hw2]
  apply wpS_seq
  apply wpS_region
  simp [wpOpsS, go_sem, Exit.thenS, hA, hB]
  refine (endedBy_own (s + 1) w2).mono ?_
  rintro e w3 ⟨rfl, hw3⟩
  simp only
  refine wpS_cond (t := true) (by simp [Act.eval, Array.replicate]) ?_
  simp only [if_true]
  obtain ⟨hE2, hE3⟩ := done_store hE0 hE1 hw2 hw3
  apply wpS_region
  simp [wpOpsS, go_sem, hE2, hE3]
  cases c₀
  simp_all [bodyPostS, results, Tryd.results20, settle]
  exact ⟨_, _, rfl⟩

/-- What is asked of a function that gives up. -/
def ByDies (F : Nat) (capt : Array Value) (bs : List Nat) (w : World) (Q : World → Prop) : Prop :=
  ∀ (W : World) (pr pg : Nat) (a : Option Addr) (c : Nat), RD W pr pg a c bs → RG W pg false → Below w.heap.size w W → w.heap.size + 3 ≤ pr → w.heap.size ≤ pg →
    Calls Tryd.prog F (#[.pointer (some ⟨pr, 0, none⟩)] ++ capt) W fun e W' => e = .panicked (outChain pg) ∧ RG W' pg true ∧ (W.heap.size ≤ W'.heap.size ∧ ∀ k, w.heap.size ≤ k → k < W.heap.size → k ≠ pr → k ≠ pg → W'.heap[k]? = W.heap[k]?) ∧ Q W'
theorem by_dies {F : Nat} {capt : Array Value} {bs : List Nat} {w W : World} {Q : World → Prop} {pr pg c : Nat} {a : Option Addr} (h : Hid (ByDies F capt bs w Q)) (hr : RD W pr pg a c bs) (hg : RG W pg false) (hpg : w.heap.size ≤ pg) (hb : Below w.heap.size w W ∧ w.heap.size + 3 ≤ pr) :
    Calls Tryd.prog F (#[.pointer (some ⟨pr, 0, none⟩)] ++ capt) W fun e W' => e = .panicked (outChain pg) ∧ RG W' pg true ∧ (W.heap.size ≤ W'.heap.size ∧ ∀ k, w.heap.size ≤ k → k < W.heap.size → k ≠ pr → k ≠ pg → W'.heap[k]? = W.heap[k]?) ∧ Q W' := h.out W pr pg a c hr hg hb.1 hb.2 hpg
/-- The function's own three blocks, where more was taken than there is. -/
def At3d (w w' : World) : Prop := w'.heap[w.heap.size]? = some (.cells #[.int .i64 0] 27 (0, 0)) ∧ RG w' (w.heap.size + 1) true ∧ w'.heap[w.heap.size + 2]? = some (.cells #[.pointer (some ⟨w.heap.size + 1, 0, none⟩)] 49 (0, 0)) ∧ w.heap.size + 3 ≤ w'.heap.size
theorem rg_new {w w1 : World} {o : Obj} (h : At3 w w1) : RG (w1.alloc o) (w.heap.size + 1) false := by
  obtain ⟨_, hG, _, hs⟩ := h
  unfold RG
  rw [Below.heap_alloc _ _ _ (by omega)]; exact hG
theorem died_after {w w1 w4 : World} {o : Obj} (hIn : (w1.alloc o).heap.size ≤ w4.heap.size ∧ ∀ k, w.heap.size ≤ k → k < (w1.alloc o).heap.size → k ≠ w1.heap.size → k ≠ w.heap.size + 1 → w4.heap[k]? = (w1.alloc o).heap[k]?) (hg : RG w4 (w.heap.size + 1) true) (h : At3 w w1) : At3d w w4 := by
  obtain ⟨hE, hG, hH, hs⟩ := h
  have hz : (w1.alloc o).heap.size = w1.heap.size + 1 := by simp
  have hk : ∀ k, w.heap.size ≤ k → k < w1.heap.size → k ≠ w.heap.size + 1 → w4.heap[k]? = w1.heap[k]? := fun k h1 h2 h3 => by
    rw [hIn.2 k h1 (by omega) (by omega) h3, Below.heap_alloc _ _ _ h2]
  have := hIn.1
  refine ⟨?_, hg, ?_, by omega⟩
  · rw [hk _ (by omega) (by omega) (by omega)]; exact hE
  · rw [hk _ (by omega) (by omega) (by omega)]; exact hH
theorem At3d.facts {w w' : World} (h : At3d w w') : w'.cell? ⟨w.heap.size + 2, 0, none⟩ = some (.pointer (some ⟨w.heap.size + 1, 0, none⟩)) ∧ w'.cell? ⟨w.heap.size + 1, 1, none⟩ = some (.bool false) ∧ w'.frozen? ⟨w.heap.size + 1, 1, none⟩ = false ∧ w'.cell? ⟨w.heap.size, 0, none⟩ = some (.int .i64 0) ∧ w'.frozen? ⟨w.heap.size, 0, none⟩ = false := by
  obtain ⟨hE, hG, hH, _⟩ := h
  unfold RG at hG
  refine ⟨cell_of_heap1 hH, ?_, ?_, ?_, ?_⟩ <;> simp [World.cell?, World.frozen?, hE, hG]
theorem read_out_d {w w4 : World} (h : At3d w w4) (o o2 : Obj) : ((((w4.setCell ⟨w.heap.size + 1, 1, none⟩ (.bool true)).alloc o).alloc o2).setCell ⟨w.heap.size, 0, none⟩ (.int .i64 62)).cell? ⟨w.heap.size, 0, none⟩ = some (.int .i64 62) ∧
    Below w.heap.size w4 ((((w4.setCell ⟨w.heap.size + 1, 1, none⟩ (.bool true)).alloc o).alloc o2).setCell ⟨w.heap.size, 0, none⟩ (.int .i64 62)) ∧
    ∀ k, w.heap.size + 3 ≤ k → k < w4.heap.size → ((((w4.setCell ⟨w.heap.size + 1, 1, none⟩ (.bool true)).alloc o).alloc o2).setCell ⟨w.heap.size, 0, none⟩ (.int .i64 62)).heap[k]? = w4.heap[k]? := by
  obtain ⟨hO1, hO2, hO3, hO4, hO5⟩ := At3d.facts h
  have hz := h.2.2.2
  have hb1 : Below w.heap.size w4 (w4.setCell ⟨w.heap.size + 1, 1, none⟩ (.bool true)) := (Below.refl w.heap.size w4).setCell (p := ⟨w.heap.size + 1, 1, none⟩) (Nat.le_succ _) _
  have hb2 := hb1.alloc (Nat.le_trans (by omega) hb1.size) o
  have hb3 := hb2.alloc (Nat.le_trans (by omega) hb2.size) o2
  obtain ⟨hE2, _⟩ := done_store (o := o) (o2 := o2) hO4 hO5 rfl rfl
  refine ⟨by simp [go_sem, hE2], hb3.setCell (p := ⟨w.heap.size, 0, none⟩) (Nat.le_refl _) _, fun k hk1 hk2 => ?_⟩
  rw [Below.heap_setCell _ _ _ _ (by show k ≠ w.heap.size; omega), Below.heap_alloc _ _ _ (by simp [World.setCell]; omega), Below.heap_alloc _ _ _ (by simp [World.setCell]; omega), Below.heap_setCell _ _ _ _ (by show k ≠ w.heap.size + 1; omega)]
/-- What the region in which the function is called ends with. -/
def DeadAt (s : Nat) (D : List Deferred) (R : World → Prop) : Exit → Act → World → Prop
  | .panic c, a, w' => c = outChain (s + 1) ∧ a.tmps.getD 4 undef = .pointer (some ⟨s, 0, none⟩) ∧ a.defers = D ∧ R w'
  | _, _, _ => False
theorem deadAt_put {s : Nat} {D : List Deferred} {R : World → Prop} (d : Nat) (v : Value) (hd : d ≠ 4) (c : List PanicEntry) (a : Act) (w : World) (h : DeadAt s D R (.panic c) (a.put (some d) v) w) : DeadAt s D R (.panic c) a w := by
  obtain ⟨h1, h2, h3, h4⟩ := h
  refine ⟨h1, ?_, h3, h4⟩
  have h5 : (a.put (some d) v).tmps.getD 4 undef = a.tmps.getD 4 undef := by
    simp [Act.put, hd]
  rw [← h5]; exact h2
set_option maxRecDepth 100000 in
set_option maxHeartbeats 800000 in
theorem read_dies (a : Option Addr) (len cap : Nat) (bs : List Nat) (F : Nat) (capt : Array Value) (w : World) (Q : World → Prop) (hr : Row w a len bs) (hn : a = none → cap = 0) (hl : len ≤ 100000)
    (hcall : ∀ (args : Array Value) (wx : World), (callFunc F args).run Tryd.prog wx = .ok (.enter F args) wx) (hby : ByDies F capt bs w Q) :
    Calls Tryd.prog 8 #[.slice a len cap, .func (Fn.func F) #[] capt] w fun e w' => e = .returned (.int .i64 62) ∧ ∃ w2, Q w2 ∧ Below w.heap.size w2 w' ∧ ∀ k, w.heap.size + 3 ≤ k → k < w2.heap.size → w'.heap[k]? = w2.heap[k]? := by
  have hmf : ∀ (fn : Fn) (first cap : Array Value) (w : World), (Instr.makeFunc fn first cap).run Tryd.prog w = .ok (.func fn first cap) w := fun _ _ _ _ => rfl
  have heq := eql_func_nil (Fn.func F) capt
  go_enter_defers Tryd.func8, Tryd.ntmps8
  go_wp2_with fail
  have e2 : w.heap.size + 1 + 1 = w.heap.size + 2 := rfl
  rw [e2]
  obtain ⟨w0, hw0⟩ : ∃ w0, w0 = (((w.alloc (Obj.cells #[.int .i64 0] 27)).alloc (Obj.cells #[.bool false, .bool false] 51)).alloc (Obj.cells #[.pointer (some ⟨w.heap.size + 1, 0, none⟩)] 49)) := ⟨_, rfl⟩
  have hf0 := frame3 w
  rw [← hw0] at hf0 ⊢
  obtain ⟨hb0, hs0, hE, hG, hH⟩ := hf0
  clear hw0 e2
  have h5 := cell_of_heap1 hH
  have hr0 := row_keep hr hb0 (Nat.le_refl _)
  have hl8 : len ≤ 100000000 := by omega
  have HE := Lib.hid hE
  have HG := Lib.hid hG
  have HH := Lib.hid hH
  have HBY := Lib.hid hby
  have HB0 := Lib.hid hb0
  have HS0 := Lib.hid hs0
  clear hE hG hH hby hb0 hs0
  refine Code.wp_mono (Q := DeadAt w.heap.size [{ target := .fn (.func 20) #[.pointer (some ⟨w.heap.size + 2, 0, none⟩), .pointer (some ⟨w.heap.size, 0, none⟩)], args := #[] }] (fun w4 => At3d w w4 ∧ Q w4)) ?_ ?_
  · intro e a4 w4 h4
    cases e
    case panic c =>
      obtain ⟨rfl, ht, hD, hA, hQ⟩ := h4
      simp only [Exit.then]
      show Leaves _ _ _ _ _ _ _
      rw [hD]
      obtain ⟨hO1, hO2, hO3, hO4, hO5⟩ := At3d.facts hA
      refine leaves_cons (f := 20) (args := #[.pointer (some ⟨w.heap.size + 2, 0, none⟩), .pointer (some ⟨w.heap.size, 0, none⟩)]) (by simp) (by simp [go_sem]) ?_
      refine (readDone_dies w.heap.size _ hO4 hO5 hO1 hO2 hO3).mono ?_
      rintro e u' w'' ⟨rfl, hu, o, o2, rfl⟩
      simp only
      rw [hu]
      obtain ⟨hP1, hP2, hP3⟩ := read_out_d hA o o2
      refine ⟨.int .i64 62, ?_, rfl, w4, hQ, hP2, hP3⟩
      have ht2 : a4.tmps[4]?.getD undef = .pointer (some ⟨w.heap.size, 0, none⟩) := by simpa using ht
      simp [results, Tryd.results8, go_sem, ht2, hP1]
    all_goals exact h4.elim
  refine wp_region_any (by kernel_rfl) ?_
  try (change wpAny _ _ _ _ _ _ _ (World.drew _))
  refine wpAny_take (i := 0) (v := .func (Fn.func F) #[] capt) rfl (by kernel_rfl) (by kernel_rfl) (by kernel_rfl) (deadAt_put 11 _ (by decide)) (Or.inl ⟨by rfl, by intro w; go_simp⟩) ?_
  refine wpAny_take (i := 1) (v := .slice a len cap) rfl (by kernel_rfl) (by kernel_rfl) (by kernel_rfl) (deadAt_put 12 _ (by decide)) (Or.inl ⟨by rfl, by intro w; go_simp⟩) ?_
  simp only [Act.put, List.setIfInBounds_toArray]
  refine wpAny_ready (rs := [2, 3]) (by kernel_rfl) (by simp) ?_
  refine AllReady.cons rfl (fun K hK => ?_) ?_
  · go_simp
    refine (clone_any a len cap bs _ (by exact hr0) hn hl8).mono ?_
    intro e w1 h1
    obtain ⟨a1, c1, rfl, hr1, hn1, ho1, hb1⟩ := retOwn_len h1
    have hS := cell_bel (w := w0.drew) hb1 h5
    have hRD := rd_new (pg := w.heap.size + 1) hr1 hn1 ho1
    have hBB := read_bel HB0 HS0 hb1
    have hHH := read_heap HS0 HE HG HH hb1
    have hFC := by_dies HBY hRD (rg_new hHH) (Nat.le_succ _) (hBB _)
    simp only
    refine hK _ _ ?_
    clear hK K
    refine wpAny_ready (rs := [3]) (by kernel_rfl) (by simp) (AllReady.cons rfl (fun K hK => ?_) AllReady.nil)
    go_simp
    refine hK _ _ ?_
    clear hK K
    refine wpAny_ready (rs := [4]) (by kernel_rfl) (by simp) (AllReady.cons rfl (fun K hK => ?_) AllReady.nil)
    go_simp
    refine hK _ _ ?_
    clear hK K
    refine wpAny_ready (rs := [5]) (by kernel_rfl) (by simp) (AllReady.cons rfl (fun K hK => ?_) AllReady.nil)
    go_simp
    refine hK _ _ ?_
    clear hK K
    refine wpAny_ready (rs := [6]) (by kernel_rfl) (by simp) (AllReady.cons rfl (fun K hK => ?_) AllReady.nil)
    go_simp
    refine hFC.mono ?_
    rintro e w4 ⟨rfl, hR4, hIn, hQ⟩
    exact ⟨rfl, rfl, rfl, died_after hIn hR4 hHH, hQ⟩
  · refine AllReady.cons rfl (fun K hK => ?_) AllReady.nil
    go_simp
    refine hK _ _ ?_
    clear hK K
    refine wpAny_ready (rs := [2]) (by kernel_rfl) (by simp) (AllReady.cons rfl (fun K hK => ?_) AllReady.nil)
    go_simp
    refine (clone_any a len cap bs _ (by exact hr0) hn hl8).mono ?_
    intro e w1 h1
    obtain ⟨a1, c1, rfl, hr1, hn1, ho1, hb1⟩ := retOwn_len h1
    have hRD := rd_new (pg := w.heap.size + 1) hr1 hn1 ho1
    have hBB := read_bel HB0 HS0 hb1
    have hHH := read_heap HS0 HE HG HH hb1
    have hFC := by_dies HBY hRD (rg_new hHH) (Nat.le_succ _) (hBB _)
    simp only
    refine hK _ _ ?_
    clear hK K
    refine wpAny_ready (rs := [4]) (by kernel_rfl) (by simp) (AllReady.cons rfl (fun K hK => ?_) AllReady.nil)
    go_simp
    refine hK _ _ ?_
    clear hK K
    refine wpAny_ready (rs := [5]) (by kernel_rfl) (by simp) (AllReady.cons rfl (fun K hK => ?_) AllReady.nil)
    go_simp
    refine hK _ _ ?_
    clear hK K
    refine wpAny_ready (rs := [6]) (by kernel_rfl) (by simp) (AllReady.cons rfl (fun K hK => ?_) AllReady.nil)
    go_simp
    refine hFC.mono ?_
    rintro e w4 ⟨rfl, hR4, hIn, hQ⟩
    exact ⟨rfl, rfl, rfl, died_after hIn hR4 hHH, hQ⟩

end Go.Proofs.YtdpkinppkhnjkaaDoor
