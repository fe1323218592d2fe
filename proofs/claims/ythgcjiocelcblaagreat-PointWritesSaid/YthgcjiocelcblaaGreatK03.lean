/- cursor.Read's deferred function, where the function comes back. -/
import Derived.Test.YthgcjiocelcblaaGreatK02
import Derived.Defers
import Derived.Recover
import Derived.Laws.Pointers
import Derived.RegionCalls
import Derived.Deep.RegionHeld3
namespace Go.Proofs.YthgcjiocelcblaaGreat
open Go.RowKit

theorem assert_nil (w : World) : (Instr.typeAssert .nilIface 20 114 true).run Tryz.prog w = .ok (.tuple #[.agg #[.pointer none], .bool false]) w := by kernel_rfl
theorem neq_nilIface (w : World) : (binOp .neq 20 .nilIface .nilIface).run Tryz.prog w = .ok (.bool false) w := by kernel_rfl
set_option maxRecDepth 100000 in
set_option maxHeartbeats 300000 in
theorem readDone_idle (s : Nat) (w : World) (h2 : w.cell? ⟨s + 2, 0, none⟩ = some (.pointer (some ⟨s + 1, 0, none⟩))) (h1 : w.cell? ⟨s + 1, 1, none⟩ = some (.bool false)) (hz : w.frozen? ⟨s + 1, 1, none⟩ = false) :
    CallsD Tryz.prog 47 #[.pointer (some ⟨s + 2, 0, none⟩), .pointer (some ⟨s, 0, none⟩)] .returning w fun e u' w' => e = .returned (.tuple #[]) ∧ u' = .returning ∧ ∃ o, w' = (w.setCell ⟨s + 1, 1, none⟩ (.bool true)).alloc o := by
  refine callsD_of_wpS Tryz.func47 rfl fun c₀ cs hu => ?_
  apply wpS_seq
  apply wpS_region
  simp [wpOpsS, go_sem, h2, h1, hz, Tryz.ntmps47, Exit.thenS]
  apply wpS_seq
  apply wpS_region
  simp [wpOpsS, go_sem, recoverD, hu, Exit.thenS]
  apply wpS_seq
  apply wpS_region
  simp [wpOpsS, go_sem, assert_nil, Exit.thenS]
  apply wpS_seq
  apply wpS_region
  simp [wpOpsS, go_sem, Exit.thenS]
  refine wpS_cond (t := false) (by simp [Act.eval, Array.replicate]) ?_
  simp only [Bool.false_eq_true, if_false]
  apply wpS_seq
  apply wpS_region
  simp [wpOpsS, go_sem, neq_nilIface, Exit.thenS]
  refine wpS_cond (t := false) (by simp [Act.eval, Array.replicate]) ?_
  simp only [Bool.false_eq_true, if_false]
  refine wpS_of_wp (wp_skip ?_)
  cases c₀
  simp_all [bodyPostS, results, Tryz.results47]
  exact ⟨_, rfl⟩

end Go.Proofs.YthgcjiocelcblaaGreat

namespace Go.Proofs.YthgcjiocelcblaaGreat
open Go.RowKit

/-- Behind the clone: all is below the reader's own block. -/
theorem read_bel {w w0 w1 : World} (hb0 : Hid (Below w.heap.size w w0)) (hs0 : Hid (w0.heap.size = w.heap.size + 3)) (hb1 : Below w0.drew.heap.size w0.drew w1) : ∀ o, Below w.heap.size w (w1.alloc o) ∧ w.heap.size + 3 ≤ w1.heap.size := fun o => by
  have h1 : Below w.heap.size w w1 := (hb0.out.drew).trans (hb1.mono (by have := hs0.out; show w.heap.size ≤ w0.heap.size; omega))
  exact ⟨bel_alloc h1 o, by have := hs0.out; have : w0.heap.size ≤ w1.heap.size := hb1.size; omega⟩
theorem eql_func_nil (fn : Fn) (capt : Array Value) (w : World) : (binOp .eql 78 (.func fn #[] capt) .nilFunc).run Tryz.prog w = .ok (.bool false) w := by
  have h : ∀ d : Nat, (Op.equalIn (d + 1) 78 (.func fn #[] capt) .nilFunc).run Tryz.prog w = .ok false w := fun d => by
    simp [Op.equalIn, run_underlying Tryz.underlying78]
  simp only [binOp]
  simp [Op.equal, Op.maxDepth, h 9999]
theorem frame3 (w : World) : Below w.heap.size w (((w.alloc (Obj.cells #[.int .i64 0] 30)).alloc (Obj.cells #[.bool false, .bool false] 112)).alloc (Obj.cells #[.pointer (some ⟨w.heap.size + 1, 0, none⟩)] 110)) ∧
    (((w.alloc (Obj.cells #[.int .i64 0] 30)).alloc (Obj.cells #[.bool false, .bool false] 112)).alloc (Obj.cells #[.pointer (some ⟨w.heap.size + 1, 0, none⟩)] 110)).heap.size = w.heap.size + 3 ∧
    (((w.alloc (Obj.cells #[.int .i64 0] 30)).alloc (Obj.cells #[.bool false, .bool false] 112)).alloc (Obj.cells #[.pointer (some ⟨w.heap.size + 1, 0, none⟩)] 110)).heap[w.heap.size]? = some (.cells #[.int .i64 0] 30 (0, 0)) ∧
    (((w.alloc (Obj.cells #[.int .i64 0] 30)).alloc (Obj.cells #[.bool false, .bool false] 112)).alloc (Obj.cells #[.pointer (some ⟨w.heap.size + 1, 0, none⟩)] 110)).heap[w.heap.size + 1]? = some (.cells #[.bool false, .bool false] 112 (0, 0)) ∧
    (((w.alloc (Obj.cells #[.int .i64 0] 30)).alloc (Obj.cells #[.bool false, .bool false] 112)).alloc (Obj.cells #[.pointer (some ⟨w.heap.size + 1, 0, none⟩)] 110)).heap[w.heap.size + 2]? = some (.cells #[.pointer (some ⟨w.heap.size + 1, 0, none⟩)] 110 (0, 0)) := by
  refine ⟨bel_alloc (bel_alloc (bel_alloc (Below.refl _ w) _) _) _, by simp, ?_, ?_, ?_⟩
  · show ((((w.heap.push _).push _).push _))[w.heap.size]? = _
    simp only [Array.getElem?_push, Array.size_push]
    rw [if_neg (by omega), if_neg (by omega), if_pos trivial]
  · show ((((w.heap.push _).push _).push _))[w.heap.size + 1]? = _
    simp only [Array.getElem?_push, Array.size_push]
    rw [if_neg (by omega), if_pos trivial]
  · show ((((w.heap.push _).push _).push _))[w.heap.size + 2]? = _
    simp only [Array.getElem?_push, Array.size_push]
    rw [if_pos trivial]
theorem cell_bel {w w' : World} {b off : Nat} {v : Value} (hb : Below w.heap.size w w') (h : w.cell? ⟨b, off, none⟩ = some v) : w'.cell? ⟨b, off, none⟩ = some v := by
  rw [hb.cell (p := ⟨b, off, none⟩) (World.block_lt_of_cell? w ⟨b, off, none⟩ h)]; exact h
theorem cell_of_heap1 {w : World} {b : Nat} {v : Value} {t : TypeId} {fr : Nat × Nat} (h : w.heap[b]? = some (.cells #[v] t fr)) : w.cell? ⟨b, 0, none⟩ = some v := by simp [World.cell?, h]
/-- A reader: what is left, and its reading. -/
def RD (w : World) (pr pg : Nat) (a : Option Addr) (c : Nat) (bs : List Nat) : Prop :=
  w.heap[pr]? = some (.cells #[.slice a bs.length c, .pointer (some ⟨pg, 0, none⟩)] 118 (0, 0)) ∧ Row w a bs.length bs ∧ (a = none → c = 0) ∧ bs.length ≤ c ∧ c ≤ maxLen ∧ ∀ x, a = some x → x.block ≠ pr
/-- Between the blocks of the caller and its own new ones a reader's function changes the reader alone. -/
def Inner (B : Nat) (w : World) (pr : Nat) (w' : World) : Prop := w.heap.size ≤ w'.heap.size ∧ ∀ k, B ≤ k → k < w.heap.size → k ≠ pr → w'.heap[k]? = w.heap[k]?
/-- What is asked of the function that Read calls. -/
def ByOk (F : Nat) (capt : Array Value) (bs : List Nat) (w : World) (Q : World → Prop) : Prop :=
  ∀ (W : World) (pr pg : Nat) (a : Option Addr) (c : Nat), RD W pr pg a c bs → Below w.heap.size w W → w.heap.size + 3 ≤ pr →
    Calls Tryz.prog F (#[.pointer (some ⟨pr, 0, none⟩)] ++ capt) W fun e W' => e = .returned (.tuple #[]) ∧ Inner w.heap.size W pr W' ∧ Q W'
/-- The function's own three blocks. -/
def At3 (w w' : World) : Prop := w'.heap[w.heap.size]? = some (.cells #[.int .i64 0] 30 (0, 0)) ∧ w'.heap[w.heap.size + 1]? = some (.cells #[.bool false, .bool false] 112 (0, 0)) ∧ w'.heap[w.heap.size + 2]? = some (.cells #[.pointer (some ⟨w.heap.size + 1, 0, none⟩)] 110 (0, 0)) ∧ w.heap.size + 3 ≤ w'.heap.size
theorem read_heap {w w0 w1 : World} (hs0 : Hid (w0.heap.size = w.heap.size + 3)) (hE : Hid (w0.heap[w.heap.size]? = some (.cells #[.int .i64 0] 30 (0, 0)))) (hG : Hid (w0.heap[w.heap.size + 1]? = some (.cells #[.bool false, .bool false] 112 (0, 0)))) (hH : Hid (w0.heap[w.heap.size + 2]? = some (.cells #[.pointer (some ⟨w.heap.size + 1, 0, none⟩)] 110 (0, 0)))) (hb1 : Below w0.drew.heap.size w0.drew w1) : At3 w w1 := by
  have hs := hs0.out
  have hb : ∀ k, k < w0.heap.size → w1.heap[k]? = w0.heap[k]? := fun k hk => hb1.block k hk
  have hz : w0.heap.size ≤ w1.heap.size := hb1.size
  refine ⟨?_, ?_, ?_, by omega⟩
  · rw [hb _ (by omega)]; exact hE.out
  · rw [hb _ (by omega)]; exact hG.out
  · rw [hb _ (by omega)]; exact hH.out
theorem read_after {w w1 w4 : World} {o : Obj} (hIn : Inner w.heap.size (w1.alloc o) w1.heap.size w4) (h : At3 w w1) : At3 w w4 := by
  obtain ⟨hE, hG, hH, hs⟩ := h
  have hz : (w1.alloc o).heap.size = w1.heap.size + 1 := by simp
  have hk : ∀ k, w.heap.size ≤ k → k < w1.heap.size → w4.heap[k]? = w1.heap[k]? := fun k h1 h2 => by
    rw [hIn.2 k h1 (by omega) (by omega), Below.heap_alloc _ _ _ h2]
  have := hIn.1
  refine ⟨?_, ?_, ?_, by omega⟩
  · rw [hk _ (by omega) (by omega)]; exact hE
  · rw [hk _ (by omega) (by omega)]; exact hG
  · rw [hk _ (by omega) (by omega)]; exact hH
theorem At3.cell {w w' : World} (h : At3 w w') : w'.cell? ⟨w.heap.size + 2, 0, none⟩ = some (.pointer (some ⟨w.heap.size + 1, 0, none⟩)) := cell_of_heap1 h.2.2.1
theorem At3.facts {w w' : World} (h : At3 w w') : w'.cell? ⟨w.heap.size + 1, 0, none⟩ = some (.bool false) ∧ w'.cell? ⟨w.heap.size + 1, 1, none⟩ = some (.bool false) ∧ w'.frozen? ⟨w.heap.size + 1, 1, none⟩ = false ∧ w'.cell? ⟨w.heap.size, 0, none⟩ = some (.int .i64 0) ∧ w'.frozen? ⟨w.heap.size, 0, none⟩ = false := by
  obtain ⟨hE, hG, _, _⟩ := h
  refine ⟨?_, ?_, ?_, ?_, ?_⟩ <;> simp [World.cell?, World.frozen?, hE, hG]
theorem read_out {w w4 : World} (h : At3 w w4) : (w4.setCell ⟨w.heap.size, 0, none⟩ (.int .i64 0)).cell? ⟨w.heap.size + 2, 0, none⟩ = some (.pointer (some ⟨w.heap.size + 1, 0, none⟩)) ∧
    (w4.setCell ⟨w.heap.size, 0, none⟩ (.int .i64 0)).cell? ⟨w.heap.size + 1, 1, none⟩ = some (.bool false) ∧
    (w4.setCell ⟨w.heap.size, 0, none⟩ (.int .i64 0)).frozen? ⟨w.heap.size + 1, 1, none⟩ = false ∧
    (∀ o, (((w4.setCell ⟨w.heap.size, 0, none⟩ (.int .i64 0)).setCell ⟨w.heap.size + 1, 1, none⟩ (.bool true)).alloc o).cell? ⟨w.heap.size, 0, none⟩ = some (.int .i64 0)) ∧
    (∀ o, Below w.heap.size w4 (((w4.setCell ⟨w.heap.size, 0, none⟩ (.int .i64 0)).setCell ⟨w.heap.size + 1, 1, none⟩ (.bool true)).alloc o)) ∧
    (∀ o k, w.heap.size + 3 ≤ k → k < w4.heap.size → (((w4.setCell ⟨w.heap.size, 0, none⟩ (.int .i64 0)).setCell ⟨w.heap.size + 1, 1, none⟩ (.bool true)).alloc o).heap[k]? = w4.heap[k]?) := by
  obtain ⟨hG0, hG1, hG2, hE0, hE1⟩ := At3.facts h
  have hS := At3.cell h
  have hz := h.2.2.2
  have e1 : ∀ k, k ≠ w.heap.size → (w4.setCell ⟨w.heap.size, 0, none⟩ (.int .i64 0)).heap[k]? = w4.heap[k]? := fun k hk => Below.heap_setCell _ _ _ _ hk
  refine ⟨?_, ?_, ?_, fun o => ?_, fun o => ?_, fun o k hk1 hk2 => ?_⟩
  · rw [World.cell?_of_block (w := w4) (e1 _ (by show _ ≠ _; simp))]; exact hS
  · rw [World.cell?_of_block (w := w4) (e1 _ (by show _ ≠ _; simp))]; exact hG1
  · rw [World.frozen?_of_block (w := w4) (e1 _ (by show _ ≠ _; simp))]; exact hG2
  · have e2 : (((w4.setCell ⟨w.heap.size, 0, none⟩ (.int .i64 0)).setCell ⟨w.heap.size + 1, 1, none⟩ (.bool true)).alloc o).heap[w.heap.size]? = (w4.setCell ⟨w.heap.size, 0, none⟩ (.int .i64 0)).heap[w.heap.size]? := by
      rw [Below.heap_alloc _ _ _ (by simp [World.setCell]; omega), Below.heap_setCell _ _ _ _ (by show w.heap.size ≠ w.heap.size + 1; omega)]
    rw [World.cell?_of_block (w := w4.setCell ⟨w.heap.size, 0, none⟩ (.int .i64 0)) (a := ⟨w.heap.size, 0, none⟩) e2]
    simp [go_sem, hE0]
  · have b1 : Below w.heap.size w4 (w4.setCell ⟨w.heap.size, 0, none⟩ (.int .i64 0)) := (Below.refl w.heap.size w4).setCell (p := ⟨w.heap.size, 0, none⟩) (Nat.le_refl _) _
    have b2 := b1.setCell (p := ⟨w.heap.size + 1, 1, none⟩) (Nat.le_succ _) (.bool true)
    exact b2.alloc (Nat.le_trans (by omega) b2.size) o
  · rw [Below.heap_alloc _ _ _ (by simp [World.setCell]; omega), Below.heap_setCell _ _ _ _ (by show k ≠ w.heap.size + 1; omega), Below.heap_setCell _ _ _ _ (by show k ≠ w.heap.size; omega)]
theorem rd_new {w1 : World} {a1 : Option Addr} {c1 pg : Nat} {bs : List Nat} {B : Nat} (hr : Row w1 a1 bs.length bs) (hn : a1 = none → c1 = 0) (ho : Own B w1 (.slice a1 bs.length c1) bs) :
    RD (w1.alloc (.cells #[.slice a1 bs.length c1, .pointer (some ⟨pg, 0, none⟩)] 118)) w1.heap.size pg a1 c1 bs := by
  have hc : bs.length ≤ c1 ∧ c1 ≤ maxLen := by
    rcases ho.1.2 with ⟨e, _⟩ | ⟨g, cap, cur, e, _, _, h1, h2, _⟩
    · simp only [Value.slice.injEq] at e
      obtain ⟨_, h1, h2⟩ := e
      omega
    · simp only [Value.slice.injEq] at e
      obtain ⟨_, _, rfl⟩ := e
      exact ⟨h1, h2⟩
  refine ⟨heap_alloc_new w1 _, row_alloc hr _, hn, hc.1, hc.2, fun x hx => ?_⟩
  have := own_base ho x.block (by rw [hx]; rfl)
  omega
theorem by_calls {F : Nat} {capt : Array Value} {bs : List Nat} {w W : World} {Q : World → Prop} {pr pg c : Nat} {a : Option Addr} (h : Hid (ByOk F capt bs w Q)) (hr : RD W pr pg a c bs) (hb : Below w.heap.size w W ∧ w.heap.size + 3 ≤ pr) :
    Calls Tryz.prog F (#[.pointer (some ⟨pr, 0, none⟩)] ++ capt) W fun e W' => e = .returned (.tuple #[]) ∧ Inner w.heap.size W pr W' ∧ Q W' := h.out W pr pg a c hr hb.1 hb.2
set_option maxRecDepth 100000 in
set_option maxHeartbeats 800000 in
theorem read_ok (a : Option Addr) (len cap : Nat) (bs : List Nat) (F : Nat) (capt : Array Value) (w : World) (Q : World → Prop) (hr : Row w a len bs) (hn : a = none → cap = 0) (hl : len ≤ 100000)
    (hcall : ∀ (args : Array Value) (wx : World), (callFunc F args).run Tryz.prog wx = .ok (.enter F args) wx) (hby : ByOk F capt bs w Q) :
    Calls Tryz.prog 28 #[.slice a len cap, .func (Fn.func F) #[] capt] w fun e w' => e = .returned (.int .i64 0) ∧ ∃ w2, Q w2 ∧ Below w.heap.size w2 w' ∧ ∀ k, w.heap.size + 3 ≤ k → k < w2.heap.size → w'.heap[k]? = w2.heap[k]? := by
  have hmf : ∀ (fn : Fn) (first cap : Array Value) (w : World), (Instr.makeFunc fn first cap).run Tryz.prog w = .ok (.func fn first cap) w := fun _ _ _ _ => rfl
  have heq := eql_func_nil (Fn.func F) capt
  go_enter_defers Tryz.func28, Tryz.ntmps28
  go_wp2_with fail
  have e2 : w.heap.size + 1 + 1 = w.heap.size + 2 := rfl
  rw [e2]
  obtain ⟨w0, hw0⟩ : ∃ w0, w0 = (((w.alloc (Obj.cells #[.int .i64 0] 30)).alloc (Obj.cells #[.bool false, .bool false] 112)).alloc (Obj.cells #[.pointer (some ⟨w.heap.size + 1, 0, none⟩)] 110)) := ⟨_, rfl⟩
  have hf0 := frame3 w
  rw [← hw0] at hf0 ⊢
  obtain ⟨hb0, hs0, hE, hG, hH⟩ := hf0
  clear hw0 e2
  have h5 := cell_of_heap1 hH
  have hr0 := row_keep hr hb0 (Nat.le_refl _)
  have hl8 : len ≤ 100000000 := by omega
  have HE := Lib.hid hE
  have HG := Lib.hid hG
  have HH := Lib.hid hH
  have HBY := Lib.hid hby
  have HB0 := Lib.hid hb0
  have HS0 := Lib.hid hs0
  clear hE hG hH hby hb0 hs0
  go_region_held3 (fun w' => w'.cell? ⟨w.heap.size + 2, 0, none⟩ = some (.pointer (some ⟨w.heap.size + 1, 0, none⟩))) (first | exact hS | go_keep)
    (first
      | (go_at_call 46; ((with_reducible refine (clone_any a len cap bs _ ?_ hn hl8).mono ?_)); (· exact hr0); (intro e w1 h1; obtain ⟨a1, c1, rfl, hr1, hn1, ho1, hb1⟩ := retOwn_len h1; have hS := cell_bel (w := w0.drew) hb1 h5; have hRD := rd_new (pg := w.heap.size + 1) hr1 hn1 ho1; have hBB := read_bel HB0 HS0 hb1; have hHH := read_heap HS0 HE HG HH hb1; have hFC := by_calls HBY hRD (hBB _)))
      | (guard_target =~ Calls _ F _ _ _; with_reducible refine hFC.mono ?_; (rintro e w4 ⟨rfl, hIn, hQ⟩; have hA := read_after hIn hHH; have hS := At3.cell hA)))
  obtain ⟨hG0, hG1, hG2, hE0, hE1⟩ := At3.facts hA
  simp only [Exit.then]
  go_wp2_with fail
  obtain ⟨hO1, hO2, hO3, hO4, hO5, hO6⟩ := read_out hA
  refine leaves_cons (f := 47) (args := #[.pointer (some ⟨w.heap.size + 2, 0, none⟩), .pointer (some ⟨w.heap.size, 0, none⟩)]) (by simp) (by simp [go_sem]) ?_
  refine (readDone_idle w.heap.size _ hO1 hO2 hO3).mono ?_
  rintro e u' w'' ⟨rfl, rfl, o, rfl⟩
  refine ⟨.int .i64 0, ?_, rfl, w4, hQ, hO5 o, hO6 o⟩
  simp [results, Tryz.results28, go_sem, hO4 o]

end Go.Proofs.YthgcjiocelcblaaGreat

namespace Go.Proofs.YthgcjiocelcblaaGreat
open Go.RowKit

theorem rd_cells {w : World} {pr pg c : Nat} {a : Option Addr} {bs : List Nat} (h : RD w pr pg a c bs) : w.cell? ⟨pr, 0, none⟩ = some (.slice a bs.length c) ∧ w.cell? ⟨pr, 1, none⟩ = some (.pointer (some ⟨pg, 0, none⟩)) ∧ w.frozen? ⟨pr, 0, none⟩ = false := by
  obtain ⟨h, _⟩ := h
  refine ⟨?_, ?_, ?_⟩ <;> simp [World.cell?, World.frozen?, h]
theorem left_ok {w : World} {pr pg c : Nat} {a : Option Addr} {bs : List Nat} (h : RD w pr pg a c bs) :
    Calls Tryz.prog 50 #[.pointer (some ⟨pr, 0, none⟩)] w fun e w' => e = .returned (.int .i64 (bs.length : Int)) ∧ w' = w := by
  obtain ⟨h0, h1, h2⟩ := rd_cells h
  go_enter Tryz.func50, Tryz.ntmps50
  go_wp2
  go_ret
  exact ⟨rfl, rfl⟩
theorem setcell_reader {w : World} {pr : Nat} {v p u : Value} {t : TypeId} (h : w.heap[pr]? = some (.cells #[v, p] t (0, 0))) : (w.setCell ⟨pr, 0, none⟩ u).heap[pr]? = some (.cells #[u, p] t (0, 0)) := by
  have hlt : pr < w.heap.size := by
    rcases Nat.lt_or_ge pr w.heap.size with h1 | h1
    · exact h1
    · rw [Array.getElem?_eq_none h1] at h; cases h
  simp [World.setCell, Array.getElem?_modify, h]
theorem add_off (b off n : Nat) : Addr.add ⟨b, off, none⟩ n = ⟨b, off + n, none⟩ := by
  unfold Addr.add; split
  · subst_vars; rfl
  · rfl
theorem add_block (x : Addr) (n : Nat) : (Addr.add x n).block = x.block := by
  unfold Addr.add; split <;> rfl
theorem rd_advance {w : World} {pr pg c : Nat} {a a2 : Option Addr} {bs : List Nat} (h : RD w pr pg a c bs) (n : Nat) (hn : n ≤ bs.length)
    (ha : (a = none ∧ a2 = none) ∨ ∃ b off sp, a = some ⟨b, off, sp⟩ ∧ (a2 = some (Addr.add ⟨b, off, sp⟩ n) ∨ (c = n ∧ a2 = some ⟨b, off, sp⟩))) :
    RD (w.setCell ⟨pr, 0, none⟩ (.slice a2 (bs.length - n) (c - n))) pr pg a2 (c - n) (bs.drop n) ∧ Row (w.setCell ⟨pr, 0, none⟩ (.slice a2 (bs.length - n) (c - n))) a n (bs.take n) := by
  obtain ⟨h0, hrow, hnil, hlc, hcm, hne⟩ := h
  have hk : ∀ k, k ≠ pr → (w.setCell ⟨pr, 0, none⟩ (.slice a2 (bs.length - n) (c - n))).heap[k]? = w.heap[k]? := fun k hk => Below.heap_setCell _ _ _ _ hk
  have hcell : ∀ b off, b ≠ pr → (w.setCell ⟨pr, 0, none⟩ (.slice a2 (bs.length - n) (c - n))).cell? ⟨b, off, none⟩ = w.cell? ⟨b, off, none⟩ := fun b off hb => World.cell?_of_block (w := w) (a := ⟨b, off, none⟩) (hk b hb)
  obtain ⟨hl, hx, hr⟩ := hrow
  have hd : (bs.drop n).length = bs.length - n := by simp
  refine ⟨⟨?_, ⟨rfl, fun x hm => hx x (List.mem_of_mem_drop hm), fun h0 => ?_⟩, fun he => ?_, by omega, by omega, fun x hx2 => ?_⟩, ⟨by simp; omega, fun x hm => hx x (List.mem_of_mem_take hm), fun h0 => ?_⟩⟩
  · rw [hd]; exact setcell_reader h0
  · rw [hd] at h0
    obtain ⟨b, off, rfl, hcs⟩ := hr (by omega)
    have hbp : b ≠ pr := hne _ rfl
    rcases ha with ⟨h1, _⟩ | ⟨b', off', sp, h1, h2 | ⟨h2, _⟩⟩
    · cases h1
    · cases h1
      refine ⟨b, off + n, by rw [h2, add_off], fun i hi => ?_⟩
      rw [hd] at hi
      rw [hcell _ _ hbp, Nat.add_assoc, hcs (n + i) (by omega)]
      simp [List.getD_eq_getElem?_getD, List.getElem?_drop]
    · omega
  · rcases ha with ⟨h1, _⟩ | ⟨b', off', sp, h1, h2 | ⟨h2, h3⟩⟩
    · have := hnil h1; omega
    · rw [he] at h2; cases h2
    · rw [he] at h3; cases h3
  · rcases ha with ⟨_, h1⟩ | ⟨b', off', sp, h1, h2 | ⟨h2, h3⟩⟩
    · rw [h1] at hx2; cases hx2
    · rw [h2] at hx2; cases hx2; rw [add_block]; exact hne _ h1
    · rw [h3] at hx2; cases hx2; exact hne _ h1
  · obtain ⟨b, off, rfl, hcs⟩ := hr (by omega)
    have hbp : b ≠ pr := hne _ rfl
    refine ⟨b, off, rfl, fun i hi => ?_⟩
    rw [hcell _ _ hbp, hcs i (by omega)]
    simp [List.getD_eq_getElem?_getD, hi]
/-- What a taking ends with. -/
def Took (w : World) (pr pg : Nat) (a : Option Addr) (c : Nat) (bs : List Nat) (n : Nat) (e : Ending) (w' : World) : Prop :=
  ∃ a2, e = .returned (.slice a n c) ∧ w' = w.setCell ⟨pr, 0, none⟩ (.slice a2 (bs.length - n) (c - n)) ∧ RD w' pr pg a2 (c - n) (bs.drop n) ∧ Row w' a n (bs.take n)
theorem took_of {w w' : World} {pr pg c n : Nat} {a a2 : Option Addr} {bs : List Nat} {v : Value} (h : RD w pr pg a c bs) (hn : n ≤ bs.length)
    (ha : (a = none ∧ a2 = none) ∨ ∃ b off sp, a = some ⟨b, off, sp⟩ ∧ (a2 = some (Addr.add ⟨b, off, sp⟩ n) ∨ (c = n ∧ a2 = some ⟨b, off, sp⟩)))
    (hv : v = .slice a n c) (hw : w' = w.setCell ⟨pr, 0, none⟩ (.slice a2 (bs.length - n) (c - n))) : Took w pr pg a c bs n (.returned v) w' := by
  have hr := rd_advance h n hn ha
  exact ⟨a2, by rw [hv], hw, by rw [hw]; exact hr.1, by rw [hw]; exact hr.2⟩
set_option maxHeartbeats 400000 in
theorem take_ok {w : World} {pr pg c : Nat} {a : Option Addr} {bs : List Nat} (n : Nat) (h : RD w pr pg a c bs) (hn : n ≤ bs.length) :
    Calls Tryz.prog 65 #[.pointer (some ⟨pr, 0, none⟩), .int .i64 (n : Int)] w (Took w pr pg a c bs n) := by
  obtain ⟨h0, h1, h2⟩ := rd_cells h
  have hc : bs.length ≤ c ∧ c ≤ maxLen := ⟨h.2.2.2.1, h.2.2.2.2.1⟩
  have HN := Lib.hid hn
  unfold maxLen at hc
  cases a with
  | none =>
    obtain rfl : c = 0 := h.2.2.1 rfl
    obtain rfl : n = 0 := by omega
    have hb0 : bs.length = 0 := by omega
    have HH := Lib.hid h
    clear h
    go_enter Tryz.func65, Tryz.ntmps65
    go_wp2_with (go_at_call 50; refine (left_ok HH.out).mono ?_; rintro e w1 ⟨rfl, rfl⟩)
    go_ret
    exact took_of (a2 := none) HH.out HN.out (Or.inl ⟨rfl, rfl⟩) rfl (by rw [hb0])
  | some x =>
    obtain ⟨b, off, sp⟩ := x
    have HH := Lib.hid h
    clear h
    go_enter Tryz.func65, Tryz.ntmps65
    go_wp2_with (go_at_call 50; refine (left_ok HH.out).mono ?_; rintro e w1 ⟨rfl, rfl⟩)
    · have hcn : c = n := by assumption
      subst hcn
      go_ret
      exact took_of (a2 := some ⟨b, off, sp⟩) HH.out HN.out (Or.inr ⟨b, off, sp, rfl, Or.inr ⟨rfl, rfl⟩⟩) rfl (by rw [Nat.sub_self])
    · go_ret
      exact took_of (a2 := some (Addr.add ⟨b, off, sp⟩ n)) HH.out HN.out (Or.inr ⟨b, off, sp, rfl, Or.inl rfl⟩) rfl rfl

/-- What the reader's Raw ends with. -/
def RawRet (w : World) (pr pg : Nat) (c : Nat) (bs : List Nat) (n : Nat) (e : Ending) (w' : World) : Prop :=
  ∃ a2 w1, w1 = w.setCell ⟨pr, 0, none⟩ (.slice a2 (bs.length - n) (c - n)) ∧ RD w' pr pg a2 (c - n) (bs.drop n) ∧ Below w1.heap.size w1 w' ∧ ∃ sv, e = .returned sv ∧ Own w1.heap.size w' sv (bs.take n)
theorem rd_below {w w' : World} {pr pg c : Nat} {a : Option Addr} {bs : List Nat} (h : RD w pr pg a c bs) (hb : Below w.heap.size w w') : RD w' pr pg a c bs := by
  obtain ⟨h0, h1, h2, h3, h4, h5⟩ := h
  have hlt : pr < w.heap.size := by
    rcases Nat.lt_or_ge pr w.heap.size with h1 | h1
    · exact h1
    · rw [Array.getElem?_eq_none h1] at h0; cases h0
  exact ⟨by rw [hb.block pr hlt]; exact h0, row_keep h1 hb (Nat.le_refl _), h2, h3, h4, h5⟩
end Go.Proofs.YthgcjiocelcblaaGreat

namespace Go.Proofs.YthgcjiocelcblaaGreat
open Go.RowKit

set_option maxHeartbeats 400000 in
theorem rZero_ok {w : World} {pr pg c : Nat} {a : Option Addr} {bs : List Nat} (h : RD w pr pg a c bs) (hz : ∀ i, i < bs.length → bs.getD i 0 = 0) (hl : bs.length ≤ 1000000) :
    Calls Tryz.prog 32 #[.pointer (some ⟨pr, 0, none⟩)] w fun e w' => e = .returned (.bool true) ∧ Below w.heap.size w w' := by
  obtain ⟨h0, h1, h2⟩ := rd_cells h
  go_enter Tryz.func32, Tryz.ntmps32
  go_wp2
  go_loop [12] (fun i => ∃ k : Nat, k ≤ bs.length ∧ i = .int .i64 k) (fun i => bs.length - (intOf i).toNat)
  case atStart => exact ⟨0, by omega, rfl⟩
  case round =>
    obtain ⟨k, hk, rfl⟩ := hrel
    by_cases hlt : k < bs.length
    · obtain ⟨b, off, rfl, hcl⟩ := h.2.1.2.2 (by omega)
      have hck : w.cell? ⟨b, off + k, none⟩ = some (.int .u8 0) := by
        have h9 := hcl k hlt
        rw [hz k hlt] at h9
        exact h9
      clear hcl hz
      go_wp2
      go_round
      case rel => exact ⟨k + 1, by omega, by go_num⟩
      case measure => simp [intOf]; omega
    · go_wp2
      go_ret
      exact ⟨rfl, Below.refl _ _⟩

end Go.Proofs.YthgcjiocelcblaaGreat

namespace Go.Proofs.YthgcjiocelcblaaGreat
open Go.RowKit

/-- The number of some bytes, the lowest ahead. -/
def leVal : List Nat → Nat
  | [] => 0
  | x :: xs => x + 256 * leVal xs
theorem leVal_snoc (xs : List Nat) (x : Nat) : leVal (xs ++ [x]) = leVal xs + x * 256 ^ xs.length := by
  induction xs with
  | nil => simp [leVal]
  | cons y ys ih =>
    simp only [List.cons_append, leVal, ih, List.length_cons, Nat.pow_succ]
    rw [Nat.mul_add, ← Nat.add_assoc, Nat.mul_comm (256 ^ ys.length) 256, Nat.mul_left_comm]
theorem leVal_lt (xs : List Nat) (h : ∀ x ∈ xs, x < 256) : leVal xs < 256 ^ xs.length := by
  induction xs with
  | nil => simp [leVal]
  | cons y ys ih =>
    have h1 := h y (by simp)
    have h2 := ih (fun x hx => h x (by simp [hx]))
    simp only [leVal, List.length_cons, Nat.pow_succ]
    omega
theorem num_step (A x k : Nat) (hA : A < 256 ^ k) (hx : x < 256) (hk : k < 8) : bits BinOp.or .u64 (A : Int) (IntKind.u64.wrap ((x : Int) * 2 ^ (8 * k))) = ((A + x * 256 ^ k : Nat) : Int) := by
  have e256 : 256 ^ k = 2 ^ (8 * k) := by rw [Nat.pow_mul]
  have hp : x * 2 ^ (8 * k) < 18446744073709551616 := by
    have h2 : 2 ^ (8 * k) ≤ 2 ^ 56 := Nat.pow_le_pow_right (by omega) (by omega)
    have h3 : x * 2 ^ (8 * k) ≤ 255 * 2 ^ 56 := Nat.mul_le_mul (by omega) h2
    omega
  have hA2 : A < 18446744073709551616 := by
    have h2 : 2 ^ (8 * k) ≤ 2 ^ 56 := Nat.pow_le_pow_right (by omega) (by omega)
    rw [e256] at hA; omega
  have h4 : (x : Int) * 2 ^ (8 * k) = ((x * 2 ^ (8 * k) : Nat) : Int) := by push_cast; rfl
  rw [h4, IntKind.wrap_u64, show (((x * 2 ^ (8 * k) : Nat) : Int) % 18446744073709551616) = ((x * 2 ^ (8 * k) : Nat) : Int) by omega, u64_or_nat _ _ hA2 hp]
  congr 1
  rw [e256] at hA ⊢
  rw [Nat.or_comm, Nat.mul_comm x, ← Nat.two_pow_add_eq_or_of_lt hA, Nat.add_comm]
/-- What the reader's numbers end with. -/
def NumRet (w : World) (pr pg : Nat) (c : Nat) (bs : List Nat) (n : Nat) (v : Value) (e : Ending) (w' : World) : Prop :=
  ∃ a2, e = .returned v ∧ w' = w.setCell ⟨pr, 0, none⟩ (.slice a2 (bs.length - n) (c - n)) ∧ RD w' pr pg a2 (c - n) (bs.drop n)
set_option maxHeartbeats 400000 in
theorem number_ok {w : World} {pr pg c : Nat} {a : Option Addr} {bs : List Nat} (n : Nat) (h : RD w pr pg a c bs) (hn : n ≤ bs.length) (h8 : n ≤ 8) :
    Calls Tryz.prog 49 #[.pointer (some ⟨pr, 0, none⟩), .int .i64 (n : Int)] w (NumRet w pr pg c bs n (.int .u64 (leVal (bs.take n) : Int))) := by
  have HH := Lib.hid h
  have HN := Lib.hid hn
  clear h hn
  go_enter Tryz.func49, Tryz.ntmps49
  go_wp2_with fail
  refine (take_ok n HH.out HN.out).mono ?_
  rintro e w1 ⟨a2, rfl, hw1, hrd, hrow⟩
  have HW := Lib.hid hw1
  clear hw1
  go_wp2
  go_loop [5, 12] (fun v i => ∃ k : Nat, k ≤ n ∧ i = .int .i64 k ∧ v = .int .u64 ((leVal ((bs.take n).take k) : Nat) : Int)) (fun _ i => n - (intOf i).toNat)
  case atStart => exact ⟨0, by omega, rfl, by simp [leVal]⟩
  case round =>
    obtain ⟨k, hk, rfl, rfl⟩ := hrel
    by_cases hlt : k < n
    · obtain ⟨b, off, rfl, hcl⟩ := hrow.2.2 (by omega)
      have hkl : k < (bs.take n).length := by rw [hrow.1]; exact hlt
      obtain ⟨x, hxe⟩ : ∃ x, x = (bs.take n)[k] := ⟨_, rfl⟩
      have hx : x < 256 := by rw [hxe]; exact hrow.2.1 _ (List.getElem_mem hkl)
      have hck : w1.cell? ⟨b, off + k, none⟩ = some (.int .u8 (x : Int)) := by rw [hcl k hlt, getD_in _ _ hkl, hxe]
      have hle : leVal ((bs.take n).take (k + 1)) = leVal ((bs.take n).take k) + x * 256 ^ k := by
        rw [← List.take_append_getElem hkl, leVal_snoc, ← hxe, List.length_take, Nat.min_eq_left (by omega)]
      have hlow : leVal ((bs.take n).take k) < 256 ^ k := by
        have h1 := leVal_lt ((bs.take n).take k) (fun y hy => hrow.2.1 y (List.mem_of_mem_take hy))
        rw [List.length_take, Nat.min_eq_left (by omega)] at h1
        exact h1
      have hst := Lib.hid (num_step _ x k hlow hx (by omega))
      have HLE := Lib.hid hle
      clear hcl hlow hle hxe
      go_wp2
      go_round
      case rel => exact ⟨k + 1, by omega, by go_num, by rw [hst.out, HLE.out]⟩
      case measure => simp [intOf]; omega
    · obtain rfl : k = n := by omega
      go_wp2
      go_ret
      exact ⟨a2, by simp [List.take_take], HW.out, hrd⟩
theorem leVal_one (bs : List Nat) (h : 1 ≤ bs.length) : leVal (bs.take 1) = bs.getD 0 0 := by
  cases bs with
  | nil => simp at h
  | cons x xs => simp [leVal]
set_option maxHeartbeats 400000 in
theorem rU8_ok {w : World} {pr pg c : Nat} {a : Option Addr} {bs : List Nat} (h : RD w pr pg a c bs) (hn : 1 ≤ bs.length) :
    Calls Tryz.prog 117 #[.pointer (some ⟨pr, 0, none⟩)] w (NumRet w pr pg c bs 1 (.int .u8 ((bs.getD 0 0 : Nat) : Int))) := by
  have hx : bs.getD 0 0 < 256 := by rw [getD_in _ _ (by omega)]; exact h.2.1.2.1 _ (List.getElem_mem _)
  obtain ⟨m, hm⟩ : ∃ m, m = bs.getD 0 0 := ⟨_, rfl⟩
  rw [← hm] at hx ⊢
  have H1 : Hid (leVal (bs.take 1) = m) := by rw [hm]; exact leVal_one bs hn
  have hmod : (m : Int) % 256 = (m : Int) := by omega
  clear hm
  have HH := Lib.hid h
  clear h
  go_enter Tryz.func117, Tryz.ntmps117
  go_wp2_with fail
  refine (number_ok 1 HH.out hn (by omega)).mono ?_
  rintro e w1 ⟨a2, rfl, hw1, hrd⟩
  rw [H1.out]
  have HW := Lib.hid hw1
  clear hw1
  go_wp2
  go_ret
  exact ⟨a2, rfl, HW.out, hrd⟩

end Go.Proofs.YthgcjiocelcblaaGreat

namespace Go.Proofs.YthgcjiocelcblaaGreat
open Go.RowKit

/-- What the reader's Text ends with: the reader goes on behind the text. -/
def TextRet (w : World) (pr pg : Nat) (c : Nat) (bs : List Nat) (k : Nat) (e : Ending) (w' : World) : Prop :=
  ∃ a2, e = .returned (.string (strOf ((bs.drop 1).take k))) ∧ RD w' pr pg a2 (c - 1 - k) ((bs.drop 1).drop k) ∧ w'.heap.size = w.heap.size ∧ w'.os = w.os ∧ w'.tape = w.tape ∧ w'.output = w.output ∧ ∀ j, j ≠ pr → w'.heap[j]? = w.heap[j]?
end Go.Proofs.YthgcjiocelcblaaGreat

namespace Go.Proofs.YthgcjiocelcblaaGreat
open Go.RowKit

theorem leVal_les (k v : Nat) : leVal (Crc.les k v) = v % 256 ^ k := by
  induction k generalizing v with
  | zero => simp [Crc.les, leVal, Nat.mod_one]
  | succ k ih =>
    rw [Crc.les, leVal, ih, Nat.pow_succ, Nat.mul_comm (256 ^ k) 256, Nat.mod_mul]
set_option maxHeartbeats 400000 in
theorem rU16_ok {w : World} {pr pg c : Nat} {a : Option Addr} {bs : List Nat} (h : RD w pr pg a c bs) (hn : 2 ≤ bs.length) :
    Calls Tryz.prog 116 #[.pointer (some ⟨pr, 0, none⟩)] w (NumRet w pr pg c bs 2 (.int .u16 ((leVal (bs.take 2) : Nat) : Int))) := by
  have hx : leVal (bs.take 2) < 256 ^ 2 := by
    have h1 := leVal_lt (bs.take 2) (fun y hy => h.2.1.2.1 y (List.mem_of_mem_take hy))
    rw [List.length_take, Nat.min_eq_left hn] at h1
    exact h1
  obtain ⟨m, hm⟩ : ∃ m, m = leVal (bs.take 2) := ⟨_, rfl⟩
  rw [← hm] at hx ⊢
  have H1 : Hid (leVal (bs.take 2) = m) := hm.symm
  have hx' : m < 65536 := hx
  have hmod : (m : Int) % 65536 = (m : Int) := by omega
  clear hm hx
  have HH := Lib.hid h
  clear h
  go_enter Tryz.func116, Tryz.ntmps116
  go_wp2_with fail
  refine (number_ok 2 HH.out hn (by omega)).mono ?_
  rintro e w1 ⟨a2, rfl, hw1, hrd⟩
  rw [H1.out]
  have HW := Lib.hid hw1
  clear hw1
  go_wp2
  go_ret
  exact ⟨a2, rfl, HW.out, hrd⟩
set_option maxHeartbeats 400000 in
theorem rU32_ok {w : World} {pr pg c : Nat} {a : Option Addr} {bs : List Nat} (h : RD w pr pg a c bs) (hn : 4 ≤ bs.length) :
    Calls Tryz.prog 30 #[.pointer (some ⟨pr, 0, none⟩)] w (NumRet w pr pg c bs 4 (.int .u32 ((leVal (bs.take 4) : Nat) : Int))) := by
  have hx : leVal (bs.take 4) < 256 ^ 4 := by
    have h1 := leVal_lt (bs.take 4) (fun y hy => h.2.1.2.1 y (List.mem_of_mem_take hy))
    rw [List.length_take, Nat.min_eq_left hn] at h1
    exact h1
  obtain ⟨m, hm⟩ : ∃ m, m = leVal (bs.take 4) := ⟨_, rfl⟩
  rw [← hm] at hx ⊢
  have H1 : Hid (leVal (bs.take 4) = m) := hm.symm
  have hx' : m < 4294967296 := hx
  have hmod : (m : Int) % 4294967296 = (m : Int) := by omega
  clear hm hx
  have HH := Lib.hid h
  clear h
  go_enter Tryz.func30, Tryz.ntmps30
  go_wp2_with fail
  refine (number_ok 4 HH.out hn (by omega)).mono ?_
  rintro e w1 ⟨a2, rfl, hw1, hrd⟩
  rw [H1.out]
  have HW := Lib.hid hw1
  clear hw1
  go_wp2
  go_ret
  exact ⟨a2, rfl, HW.out, hrd⟩
end Go.Proofs.YthgcjiocelcblaaGreat
