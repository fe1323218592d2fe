/- The reader in memory; cursor.Read where the function comes back. -/
import Derived.Test.YtallambldbhibaaReadDone
import Derived.Defers
import Derived.Recover
import Derived.RegionCalls
import Derived.Deep.RegionHeld3
import Derived.Laws.Pointers
namespace Go.Proofs.Ytallambldbhibaa
open Go.RowKit

/-- Behind the clone: all is below the reader's own block. -/
theorem read_bel {w w0 w1 : World} (hb0 : Hid (Below w.heap.size w w0)) (hs0 : Hid (w0.heap.size = w.heap.size + 3)) (hb1 : Below w0.drew.heap.size w0.drew w1) : ∀ o, Below w.heap.size w (w1.alloc o) ∧ w.heap.size + 3 ≤ w1.heap.size := fun o => by
  have h1 : Below w.heap.size w w1 := (hb0.out.drew).trans (hb1.mono (by have := hs0.out; show w.heap.size ≤ w0.heap.size; omega))
  exact ⟨bel_alloc h1 o, by have := hs0.out; have : w0.heap.size ≤ w1.heap.size := hb1.size; omega⟩
theorem eql_func_nil (fn : Fn) (capt : Array Value) (w : World) : (binOp .eql 220 (.func fn #[] capt) .nilFunc).run Try.prog w = .ok (.bool false) w := by
  have h : ∀ d : Nat, (Op.equalIn (d + 1) 220 (.func fn #[] capt) .nilFunc).run Try.prog w = .ok false w := fun d => by
    simp [Op.equalIn, run_underlying Try.underlying220]
  simp only [binOp]
  simp [Op.equal, Op.maxDepth, h 9999]
theorem frame3 (w : World) : Below w.heap.size w (((w.alloc (Obj.cells #[.int .i64 0] 44)).alloc (Obj.cells #[.bool false, .bool false] 239)).alloc (Obj.cells #[.pointer (some ⟨w.heap.size + 1, 0, none⟩)] 237)) ∧
    (((w.alloc (Obj.cells #[.int .i64 0] 44)).alloc (Obj.cells #[.bool false, .bool false] 239)).alloc (Obj.cells #[.pointer (some ⟨w.heap.size + 1, 0, none⟩)] 237)).heap.size = w.heap.size + 3 ∧
    (((w.alloc (Obj.cells #[.int .i64 0] 44)).alloc (Obj.cells #[.bool false, .bool false] 239)).alloc (Obj.cells #[.pointer (some ⟨w.heap.size + 1, 0, none⟩)] 237)).heap[w.heap.size]? = some (.cells #[.int .i64 0] 44 (0, 0)) ∧
    (((w.alloc (Obj.cells #[.int .i64 0] 44)).alloc (Obj.cells #[.bool false, .bool false] 239)).alloc (Obj.cells #[.pointer (some ⟨w.heap.size + 1, 0, none⟩)] 237)).heap[w.heap.size + 1]? = some (.cells #[.bool false, .bool false] 239 (0, 0)) ∧
    (((w.alloc (Obj.cells #[.int .i64 0] 44)).alloc (Obj.cells #[.bool false, .bool false] 239)).alloc (Obj.cells #[.pointer (some ⟨w.heap.size + 1, 0, none⟩)] 237)).heap[w.heap.size + 2]? = some (.cells #[.pointer (some ⟨w.heap.size + 1, 0, none⟩)] 237 (0, 0)) := by
  refine ⟨bel_alloc (bel_alloc (bel_alloc (Below.refl _ w) _) _) _, by simp, ?_, ?_, ?_⟩
  · show ((((w.heap.push _).push _).push _))[w.heap.size]? = _
    simp only [Array.getElem?_push, Array.size_push]
    rw [if_neg (by omega), if_neg (by omega), if_pos trivial]
  · show ((((w.heap.push _).push _).push _))[w.heap.size + 1]? = _
    simp only [Array.getElem?_push, Array.size_push]
    rw [if_neg (by omega), if_pos trivial]
  · show ((((w.heap.push _).push _).push _))[w.heap.size + 2]? = _
    simp only [Array.getElem?_push, Array.size_push]
    rw [if_pos trivial]
theorem cell_bel {w w' : World} {b off : Nat} {v : Value} (hb : Below w.heap.size w w') (h : w.cell? ⟨b, off, none⟩ = some v) : w'.cell? ⟨b, off, none⟩ = some v := by
  rw [hb.cell (p := ⟨b, off, none⟩) (World.block_lt_of_cell? w ⟨b, off, none⟩ h)]; exact h
theorem cell_of_heap1 {w : World} {b : Nat} {v : Value} {t : TypeId} {fr : Nat × Nat} (h : w.heap[b]? = some (.cells #[v] t fr)) : w.cell? ⟨b, 0, none⟩ = some v := by simp [World.cell?, h]
/-- A reader: what is left, and its reading. -/
def RD (w : World) (pr pg : Nat) (a : Option Addr) (c : Nat) (bs : List Nat) : Prop :=
  w.heap[pr]? = some (.cells #[.slice a bs.length c, .pointer (some ⟨pg, 0, none⟩)] 245 (0, 0)) ∧ Row w a bs.length bs ∧ (a = none → c = 0) ∧ bs.length ≤ c ∧ c ≤ maxLen ∧ ∀ x, a = some x → x.block ≠ pr
/-- Between the blocks of the caller and its own new ones a reader's function changes the reader alone. -/
def Inner (B : Nat) (w : World) (pr : Nat) (w' : World) : Prop := w.heap.size ≤ w'.heap.size ∧ ∀ k, B ≤ k → k < w.heap.size → k ≠ pr → w'.heap[k]? = w.heap[k]?
/-- What is asked of the function that Read calls. -/
def ByOk (F : Nat) (capt : Array Value) (bs : List Nat) (w : World) (Q : World → Prop) : Prop :=
  ∀ (W : World) (pr pg : Nat) (a : Option Addr) (c : Nat), RD W pr pg a c bs → Below w.heap.size w W → w.heap.size + 3 ≤ pr →
    Calls Try.prog F (#[.pointer (some ⟨pr, 0, none⟩)] ++ capt) W fun e W' => e = .returned (.tuple #[]) ∧ Inner w.heap.size W pr W' ∧ Q W'
/-- The function's own three blocks. -/
def At3 (w w' : World) : Prop := w'.heap[w.heap.size]? = some (.cells #[.int .i64 0] 44 (0, 0)) ∧ w'.heap[w.heap.size + 1]? = some (.cells #[.bool false, .bool false] 239 (0, 0)) ∧ w'.heap[w.heap.size + 2]? = some (.cells #[.pointer (some ⟨w.heap.size + 1, 0, none⟩)] 237 (0, 0)) ∧ w.heap.size + 3 ≤ w'.heap.size
theorem read_heap {w w0 w1 : World} (hs0 : Hid (w0.heap.size = w.heap.size + 3)) (hE : Hid (w0.heap[w.heap.size]? = some (.cells #[.int .i64 0] 44 (0, 0)))) (hG : Hid (w0.heap[w.heap.size + 1]? = some (.cells #[.bool false, .bool false] 239 (0, 0)))) (hH : Hid (w0.heap[w.heap.size + 2]? = some (.cells #[.pointer (some ⟨w.heap.size + 1, 0, none⟩)] 237 (0, 0)))) (hb1 : Below w0.drew.heap.size w0.drew w1) : At3 w w1 := by
  have hs := hs0.out
  have hb : ∀ k, k < w0.heap.size → w1.heap[k]? = w0.heap[k]? := fun k hk => hb1.block k hk
  have hz : w0.heap.size ≤ w1.heap.size := hb1.size
  refine ⟨?_, ?_, ?_, by omega⟩
  · rw [hb _ (by omega)]; exact hE.out
  · rw [hb _ (by omega)]; exact hG.out
  · rw [hb _ (by omega)]; exact hH.out
theorem read_after {w w1 w4 : World} {o : Obj} (hIn : Inner w.heap.size (w1.alloc o) w1.heap.size w4) (h : At3 w w1) : At3 w w4 := by
  obtain ⟨hE, hG, hH, hs⟩ := h
  have hz : (w1.alloc o).heap.size = w1.heap.size + 1 := by simp
  have hk : ∀ k, w.heap.size ≤ k → k < w1.heap.size → w4.heap[k]? = w1.heap[k]? := fun k h1 h2 => by
    rw [hIn.2 k h1 (by omega) (by omega), Below.heap_alloc _ _ _ h2]
  have := hIn.1
  refine ⟨?_, ?_, ?_, by omega⟩
  · rw [hk _ (by omega) (by omega)]; exact hE
  · rw [hk _ (by omega) (by omega)]; exact hG
  · rw [hk _ (by omega) (by omega)]; exact hH
theorem At3.cell {w w' : World} (h : At3 w w') : w'.cell? ⟨w.heap.size + 2, 0, none⟩ = some (.pointer (some ⟨w.heap.size + 1, 0, none⟩)) := cell_of_heap1 h.2.2.1
theorem At3.facts {w w' : World} (h : At3 w w') : w'.cell? ⟨w.heap.size + 1, 0, none⟩ = some (.bool false) ∧ w'.cell? ⟨w.heap.size + 1, 1, none⟩ = some (.bool false) ∧ w'.frozen? ⟨w.heap.size + 1, 1, none⟩ = false ∧ w'.cell? ⟨w.heap.size, 0, none⟩ = some (.int .i64 0) ∧ w'.frozen? ⟨w.heap.size, 0, none⟩ = false := by
  obtain ⟨hE, hG, _, _⟩ := h
  refine ⟨?_, ?_, ?_, ?_, ?_⟩ <;> simp [World.cell?, World.frozen?, hE, hG]
theorem read_out {w w4 : World} (h : At3 w w4) : (w4.setCell ⟨w.heap.size, 0, none⟩ (.int .i64 0)).cell? ⟨w.heap.size + 2, 0, none⟩ = some (.pointer (some ⟨w.heap.size + 1, 0, none⟩)) ∧
    (w4.setCell ⟨w.heap.size, 0, none⟩ (.int .i64 0)).cell? ⟨w.heap.size + 1, 1, none⟩ = some (.bool false) ∧
    (w4.setCell ⟨w.heap.size, 0, none⟩ (.int .i64 0)).frozen? ⟨w.heap.size + 1, 1, none⟩ = false ∧
    (∀ o, (((w4.setCell ⟨w.heap.size, 0, none⟩ (.int .i64 0)).setCell ⟨w.heap.size + 1, 1, none⟩ (.bool true)).alloc o).cell? ⟨w.heap.size, 0, none⟩ = some (.int .i64 0)) ∧
    (∀ o, Below w.heap.size w4 (((w4.setCell ⟨w.heap.size, 0, none⟩ (.int .i64 0)).setCell ⟨w.heap.size + 1, 1, none⟩ (.bool true)).alloc o)) ∧
    (∀ o k, w.heap.size + 3 ≤ k → k < w4.heap.size → (((w4.setCell ⟨w.heap.size, 0, none⟩ (.int .i64 0)).setCell ⟨w.heap.size + 1, 1, none⟩ (.bool true)).alloc o).heap[k]? = w4.heap[k]?) := by
  obtain ⟨hG0, hG1, hG2, hE0, hE1⟩ := At3.facts h
  have hS := At3.cell h
  have hz := h.2.2.2
  have e1 : ∀ k, k ≠ w.heap.size → (w4.setCell ⟨w.heap.size, 0, none⟩ (.int .i64 0)).heap[k]? = w4.heap[k]? := fun k hk => Below.heap_setCell _ _ _ _ hk
  refine ⟨?_, ?_, ?_, fun o => ?_, fun o => ?_, fun o k hk1 hk2 => ?_⟩
  · rw [World.cell?_of_block (w := w4) (e1 _ (by show _ ≠ _; simp))]; exact hS
  · rw [World.cell?_of_block (w := w4) (e1 _ (by show _ ≠ _; simp))]; exact hG1
  · rw [World.frozen?_of_block (w := w4) (e1 _ (by show _ ≠ _; simp))]; exact hG2
  · have e2 : (((w4.setCell ⟨w.heap.size, 0, none⟩ (.int .i64 0)).setCell ⟨w.heap.size + 1, 1, none⟩ (.bool true)).alloc o).heap[w.heap.size]? = (w4.setCell ⟨w.heap.size, 0, none⟩ (.int .i64 0)).heap[w.heap.size]? := by
      rw [Below.heap_alloc _ _ _ (by simp [World.setCell]; omega), Below.heap_setCell _ _ _ _ (by show w.heap.size ≠ w.heap.size + 1; omega)]
    rw [World.cell?_of_block (w := w4.setCell ⟨w.heap.size, 0, none⟩ (.int .i64 0)) (a := ⟨w.heap.size, 0, none⟩) e2]
    simp [go_sem, hE0]
  · have b1 : Below w.heap.size w4 (w4.setCell ⟨w.heap.size, 0, none⟩ (.int .i64 0)) := (Below.refl w.heap.size w4).setCell (p := ⟨w.heap.size, 0, none⟩) (Nat.le_refl _) _
    have b2 := b1.setCell (p := ⟨w.heap.size + 1, 1, none⟩) (Nat.le_succ _) (.bool true)
    exact b2.alloc (Nat.le_trans (by omega) b2.size) o
  · rw [Below.heap_alloc _ _ _ (by simp [World.setCell]; omega), Below.heap_setCell _ _ _ _ (by show k ≠ w.heap.size + 1; omega), Below.heap_setCell _ _ _ _ (by show k ≠ w.heap.size; omega)]
theorem rd_new {w1 : World} {a1 : Option Addr} {c1 pg : Nat} {bs : List Nat} {B : Nat} (hr : Row w1 a1 bs.length bs) (hn : a1 = none → c1 = 0) (ho : Own B w1 (.slice a1 bs.length c1) bs) :
    RD (w1.alloc (.cells #[.slice a1 bs.length c1, .pointer (some ⟨pg, 0, none⟩)] 245)) w1.heap.size pg a1 c1 bs := by
  have hc : bs.length ≤ c1 ∧ c1 ≤ maxLen := by
    rcases ho.1.2 with ⟨e, _⟩ | ⟨g, cap, cur, e, _, _, h1, h2, _⟩
    · simp only [Value.slice.injEq] at e
      obtain ⟨_, h1, h2⟩ := e
      omega
    · simp only [Value.slice.injEq] at e
      obtain ⟨_, _, rfl⟩ := e
      exact ⟨h1, h2⟩
  refine ⟨heap_alloc_new w1 _, row_alloc hr _, hn, hc.1, hc.2, fun x hx => ?_⟩
  have := own_base ho x.block (by rw [hx]; rfl)
  omega
theorem by_calls {F : Nat} {capt : Array Value} {bs : List Nat} {w W : World} {Q : World → Prop} {pr pg c : Nat} {a : Option Addr} (h : Hid (ByOk F capt bs w Q)) (hr : RD W pr pg a c bs) (hb : Below w.heap.size w W ∧ w.heap.size + 3 ≤ pr) :
    Calls Try.prog F (#[.pointer (some ⟨pr, 0, none⟩)] ++ capt) W fun e W' => e = .returned (.tuple #[]) ∧ Inner w.heap.size W pr W' ∧ Q W' := h.out W pr pg a c hr hb.1 hb.2
set_option maxRecDepth 100000 in
set_option maxHeartbeats 800000 in
theorem read_ok (a : Option Addr) (len cap : Nat) (bs : List Nat) (F : Nat) (capt : Array Value) (w : World) (Q : World → Prop) (hr : Row w a len bs) (hn : a = none → cap = 0) (hl : len ≤ 100000)
    (hcall : ∀ (args : Array Value) (wx : World), (callFunc F args).run Try.prog wx = .ok (.enter F args) wx) (hby : ByOk F capt bs w Q) :
    Calls Try.prog 127 #[.slice a len cap, .func (Fn.func F) #[] capt] w fun e w' => e = .returned (.int .i64 0) ∧ ∃ w2, Q w2 ∧ Below w.heap.size w2 w' ∧ ∀ k, w.heap.size + 3 ≤ k → k < w2.heap.size → w'.heap[k]? = w2.heap[k]? := by
  have hmf : ∀ (fn : Fn) (first cap : Array Value) (w : World), (Instr.makeFunc fn first cap).run Try.prog w = .ok (.func fn first cap) w := fun _ _ _ _ => rfl
  have heq := eql_func_nil (Fn.func F) capt
  go_enter_defers Try.func127, Try.ntmps127
  go_wp2_with fail
  have e2 : w.heap.size + 1 + 1 = w.heap.size + 2 := rfl
  rw [e2]
  obtain ⟨w0, hw0⟩ : ∃ w0, w0 = (((w.alloc (Obj.cells #[.int .i64 0] 44)).alloc (Obj.cells #[.bool false, .bool false] 239)).alloc (Obj.cells #[.pointer (some ⟨w.heap.size + 1, 0, none⟩)] 237)) := ⟨_, rfl⟩
  have hf0 := frame3 w
  rw [← hw0] at hf0 ⊢
  obtain ⟨hb0, hs0, hE, hG, hH⟩ := hf0
  clear hw0 e2
  have h5 := cell_of_heap1 hH
  have hr0 := row_keep hr hb0 (Nat.le_refl _)
  have hl8 : len ≤ 100000000 := by omega
  have HE := Lib.hid hE
  have HG := Lib.hid hG
  have HH := Lib.hid hH
  have HBY := Lib.hid hby
  have HB0 := Lib.hid hb0
  have HS0 := Lib.hid hs0
  clear hE hG hH hby hb0 hs0
  go_region_held3 (fun w' => w'.cell? ⟨w.heap.size + 2, 0, none⟩ = some (.pointer (some ⟨w.heap.size + 1, 0, none⟩))) (first | exact hS | go_keep)
    (first
      | (go_at_call 115; ((with_reducible refine (clone_any a len cap bs _ ?_ hn hl8).mono ?_)); (· exact hr0); (intro e w1 h1; obtain ⟨a1, c1, rfl, hr1, hn1, ho1, hb1⟩ := retOwn_len h1; have hS := cell_bel (w := w0.drew) hb1 h5; have hRD := rd_new (pg := w.heap.size + 1) hr1 hn1 ho1; have hBB := read_bel HB0 HS0 hb1; have hHH := read_heap HS0 HE HG HH hb1; have hFC := by_calls HBY hRD (hBB _)))
      | (guard_target =~ Calls _ F _ _ _; with_reducible refine hFC.mono ?_; (rintro e w4 ⟨rfl, hIn, hQ⟩; have hA := read_after hIn hHH; have hS := At3.cell hA)))
  obtain ⟨hG0, hG1, hG2, hE0, hE1⟩ := At3.facts hA
  simp only [Exit.then]
  go_wp2_with fail
  obtain ⟨hO1, hO2, hO3, hO4, hO5, hO6⟩ := read_out hA
  refine leaves_cons (f := 145) (args := #[.pointer (some ⟨w.heap.size + 2, 0, none⟩), .pointer (some ⟨w.heap.size, 0, none⟩)]) (by simp) (by simp [go_sem]) ?_
  refine (readDone_idle w.heap.size _ hO1 hO2 hO3).mono ?_
  rintro e u' w'' ⟨rfl, rfl, o, rfl⟩
  refine ⟨.int .i64 0, ?_, rfl, w4, hQ, hO5 o, hO6 o⟩
  simp [results, Try.results127, go_sem, hO4 o]

end Go.Proofs.Ytallambldbhibaa
