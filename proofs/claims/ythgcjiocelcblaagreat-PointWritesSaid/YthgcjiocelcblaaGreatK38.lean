/- Parts of the proof: RowsIt, PtRows. -/
import Derived.Test.YthgcjiocelcblaaGreatK32
import Derived.Test.YthgcjiocelcblaaGreatK37
namespace Go.Proofs.YthgcjiocelcblaaGreat
open Go.RowKit

/-- What its function has captured. -/
def RwMem (a b c d seg : Int) (n bm bg bs : Nat) (x : World) : Prop :=
  x.heap[bm]? = some (.cells #[.int .i64 (n : Int)] 3 (0, 0)) ∧ x.heap[bg]? = some (.cells #[.int .i64 a, .int .i64 b, .int .i64 c, .int .i64 d] 49 (0, 0)) ∧ x.heap[bs]? = some (.cells #[.int .i64 seg] 3 (0, 0))
def ThreeKept (bm bg bs : Nat) (W W' : World) : Prop := W.heap.size ≤ W'.heap.size ∧ W'.heap[bm]? = W.heap[bm]? ∧ W'.heap[bg]? = W.heap[bg]? ∧ W'.heap[bs]? = W.heap[bs]?
theorem threeKept_t {bm bg bs : Nat} {A B C : World} (h : ThreeKept bm bg bs A B) (k : ThreeKept bm bg bs B C) : ThreeKept bm bg bs A C := ⟨Nat.le_trans h.1 k.1, k.2.1.trans h.2.1, k.2.2.1.trans h.2.2.1, k.2.2.2.trans h.2.2.2⟩
theorem threeKept_b {bm bg bs : Nat} {w : World} (h1 : bm < w.heap.size) (h2 : bg < w.heap.size) (h3 : bs < w.heap.size) (W : World) (l : Nat) (o o' : Obj) (hl : w.heap.size ≤ l) (_ : W.heap[l]? = some o) (_ : o.isCells = false) (_ : o.isWalk = false) : ThreeKept bm bg bs W (W.putObj l o') :=
  ⟨by simp, World.putObj_heap_other (by omega), World.putObj_heap_other (by omega), World.putObj_heap_other (by omega)⟩
theorem threeKept_below {bm bg bs n₀ : Nat} {W W' : World} (hb : Below n₀ W W') (h1 : bm < n₀) (h2 : bg < n₀) (h3 : bs < n₀) : ThreeKept bm bg bs W W' := ⟨hb.size, hb.block _ h1, hb.block _ h2, hb.block _ h3⟩
theorem RwMem.keep {a b c d seg : Int} {n bm bg bs : Nat} {x y : World} (h : RwMem a b c d seg n bm bg bs x) (hk : ThreeKept bm bg bs x y) : RwMem a b c d seg n bm bg bs y := ⟨hk.2.1.trans h.1, hk.2.2.1.trans h.2.1, hk.2.2.2.trans h.2.2⟩
theorem RwMem.lt {a b c d seg : Int} {n bm bg bs : Nat} {x : World} (h : RwMem a b c d seg n bm bg bs x) : bm < x.heap.size ∧ bg < x.heap.size ∧ bs < x.heap.size := ⟨(Array.getElem?_eq_some_iff.1 h.1).1, (Array.getElem?_eq_some_iff.1 h.2.1).1, (Array.getElem?_eq_some_iff.1 h.2.2).1⟩
theorem RwMem.cells {a b c d seg : Int} {n bm bg bs : Nat} {x : World} (h : RwMem a b c d seg n bm bg bs x) : x.cell? ⟨bm, 0, none⟩ = some (.int .i64 (n : Int)) ∧ x.cell? ⟨bg, 0, none⟩ = some (.int .i64 a) ∧ x.cell? ⟨bg, 1, none⟩ = some (.int .i64 b) ∧ x.cell? ⟨bg, 2, none⟩ = some (.int .i64 c) ∧ x.cell? ⟨bg, 3, none⟩ = some (.int .i64 d) ∧ x.cell? ⟨bs, 0, none⟩ = some (.int .i64 seg) := by
  obtain ⟨h1, h2, h3⟩ := h
  refine ⟨?_, ?_, ?_, ?_, ?_, ?_⟩ <;> simp [World.cell?, h1, h2, h3]
def rwEnc (a c seg : Int) (n j : Nat) : Array Value := #[.int .i64 ((min j (n - 1) : Nat) : Int), .int .i64 (ParOf a c seg ((min j (n - 1) : Nat) : Int))]
set_option maxRecDepth 100000 in
set_option maxHeartbeats 2000000 in
theorem rows1_in (f : Nat) (hf1 : 1 ≤ f) (l bm bg bs n : Nat) (a b c d seg : Int) (hg : GoodG a b c d) (h0' : 0 ≤ seg) (h1' : seg ≤ 2000) (hn : n ≤ 1000) (Kp : World → World → Prop) (hKp : ∀ W W', Kp W W' → ThreeKept bm bg bs W W')
    (J Jx : List Nat → World → Prop) (W : World) (hJ : AbidesFrom W.heap.size J)
    (hY : ∀ pre x W, J pre W → pre.length < n → YieldAt Fence.wide (f - 1) Tryz.prog l (rwEnc a c seg n x) W fun e W' =>
      (e = .returned (.bool true) ∧ J (pre ++ [x]) W' ∧ Kp W W') ∨ (e = .returned (.bool false) ∧ Jx (pre ++ [x]) W'))
    (hS : RwMem a b c d seg n bm bg bs W) (h0 : J [] W) :
    CallsIn Fence.wide f Tryz.prog 78 #[.func (.yield l) #[] #[], .pointer (some ⟨bm, 0, none⟩), .pointer (some ⟨bg, 0, none⟩), .pointer (some ⟨bs, 0, none⟩)] W fun e W' => (∃ v, e = .returned v) ∧
      ((∃ ys, ys = upto (fun j => j) n ∧ J ys W') ∨ (∃ pre, (∃ k, k ≤ n ∧ pre = upto (fun j => j) k) ∧ Jx pre W')) := by
  have HP := Lib.hid fun (x : World) (k : Nat) (hk : k ≤ 1000) => parity_any a b c d seg (k : Int) x hg h0' h1' (by omega) (by omega)
  refine callsIn_of_wp Tryz.func78 rfl trivial ?_ rfl
  simp only [Tryz.ntmps78, List.size_toArray, List.length_cons, List.length_nil, Nat.reduceAdd, Nat.reduceSub, Array.replicate_succ, Array.replicate_zero, List.push_toArray, List.append_toArray, List.nil_append, List.cons_append]
  have HS := Lib.hid hS
  have HY := Lib.hid hY
  obtain ⟨q1, _⟩ := hS.cells
  clear hY hg hS
  gi_wp2
  clear q1
  gi_loopw [7] (fun i wr => ∃ k : Nat, k ≤ n ∧ i = .int .i64 k ∧ J (upto (fun j => j) k) wr ∧ Hid (W.heap.size ≤ wr.heap.size) ∧ Hid (RwMem a b c d seg n bm bg bs wr) ∧ Hid (AbidesFrom wr.heap.size J))
    (fun i _ => n - (intOf i).toNat)
  case atStart => exact ⟨0, Nat.zero_le _, rfl, h0, Lib.hid (Nat.le_refl _), HS, Lib.hid hJ⟩
  case round =>
    obtain ⟨k, hk, rfl, hJs, HZ, HSM, HA⟩ := hrel
    by_cases hlt : k < n
    · obtain ⟨_, c0, c1, c2, c3, c4⟩ := HSM.out.cells
      gi_wp2_with (refine ⟨trivial, ?_⟩; gi_at_call 73; refine (callsIn_wide.2 (HP.out _ k (by omega))).mono ?_; rintro e w3 ⟨rfl, hb⟩; have hJ3 := HA.out _ wr w3 none hJs (gb_of_below hb) (fun r e => by cases e); have HSM3 := Lib.hid (HSM.out.keep (threeKept_below hb HSM.out.lt.1 HSM.out.lt.2.1 HSM.out.lt.2.2)); have HZ3 := Lib.hid (Nat.le_trans HZ.out hb.size); have HA3 := Lib.hid (abides_mono HA.out hb.size); obtain ⟨fn, tmps, assign, body, hy, hR⟩ := HY.out _ k w3 hJ3 (by rw [upto_length]; exact hlt); unfold rwEnc at hy; rw [show min k (n - 1) = k by omega] at hy; clear c0 c1 c2 c3 c4 hb)
      refine hR.mono ?_
      rintro e W4 (⟨rfl, hJ4, hk4⟩ | ⟨rfl, hJx4⟩)
      · have hk5 := hKp _ _ hk4
        have HSM4 := Lib.hid (HSM3.out.keep hk5)
        have HA4 := Lib.hid (abides_mono HA3.out hk5.1)
        have HZ4 := Lib.hid (Nat.le_trans HZ3.out hk5.1)
        clear hk4 hk5
        gi_wp2
        go_roundw
        case rel => exact ⟨k + 1, by omega, by simp, by rw [upto_succ]; exact hJ4, HZ4, HSM4, HA4⟩
        case measure => simp [intOf]; omega
      · gi_wp2
        refine bodyPost_ret (results_none rfl _ _ _) rfl ?_
        exact ⟨⟨_, rfl⟩, .inr ⟨_, ⟨k + 1, by omega, (upto_succ _ _).symm⟩, hJx4⟩⟩
    · obtain rfl : k = n := by omega
      gi_wp2
      go_end0
      exact ⟨⟨_, rfl⟩, .inl ⟨_, rfl, hJs⟩⟩
theorem rows_stops (f : Nat) (hf1 : 1 ≤ f) (bm bg bs n : Nat) (a b c d seg : Int) (hg : GoodG a b c d) (h0 : 0 ≤ seg) (h1 : seg ≤ 2000) (hn : n ≤ 1000) (w : World) (hS : RwMem a b c d seg n bm bg bs w) :
    SeqStopsK Fence.wide f Tryz.prog 78 #[.pointer (some ⟨bm, 0, none⟩), .pointer (some ⟨bg, 0, none⟩), .pointer (some ⟨bs, 0, none⟩)] (rwEnc a c seg n) (ThreeKept bm bg bs)
      (fun ys => ys = upto (fun j => j) n) (fun pre => ∃ k, k ≤ n ∧ pre = upto (fun j => j) k) n w := fun l J Jx W hW hJ _ hY h =>
  rows1_in f hf1 l bm bg bs n a b c d seg hg h0 h1 hn (ThreeKept bm bg bs) (fun _ _ h => h) J Jx W hJ hY (hS.keep (threeKept_below hW hS.lt.1 hS.lt.2.1 hS.lt.2.2)) h
end Go.Proofs.YthgcjiocelcblaaGreat

namespace Go.Proofs.YthgcjiocelcblaaGreat
open Go.RowKit Go.Deep

/-- geom.Rows hands its function back. -/
def RowsRet (a b c d seg : Int) (n : Nat) (w : World) (e : Ending) (w' : World) : Prop :=
  ∃ bm bg bs, e = .returned (.func (.func 78) #[] #[.pointer (some ⟨bm, 0, none⟩), .pointer (some ⟨bg, 0, none⟩), .pointer (some ⟨bs, 0, none⟩)]) ∧ RwMem a b c d seg n bm bg bs w' ∧ w.heap.size ≤ bm ∧ w.heap.size ≤ bg ∧ w.heap.size ≤ bs ∧ Below w.heap.size w w'
set_option maxRecDepth 100000 in
theorem geomRows_any (a b d seg : Int) (n : Nat) (w : World) (hn : n ≤ 32) :
    Calls Tryz.prog 61 #[.agg #[.int .i64 a, .int .i64 b, .int .i64 (n : Int), .int .i64 d], .int .i64 seg] w (RowsRet a b (n : Int) d seg n w) := by
  have h1 := heap_alloc_new w (.cells #[.int .i64 a, .int .i64 b, .int .i64 (n : Int), .int .i64 d] 49)
  have h2 := heap_alloc_new (w.alloc (.cells #[.int .i64 a, .int .i64 b, .int .i64 (n : Int), .int .i64 d] 49)) (.cells #[.int .i64 seg] 3)
  obtain ⟨w2, hw2⟩ : ∃ x, x = (w.alloc (.cells #[.int .i64 a, .int .i64 b, .int .i64 (n : Int), .int .i64 d] 49)).alloc (.cells #[.int .i64 seg] 3) := ⟨_, rfl⟩
  have g1 : w2.heap[w.heap.size]? = some (.cells #[.int .i64 a, .int .i64 b, .int .i64 (n : Int), .int .i64 d] 49 (0, 0)) := by rw [hw2]; exact (heap_alloc_old' (by simp) _).trans h1
  have g2 : w2.heap[w.heap.size + 1]? = some (.cells #[.int .i64 seg] 3 (0, 0)) := by rw [hw2]; simpa using h2
  have hb : Below w.heap.size w w2 := by rw [hw2]; exact bel_alloc (bel_alloc (Below.refl _ _) _) _
  have hz : w2.heap.size = w.heap.size + 2 := by rw [hw2]; simp
  have HF := Lib.hid (And.intro g1 (And.intro g2 (And.intro hb hz)))
  obtain ⟨c0, c1, c2, c3⟩ := four_at g1
  clear h1 h2 g1 g2 hb hz
  go_enter Tryz.func61, Tryz.ntmps61
  go_upto_region 1 with fail
  rw [← hw2]
  clear hw2
  go_wp2
  go_ret
  obtain ⟨g1, g2, hb, hz⟩ := HF.out
  rw [show min (n : Int) 32 = (n : Int) by omega]
  refine ⟨_, _, _, rfl, ⟨heap_alloc_new _ _, (heap_alloc_old' (by omega) _).trans g1, (heap_alloc_old' (by omega) _).trans g2⟩, by omega, Nat.le_refl _, by omega, bel_alloc hb _⟩
end Go.Proofs.YthgcjiocelcblaaGreat
