/- slices.Chunk of bytes and of pages of data: what the function gives, one part behind the other. -/
import Derived.Test.YthgcjiocelcblaaGreatK12
namespace Go.Proofs.YthgcjiocelcblaaGreat
open Go.RowKit

/-- How many cells of the j-th part: of n in parts of sz. -/
def ckN (n sz j : Nat) : Nat := min sz (n - j * sz)
/-- Two boxes lie as they lay. -/
def TwoKept (bs bn : Nat) (W W' : World) : Prop := W.heap.size ≤ W'.heap.size ∧ W'.heap[bs]? = W.heap[bs]? ∧ W'.heap[bn]? = W.heap[bn]?
theorem twoKept_t {bs bn : Nat} {A B C : World} (h : TwoKept bs bn A B) (k : TwoKept bs bn B C) : TwoKept bs bn A C := ⟨Nat.le_trans h.1 k.1, k.2.1.trans h.2.1, k.2.2.trans h.2.2⟩
theorem twoKept_b {bs bn : Nat} {w : World} (h1 : bs < w.heap.size) (h2 : bn < w.heap.size) (W : World) (l : Nat) (o o' : Obj) (hl : w.heap.size ≤ l) (_ : W.heap[l]? = some o) (_ : o.isCells = false) (_ : o.isWalk = false) : TwoKept bs bn W (W.putObj l o') :=
  ⟨by simp, World.putObj_heap_other (by omega), World.putObj_heap_other (by omega)⟩
theorem twoKept_below {bs bn n₀ : Nat} {W W' : World} (hb : Below n₀ W W') (h1 : bs < n₀) (h2 : bn < n₀) : TwoKept bs bn W W' := ⟨hb.size, hb.block _ h1, hb.block _ h2⟩
def CkMem (sv : Value) (sz bs bn : Nat) (x : World) : Prop := x.heap[bs]? = some (.cells #[sv] 28 (0, 0)) ∧ x.heap[bn]? = some (.cells #[.int .i64 (sz : Int)] 3 (0, 0))
def CkMemP (sv : Value) (sz bs bn : Nat) (x : World) : Prop := x.heap[bs]? = some (.cells #[sv] 84 (0, 0)) ∧ x.heap[bn]? = some (.cells #[.int .i64 (sz : Int)] 3 (0, 0))
end Go.Proofs.YthgcjiocelcblaaGreat

namespace Go.Proofs.YthgcjiocelcblaaGreat
open Go.RowKit
/-- What the j-th round is given. -/
def ckBEnc (g off n sz m j : Nat) : Array Value := #[.slice (some ⟨g, off + (min j (m - 1)) * sz, none⟩) (ckN n sz (min j (m - 1))) (ckN n sz (min j (m - 1)))]
theorem ckB_keep {sv : Value} {sz bs bn : Nat} {x y : World} (h : CkMem sv sz bs bn x) (hk : TwoKept bs bn x y) : CkMem sv sz bs bn y := ⟨hk.2.1.trans h.1, hk.2.2.trans h.2⟩
theorem ckB_lt {sv : Value} {sz bs bn : Nat} {x : World} (h : CkMem sv sz bs bn x) : bs < x.heap.size ∧ bn < x.heap.size := ⟨(Array.getElem?_eq_some_iff.1 h.1).1, (Array.getElem?_eq_some_iff.1 h.2).1⟩
theorem ckB_cells {sv : Value} {sz bs bn : Nat} {x : World} (h : CkMem sv sz bs bn x) : x.cell? ⟨bs, 0, none⟩ = some sv ∧ x.cell? ⟨bn, 0, none⟩ = some (.int .i64 (sz : Int)) := by
  obtain ⟨h1, h2⟩ := h
  constructor <;> simp [World.cell?, h1, h2]
set_option maxRecDepth 100000 in
set_option maxHeartbeats 2000000 in
theorem ckB1_in (d : Nat) (hd1 : 1 ≤ d) (l g off n c sz m bs bn : Nat) (hn : n ≤ 100000) (hnc : n ≤ c) (hsz : 0 < sz) (hsz2 : sz ≤ 100000) (hm : ∀ k, k < m ↔ k * sz < n) (Kp : World → World → Prop) (hKp : ∀ W W', Kp W W' → TwoKept bs bn W W')
    (J Jx : List Nat → World → Prop) (W : World) (hJ : AbidesFrom W.heap.size J)
    (hY : ∀ pre x W, J pre W → pre.length < m → YieldAt Fence.wide (d - 1) Tryz.prog l (ckBEnc g off n sz m x) W fun e W' =>
      (e = .returned (.bool true) ∧ J (pre ++ [x]) W' ∧ Kp W W') ∨ (e = .returned (.bool false) ∧ Jx (pre ++ [x]) W'))
    (hS : CkMem (.slice (some ⟨g, off, none⟩) n c) sz bs bn W) (h0 : J [] W) :
    CallsIn Fence.wide d Tryz.prog 66 #[.func (.yield l) #[] #[], .pointer (some ⟨bs, 0, none⟩), .pointer (some ⟨bn, 0, none⟩)] W fun e W' => (∃ v, e = .returned v) ∧
      ((∃ ys, ys = upto (fun j => j) m ∧ J ys W') ∨ (∃ pre, (∃ k, k ≤ m ∧ pre = upto (fun j => j) k) ∧ Jx pre W')) := by
  refine callsIn_of_wp Tryz.func66 rfl trivial ?_ rfl
  simp only [Tryz.ntmps66, List.size_toArray, List.length_cons, List.length_nil, Nat.reduceAdd, Nat.reduceSub, Array.replicate_succ, Array.replicate_zero, List.push_toArray, List.append_toArray, List.nil_append, List.cons_append]
  have HS := Lib.hid hS
  have HM := Lib.hid hm
  have HY := Lib.hid hY
  clear hm hY
  gi_wp2
  gi_loopw [4] (fun i wr => ∃ k q : Nat, Hid (q = k * sz) ∧ Hid (k ≤ m) ∧ i = .int .i64 q ∧ J (upto (fun j => j) k) wr ∧ Hid (W.heap.size ≤ wr.heap.size) ∧ Hid (CkMem (.slice (some ⟨g, off, none⟩) n c) sz bs bn wr) ∧ Hid (AbidesFrom wr.heap.size J) ∧ q ≤ n + sz)
    (fun i _ => n + sz - (intOf i).toNat)
  case atStart => exact ⟨0, 0, Lib.hid (by simp), Lib.hid (Nat.zero_le _), rfl, h0, Lib.hid (Nat.le_refl _), HS, Lib.hid hJ, by omega⟩
  case round =>
    obtain ⟨k, q, HQ, HK, rfl, hJs, HZ, HSM, HA, hqb⟩ := hrel
    obtain ⟨c0, c1⟩ := ckB_cells HSM.out
    by_cases hlt : q < n
    · have hkm : k < m := (HM.out k).2 (by rw [← HQ.out]; exact hlt)
      have hmin : min k (m - 1) = k := by omega
      obtain ⟨cn, hcn⟩ : ∃ cn, cn = ckN n sz k := ⟨_, rfl⟩
      have hcq : cn = min sz (n - q) := by rw [hcn, HQ.out]; rfl
      have hc0 : 0 < cn := by omega
      have hc1 : q + cn ≤ n := by omega
      obtain ⟨e, he⟩ : ∃ e, e = q + cn := ⟨_, rfl⟩
      have HCI : Hid ((if n - q < sz then ((n - q : Nat) : Int) else (sz : Int)) = (cn : Int)) := Lib.hid (by
        rw [hcq]; split <;> omega)
      have HW1 : Hid (wrap64 ((q : Int) + (cn : Int)) = (e : Int)) := Lib.hid (by rw [IntWalk.wrap64_in _ (by omega), he]; omega)
      have HE : Hid (e - q = cn) := Lib.hid (by omega)
      have HE0 : Hid (¬ e - q = 0 ∧ ¬ e = q) := Lib.hid (by omega)
      have HCN := Lib.hid (And.intro hcn (And.intro hmin (And.intro hkm he)))
      have e1 : q ≤ e := by omega
      have e2 : e ≤ n := by omega
      have e3 : e ≤ c := by omega
      have HJ := Lib.hid hJs
      clear hcn hcq hmin hkm he hJs hJ h0 hc0 hc1
      gi_wp2
      gi_quiet (fail)
      rw [HCI.out]
      have hb2 : Below wr.heap.size wr (wr.drewN nq) := bel_dn (Below.refl _ _) nq
      obtain ⟨wq, hwq⟩ : ∃ x, x = wr.drewN nq := ⟨_, rfl⟩
      rw [← hwq] at hb2 ⊢
      clear c0 c1 hwq
      have HSQ := Lib.hid (ckB_keep HSM.out ⟨hb2.size, hb2.block _ (ckB_lt HSM.out).1, hb2.block _ (ckB_lt HSM.out).2⟩)
      have hJq := HA.out _ wr wq none HJ.out (gb_of_below hb2) (fun r e => by cases e)
      have HZ2 := Lib.hid hb2.size
      obtain ⟨c0, c1⟩ := ckB_cells HSQ.out
      obtain ⟨fn, tmps, assign, body, hy, hR⟩ := HY.out _ k wq hJq (by rw [upto_length]; exact HCN.out.2.2.1)
      have hy' : (Instr.yield l #[.slice (some ⟨g, off + q, none⟩) (e - q) (e - q)]).run Tryz.prog wq = .ok (.round l fn tmps assign body) wq := by
        rw [HE.out, HCN.out.1, HQ.out, ← hy]
        unfold ckBEnc
        rw [HCN.out.2.1]
      have hw1 := HW1.out
      have e4 : (e - q = 0) = False := eq_false HE0.out.1
      have e5 : (e = q) = False := eq_false HE0.out.2
      have e6 : decide (e - q = 0) = false := by simpa using HE0.out.1
      have e7 : q < e := by have := HE0.out.1; omega
      clear hy hJq hb2
      gi_wp2
      refine hR.mono ?_
      rintro e' W4 (⟨rfl, hJ4, hk4⟩ | ⟨rfl, hJx4⟩)
      · have hk5 := hKp _ _ hk4
        have HSM4 := Lib.hid (ckB_keep HSQ.out hk5)
        have HA4 := Lib.hid (abides_mono HA.out (Nat.le_trans HZ2.out hk5.1))
        obtain ⟨d0, d1⟩ := ckB_cells HSM4.out
        have HK4 := Lib.hid hk5.1
        have HJ4 := Lib.hid hJ4
        have hw2 : wrap64 ((q : Int) + (sz : Int)) = ((q + sz : Nat) : Int) := by rw [IntWalk.wrap64_in _ (by omega)]; omega
        clear hk4 hk5 hJ4 hw1 c0 c1 e4 e5 e6 e7
        gi_wp2
        go_roundw
        case rel => exact ⟨k + 1, q + sz, Lib.hid (by rw [HQ.out, Nat.succ_mul]), Lib.hid HCN.out.2.2.1, by go_num, by rw [upto_succ]; exact HJ4.out, Lib.hid (Nat.le_trans HZ.out (Nat.le_trans HZ2.out HK4.out)), HSM4, HA4, by omega⟩
        case measure => simp [intOf]; omega
      · gi_wp2
        refine bodyPost_ret (results_none rfl _ _ _) rfl ?_
        exact ⟨⟨_, rfl⟩, .inr ⟨_, ⟨k + 1, HCN.out.2.2.1, (upto_succ _ _).symm⟩, hJx4⟩⟩
    · have hkm : ¬ k < m := fun h => hlt (by rw [HQ.out]; exact (HM.out k).1 h)
      obtain rfl : k = m := by have := HK.out; omega
      gi_wp2
      go_end0
      exact ⟨⟨_, rfl⟩, .inl ⟨_, rfl, hJs⟩⟩
theorem ckB_stops (d : Nat) (hd1 : 1 ≤ d) (g off n c sz m bs bn : Nat) (hn : n ≤ 100000) (hnc : n ≤ c) (hsz : 0 < sz) (hsz2 : sz ≤ 100000) (hm : ∀ k, k < m ↔ k * sz < n) (w : World) (hS : CkMem (.slice (some ⟨g, off, none⟩) n c) sz bs bn w) :
    SeqStopsK Fence.wide d Tryz.prog 66 #[.pointer (some ⟨bs, 0, none⟩), .pointer (some ⟨bn, 0, none⟩)] (ckBEnc g off n sz m) (TwoKept bs bn)
      (fun ys => ys = upto (fun j => j) m) (fun pre => ∃ k, k ≤ m ∧ pre = upto (fun j => j) k) m w := fun l J Jx W hW hJ _ hY h0 =>
  ckB1_in d hd1 l g off n c sz m bs bn hn hnc hsz hsz2 hm (TwoKept bs bn) (fun _ _ h => h) J Jx W hJ hY (ckB_keep hS (twoKept_below hW (ckB_lt hS).1 (ckB_lt hS).2)) h0
end Go.Proofs.YthgcjiocelcblaaGreat

namespace Go.Proofs.YthgcjiocelcblaaGreat
open Go.RowKit
/-- What the j-th round is given. -/
def ckPEnc (g off n sz m j : Nat) : Array Value := #[.slice (some ⟨g, off + (min j (m - 1)) * sz * 8, none⟩) (ckN n sz (min j (m - 1))) (ckN n sz (min j (m - 1)))]
theorem ckP_keep {sv : Value} {sz bs bn : Nat} {x y : World} (h : CkMemP sv sz bs bn x) (hk : TwoKept bs bn x y) : CkMemP sv sz bs bn y := ⟨hk.2.1.trans h.1, hk.2.2.trans h.2⟩
theorem ckP_lt {sv : Value} {sz bs bn : Nat} {x : World} (h : CkMemP sv sz bs bn x) : bs < x.heap.size ∧ bn < x.heap.size := ⟨(Array.getElem?_eq_some_iff.1 h.1).1, (Array.getElem?_eq_some_iff.1 h.2).1⟩
theorem ckP_cells {sv : Value} {sz bs bn : Nat} {x : World} (h : CkMemP sv sz bs bn x) : x.cell? ⟨bs, 0, none⟩ = some sv ∧ x.cell? ⟨bn, 0, none⟩ = some (.int .i64 (sz : Int)) := by
  obtain ⟨h1, h2⟩ := h
  constructor <;> simp [World.cell?, h1, h2]
set_option maxRecDepth 100000 in
set_option maxHeartbeats 2000000 in
theorem ckP1_in (d : Nat) (hd1 : 1 ≤ d) (l g off n c sz m bs bn : Nat) (hn : n ≤ 100000) (hnc : n ≤ c) (hsz : 0 < sz) (hsz2 : sz ≤ 100000) (hm : ∀ k, k < m ↔ k * sz < n) (Kp : World → World → Prop) (hKp : ∀ W W', Kp W W' → TwoKept bs bn W W')
    (J Jx : List Nat → World → Prop) (W : World) (hJ : AbidesFrom W.heap.size J)
    (hY : ∀ pre x W, J pre W → pre.length < m → YieldAt Fence.wide (d - 1) Tryz.prog l (ckPEnc g off n sz m x) W fun e W' =>
      (e = .returned (.bool true) ∧ J (pre ++ [x]) W' ∧ Kp W W') ∨ (e = .returned (.bool false) ∧ Jx (pre ++ [x]) W'))
    (hS : CkMemP (.slice (some ⟨g, off, none⟩) n c) sz bs bn W) (h0 : J [] W) :
    CallsIn Fence.wide d Tryz.prog 54 #[.func (.yield l) #[] #[], .pointer (some ⟨bs, 0, none⟩), .pointer (some ⟨bn, 0, none⟩)] W fun e W' => (∃ v, e = .returned v) ∧
      ((∃ ys, ys = upto (fun j => j) m ∧ J ys W') ∨ (∃ pre, (∃ k, k ≤ m ∧ pre = upto (fun j => j) k) ∧ Jx pre W')) := by
  refine callsIn_of_wp Tryz.func54 rfl trivial ?_ rfl
  simp only [Tryz.ntmps54, List.size_toArray, List.length_cons, List.length_nil, Nat.reduceAdd, Nat.reduceSub, Array.replicate_succ, Array.replicate_zero, List.push_toArray, List.append_toArray, List.nil_append, List.cons_append]
  have HS := Lib.hid hS
  have HM := Lib.hid hm
  have HY := Lib.hid hY
  clear hm hY
  gi_wp2
  gi_loopw [4] (fun i wr => ∃ k q : Nat, Hid (q = k * sz) ∧ Hid (k ≤ m) ∧ i = .int .i64 q ∧ J (upto (fun j => j) k) wr ∧ Hid (W.heap.size ≤ wr.heap.size) ∧ Hid (CkMemP (.slice (some ⟨g, off, none⟩) n c) sz bs bn wr) ∧ Hid (AbidesFrom wr.heap.size J) ∧ q ≤ n + sz)
    (fun i _ => n + sz - (intOf i).toNat)
  case atStart => exact ⟨0, 0, Lib.hid (by simp), Lib.hid (Nat.zero_le _), rfl, h0, Lib.hid (Nat.le_refl _), HS, Lib.hid hJ, by omega⟩
  case round =>
    obtain ⟨k, q, HQ, HK, rfl, hJs, HZ, HSM, HA, hqb⟩ := hrel
    obtain ⟨c0, c1⟩ := ckP_cells HSM.out
    by_cases hlt : q < n
    · have hkm : k < m := (HM.out k).2 (by rw [← HQ.out]; exact hlt)
      have hmin : min k (m - 1) = k := by omega
      obtain ⟨cn, hcn⟩ : ∃ cn, cn = ckN n sz k := ⟨_, rfl⟩
      have hcq : cn = min sz (n - q) := by rw [hcn, HQ.out]; rfl
      have hc0 : 0 < cn := by omega
      have hc1 : q + cn ≤ n := by omega
      obtain ⟨e, he⟩ : ∃ e, e = q + cn := ⟨_, rfl⟩
      have HCI : Hid ((if n - q < sz then ((n - q : Nat) : Int) else (sz : Int)) = (cn : Int)) := Lib.hid (by
        rw [hcq]; split <;> omega)
      have HW1 : Hid (wrap64 ((q : Int) + (cn : Int)) = (e : Int)) := Lib.hid (by rw [IntWalk.wrap64_in _ (by omega), he]; omega)
      have HE : Hid (e - q = cn) := Lib.hid (by omega)
      have HE0 : Hid (¬ e - q = 0 ∧ ¬ e = q) := Lib.hid (by omega)
      have HCN := Lib.hid (And.intro hcn (And.intro hmin (And.intro hkm he)))
      have e1 : q ≤ e := by omega
      have e2 : e ≤ n := by omega
      have e3 : e ≤ c := by omega
      have HJ := Lib.hid hJs
      clear hcn hcq hmin hkm he hJs hJ h0 hc0 hc1
      gi_wp2
      gi_quiet (fail)
      rw [HCI.out]
      have hb2 : Below wr.heap.size wr (wr.drewN nq) := bel_dn (Below.refl _ _) nq
      obtain ⟨wq, hwq⟩ : ∃ x, x = wr.drewN nq := ⟨_, rfl⟩
      rw [← hwq] at hb2 ⊢
      clear c0 c1 hwq
      have HSQ := Lib.hid (ckP_keep HSM.out ⟨hb2.size, hb2.block _ (ckP_lt HSM.out).1, hb2.block _ (ckP_lt HSM.out).2⟩)
      have hJq := HA.out _ wr wq none HJ.out (gb_of_below hb2) (fun r e => by cases e)
      have HZ2 := Lib.hid hb2.size
      obtain ⟨c0, c1⟩ := ckP_cells HSQ.out
      obtain ⟨fn, tmps, assign, body, hy, hR⟩ := HY.out _ k wq hJq (by rw [upto_length]; exact HCN.out.2.2.1)
      have hy' : (Instr.yield l #[.slice (some ⟨g, off + q * 8, none⟩) (e - q) (e - q)]).run Tryz.prog wq = .ok (.round l fn tmps assign body) wq := by
        rw [HE.out, HCN.out.1, HQ.out, ← hy]
        unfold ckPEnc
        rw [HCN.out.2.1]
      have hw1 := HW1.out
      have e4 : (e - q = 0) = False := eq_false HE0.out.1
      have e5 : (e = q) = False := eq_false HE0.out.2
      have e6 : decide (e - q = 0) = false := by simpa using HE0.out.1
      have e7 : q < e := by have := HE0.out.1; omega
      clear hy hJq hb2
      gi_wp2
      refine hR.mono ?_
      rintro e' W4 (⟨rfl, hJ4, hk4⟩ | ⟨rfl, hJx4⟩)
      · have hk5 := hKp _ _ hk4
        have HSM4 := Lib.hid (ckP_keep HSQ.out hk5)
        have HA4 := Lib.hid (abides_mono HA.out (Nat.le_trans HZ2.out hk5.1))
        obtain ⟨d0, d1⟩ := ckP_cells HSM4.out
        have HK4 := Lib.hid hk5.1
        have HJ4 := Lib.hid hJ4
        have hw2 : wrap64 ((q : Int) + (sz : Int)) = ((q + sz : Nat) : Int) := by rw [IntWalk.wrap64_in _ (by omega)]; omega
        clear hk4 hk5 hJ4 hw1 c0 c1 e4 e5 e6 e7
        gi_wp2
        go_roundw
        case rel => exact ⟨k + 1, q + sz, Lib.hid (by rw [HQ.out, Nat.succ_mul]), Lib.hid HCN.out.2.2.1, by go_num, by rw [upto_succ]; exact HJ4.out, Lib.hid (Nat.le_trans HZ.out (Nat.le_trans HZ2.out HK4.out)), HSM4, HA4, by omega⟩
        case measure => simp [intOf]; omega
      · gi_wp2
        refine bodyPost_ret (results_none rfl _ _ _) rfl ?_
        exact ⟨⟨_, rfl⟩, .inr ⟨_, ⟨k + 1, HCN.out.2.2.1, (upto_succ _ _).symm⟩, hJx4⟩⟩
    · have hkm : ¬ k < m := fun h => hlt (by rw [HQ.out]; exact (HM.out k).1 h)
      obtain rfl : k = m := by have := HK.out; omega
      gi_wp2
      go_end0
      exact ⟨⟨_, rfl⟩, .inl ⟨_, rfl, hJs⟩⟩
theorem ckP_stops (d : Nat) (hd1 : 1 ≤ d) (g off n c sz m bs bn : Nat) (hn : n ≤ 100000) (hnc : n ≤ c) (hsz : 0 < sz) (hsz2 : sz ≤ 100000) (hm : ∀ k, k < m ↔ k * sz < n) (w : World) (hS : CkMemP (.slice (some ⟨g, off, none⟩) n c) sz bs bn w) :
    SeqStopsK Fence.wide d Tryz.prog 54 #[.pointer (some ⟨bs, 0, none⟩), .pointer (some ⟨bn, 0, none⟩)] (ckPEnc g off n sz m) (TwoKept bs bn)
      (fun ys => ys = upto (fun j => j) m) (fun pre => ∃ k, k ≤ m ∧ pre = upto (fun j => j) k) m w := fun l J Jx W hW hJ _ hY h0 =>
  ckP1_in d hd1 l g off n c sz m bs bn hn hnc hsz hsz2 hm (TwoKept bs bn) (fun _ _ h => h) J Jx W hJ hY (ckP_keep hS (twoKept_below hW (ckP_lt hS).1 (ckP_lt hS).2)) h0
end Go.Proofs.YthgcjiocelcblaaGreat
