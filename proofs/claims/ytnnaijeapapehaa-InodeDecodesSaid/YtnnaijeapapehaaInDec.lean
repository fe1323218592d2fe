/- inode.right, inode.Decode. -/
import Derived.Test.YtnnaijeapapehaaInDecBy
import Derived.DeepKeys
namespace Go.Proofs.Ytnnaijeapapehaa
open Go.RowKit

theorem litI (K : IntKind) (M : Nat) (hm : K.min = 0 ∨ K.min < 0) (hM : K.max = (M : Int) - 1) {x : Nat} (h : x < M) : (Lit.int K (x : Int)).wf = true := by
  simp [Lit.wf]; omega
theorem lit8 {x : Nat} (h : x < 256) : (Lit.int .u8 (x : Int)).wf = true := litI .u8 256 (.inl (by decide)) (by decide) h
theorem lit16 {x : Nat} (h : x < 65536) : (Lit.int .u16 (x : Int)).wf = true := litI .u16 65536 (.inl (by decide)) (by decide) h
theorem lit32 {x : Nat} (h : x < 4294967296) : (Lit.int .u32 (x : Int)).wf = true := litI .u32 4294967296 (.inl (by decide)) (by decide) h
def Ino.lits (n : Ino) : List Lit := [.int .u8 (n.ki : Int), .int .u16 (n.ln : Int), .int .u32 (n.sz : Int), .int .u32 (n.d0 : Int), .int .u32 (n.d1 : Int), .int .u32 (n.d2 : Int), .int .u32 (n.d3 : Int), .int .u32 (n.d4 : Int), .int .u32 (n.d5 : Int), .int .u32 (n.d6 : Int), .int .u32 (n.d7 : Int), .int .u32 (n.si : Int), .int .u32 (n.db : Int)]
set_option maxRecDepth 100000 in
set_option maxHeartbeats 1600000 in
theorem lits_ino (n : Ino) (h : n.Fits) : Try.prog.keyLits 3 26 [.int .u8 (n.ki : Int), .int .u16 (n.ln : Int), .int .u32 (n.sz : Int), .int .u32 (n.d0 : Int), .int .u32 (n.d1 : Int), .int .u32 (n.d2 : Int), .int .u32 (n.d3 : Int), .int .u32 (n.d4 : Int), .int .u32 (n.d5 : Int), .int .u32 (n.d6 : Int), .int .u32 (n.d7 : Int), .int .u32 (n.si : Int), .int .u32 (n.db : Int)] = some n.lits := by
  have w0 := lit8 h.ki
  have w1 := lit16 h.ln
  have w2 := lit32 h.sz
  have w3 := lit32 h.d0
  have w4 := lit32 h.d1
  have w5 := lit32 h.d2
  have w6 := lit32 h.d3
  have w7 := lit32 h.d4
  have w8 := lit32 h.d5
  have w9 := lit32 h.d6
  have w10 := lit32 h.d7
  have w11 := lit32 h.si
  have w12 := lit32 h.db
  have h8 := Try.underlying5
  have h16 := Try.underlying22
  have h32 := Try.underlying23
  have hr := Try.underlying24
  have hu := Try.underlying26
  have c8 : Try.prog.cellsOf 5 = 1 := by kernel_rfl
  have c16 : Try.prog.cellsOf 22 = 1 := by kernel_rfl
  have c32 : Try.prog.cellsOf 23 = 1 := by kernel_rfl
  have cr : Try.prog.cellsOf 24 = 8 := by kernel_rfl
  have ci : Try.prog.cellsOf 26 = 13 := by kernel_rfl
  have hrg : List.range 8 = [0, 1, 2, 3, 4, 5, 6, 7] := rfl
  simp [Program.keyLits, hu, hr, h8, h16, h32, c8, c16, c32, cr, ci, hrg, w0, w1, w2, w3, w4, w5, w6, w7, w8, w9, w10, w11, w12, Ino.lits]
/-- Two structs of plain cells held against each other. -/
theorem eqlI_deep {t : TypeId} (m : Nat) (hk : Try.prog.keyTypeAt m t = true) (hm : m ≤ 10000) {xs ys : Array Value} {lx ly : List Lit} {D : Nat} (fx : (Value.agg xs).formed Try.prog t = true) (fy : (Value.agg ys).formed Try.prog t = true)
    (hx : Try.prog.keyLits D t xs.toList = some lx) (hy : Try.prog.keyLits D t ys.toList = some ly) (b : Bool) (hb : b = true ↔ lx = ly) (w : World) : (binOp .eql t (.agg xs) (.agg ys)).run Try.prog w = .ok (.bool b) w ∧ (binOp .neq t (.agg xs) (.agg ys)).run Try.prog w = .ok (.bool (!b)) w := by
  have h := run_equalIn_deep (P := Try.prog) (10000 - m) m t hk w D D (.agg xs) (.agg ys) lx ly fx fy hx hy
  rw [show 10000 - m + m = 10000 by omega] at h
  obtain ⟨r, h1, h2⟩ := h
  have : r = b := by rw [Bool.eq_iff_iff, h2, hb]
  rw [run_eql_struct, run_neq_struct, h1, this]
  exact ⟨rfl, rfl⟩
def eqI (n m : Ino) : Bool := decide (n.ki = m.ki ∧ n.ln = m.ln ∧ n.sz = m.sz ∧ n.d0 = m.d0 ∧ n.d1 = m.d1 ∧ n.d2 = m.d2 ∧ n.d3 = m.d3 ∧ n.d4 = m.d4 ∧ n.d5 = m.d5 ∧ n.d6 = m.d6 ∧ n.d7 = m.d7 ∧ n.si = m.si ∧ n.db = m.db)
theorem eqI_iff (n m : Ino) : eqI n m = true ↔ n = m := by
  unfold eqI
  rw [decide_eq_true_iff]
  obtain ⟨a0, a1, a2, a3, a4, a5, a6, a7, a8, a9, a10, a11, a12⟩ := n
  obtain ⟨b0, b1, b2, b3, b4, b5, b6, b7, b8, b9, b10, b11, b12⟩ := m
  simp
theorem eqI_lits (n m : Ino) : eqI n m = true ↔ n.lits = m.lits := by
  rw [eqI_iff]
  refine ⟨fun h => by rw [h], fun h => ?_⟩
  obtain ⟨a0, a1, a2, a3, a4, a5, a6, a7, a8, a9, a10, a11, a12⟩ := n
  obtain ⟨b0, b1, b2, b3, b4, b5, b6, b7, b8, b9, b10, b11, b12⟩ := m
  simp [Ino.lits] at h
  simp
  omega
theorem eql_ino (n m : Ino) (hn : n.Fits) (hm : m.Fits) (w : World) : (binOp .eql 26 (.agg #[.int .u8 (n.ki : Int), .int .u16 (n.ln : Int), .int .u32 (n.sz : Int), .int .u32 (n.d0 : Int), .int .u32 (n.d1 : Int), .int .u32 (n.d2 : Int), .int .u32 (n.d3 : Int), .int .u32 (n.d4 : Int), .int .u32 (n.d5 : Int), .int .u32 (n.d6 : Int), .int .u32 (n.d7 : Int), .int .u32 (n.si : Int), .int .u32 (n.db : Int)]) (.agg #[.int .u8 (m.ki : Int), .int .u16 (m.ln : Int), .int .u32 (m.sz : Int), .int .u32 (m.d0 : Int), .int .u32 (m.d1 : Int), .int .u32 (m.d2 : Int), .int .u32 (m.d3 : Int), .int .u32 (m.d4 : Int), .int .u32 (m.d5 : Int), .int .u32 (m.d6 : Int), .int .u32 (m.d7 : Int), .int .u32 (m.si : Int), .int .u32 (m.db : Int)])).run Try.prog w = .ok (.bool (eqI n m)) w ∧ (binOp .neq 26 (.agg #[.int .u8 (n.ki : Int), .int .u16 (n.ln : Int), .int .u32 (n.sz : Int), .int .u32 (n.d0 : Int), .int .u32 (n.d1 : Int), .int .u32 (n.d2 : Int), .int .u32 (n.d3 : Int), .int .u32 (n.d4 : Int), .int .u32 (n.d5 : Int), .int .u32 (n.d6 : Int), .int .u32 (n.d7 : Int), .int .u32 (n.si : Int), .int .u32 (n.db : Int)]) (.agg #[.int .u8 (m.ki : Int), .int .u16 (m.ln : Int), .int .u32 (m.sz : Int), .int .u32 (m.d0 : Int), .int .u32 (m.d1 : Int), .int .u32 (m.d2 : Int), .int .u32 (m.d3 : Int), .int .u32 (m.d4 : Int), .int .u32 (m.d5 : Int), .int .u32 (m.d6 : Int), .int .u32 (m.d7 : Int), .int .u32 (m.si : Int), .int .u32 (m.db : Int)])).run Try.prog w = .ok (.bool (!eqI n m)) w :=
  eqlI_deep 3 (by kernel_rfl) (by omega) (by kernel_rfl) (by kernel_rfl) (lits_ino n hn) (lits_ino m hm) _ (eqI_lits n m) w
theorem zero_fits : Ino.zero.Fits := ⟨by decide, by decide, by decide, by decide, by decide, by decide, by decide, by decide, by decide, by decide, by decide, by decide, by decide⟩
theorem eql_zero (n : Ino) (hn : n.Fits) (b : Bool) (hb : eqI n Ino.zero = b) (w : World) : (binOp .eql 26 (.agg #[.int .u8 (n.ki : Int), .int .u16 (n.ln : Int), .int .u32 (n.sz : Int), .int .u32 (n.d0 : Int), .int .u32 (n.d1 : Int), .int .u32 (n.d2 : Int), .int .u32 (n.d3 : Int), .int .u32 (n.d4 : Int), .int .u32 (n.d5 : Int), .int .u32 (n.d6 : Int), .int .u32 (n.d7 : Int), .int .u32 (n.si : Int), .int .u32 (n.db : Int)]) (.agg #[.int .u8 0, .int .u16 0, .int .u32 0, .int .u32 0, .int .u32 0, .int .u32 0, .int .u32 0, .int .u32 0, .int .u32 0, .int .u32 0, .int .u32 0, .int .u32 0, .int .u32 0])).run Try.prog w = .ok (.bool b) w := by
  have h := (eql_ino n Ino.zero hn zero_fits w).1
  rw [hb] at h
  exact h
theorem ino13 {W : World} {b : Nat} {n : Ino} {t : TypeId} (h : W.heap[b]? = some (.cells n.cl t (0, 0))) : W.cell? ⟨b, 0, none⟩ = some (.int .u8 (n.ki : Int)) ∧ W.cell? ⟨b, 1, none⟩ = some (.int .u16 (n.ln : Int)) ∧ W.cell? ⟨b, 2, none⟩ = some (.int .u32 (n.sz : Int)) ∧ W.cell? ⟨b, 3, none⟩ = some (.int .u32 (n.d0 : Int)) ∧ W.cell? ⟨b, 4, none⟩ = some (.int .u32 (n.d1 : Int)) ∧ W.cell? ⟨b, 5, none⟩ = some (.int .u32 (n.d2 : Int)) ∧ W.cell? ⟨b, 6, none⟩ = some (.int .u32 (n.d3 : Int)) ∧ W.cell? ⟨b, 7, none⟩ = some (.int .u32 (n.d4 : Int)) ∧ W.cell? ⟨b, 8, none⟩ = some (.int .u32 (n.d5 : Int)) ∧ W.cell? ⟨b, 9, none⟩ = some (.int .u32 (n.d6 : Int)) ∧ W.cell? ⟨b, 10, none⟩ = some (.int .u32 (n.d7 : Int)) ∧ W.cell? ⟨b, 11, none⟩ = some (.int .u32 (n.si : Int)) ∧ W.cell? ⟨b, 12, none⟩ = some (.int .u32 (n.db : Int)) := by
  simp [World.cell?, h, Ino.cl]
theorem ino13z {W : World} {b : Nat} {t : TypeId} (h : W.heap[b]? = some (.cells #[.int .u8 0, .int .u16 0, .int .u32 0, .int .u32 0, .int .u32 0, .int .u32 0, .int .u32 0, .int .u32 0, .int .u32 0, .int .u32 0, .int .u32 0, .int .u32 0, .int .u32 0] t (0, 0))) : (W.cell? ⟨b, 0, none⟩ = some (.int .u8 0) ∧ W.cell? ⟨b, 1, none⟩ = some (.int .u16 0) ∧ W.cell? ⟨b, 2, none⟩ = some (.int .u32 0) ∧ W.cell? ⟨b, 3, none⟩ = some (.int .u32 0) ∧ W.cell? ⟨b, 4, none⟩ = some (.int .u32 0) ∧ W.cell? ⟨b, 5, none⟩ = some (.int .u32 0) ∧ W.cell? ⟨b, 6, none⟩ = some (.int .u32 0) ∧ W.cell? ⟨b, 7, none⟩ = some (.int .u32 0) ∧ W.cell? ⟨b, 8, none⟩ = some (.int .u32 0) ∧ W.cell? ⟨b, 9, none⟩ = some (.int .u32 0) ∧ W.cell? ⟨b, 10, none⟩ = some (.int .u32 0) ∧ W.cell? ⟨b, 11, none⟩ = some (.int .u32 0) ∧ W.cell? ⟨b, 12, none⟩ = some (.int .u32 0)) ∧ ∀ o, W.frozen? ⟨b, o, none⟩ = false := by
  simp [World.cell?, World.frozen?, h]
/-- May an inode be? -/
def rightI (n : Ino) : Bool := decide (n.ki ≤ 2) && (decide (n.ki ≠ 0) || eqI n Ino.zero)
set_option maxRecDepth 100000 in
set_option maxHeartbeats 1600000 in
theorem right_any (n : Ino) (hn : n.Fits) (w : World) : Calls Try.prog 35 #[.agg #[.int .u8 (n.ki : Int), .int .u16 (n.ln : Int), .int .u32 (n.sz : Int), .int .u32 (n.d0 : Int), .int .u32 (n.d1 : Int), .int .u32 (n.d2 : Int), .int .u32 (n.d3 : Int), .int .u32 (n.d4 : Int), .int .u32 (n.d5 : Int), .int .u32 (n.d6 : Int), .int .u32 (n.d7 : Int), .int .u32 (n.si : Int), .int .u32 (n.db : Int)]] w fun e w' => e = .returned (.bool (rightI n)) ∧ Below w.heap.size w w' := by
  obtain ⟨B, hB⟩ : ∃ x, x = w.alloc (.cells #[.int .u8 (n.ki : Int), .int .u16 (n.ln : Int), .int .u32 (n.sz : Int), .int .u32 (n.d0 : Int), .int .u32 (n.d1 : Int), .int .u32 (n.d2 : Int), .int .u32 (n.d3 : Int), .int .u32 (n.d4 : Int), .int .u32 (n.d5 : Int), .int .u32 (n.d6 : Int), .int .u32 (n.d7 : Int), .int .u32 (n.si : Int), .int .u32 (n.db : Int)] 26) := ⟨_, rfl⟩
  obtain ⟨b, hb⟩ : ∃ x, x = w.heap.size := ⟨_, rfl⟩
  have hh : B.heap[b]? = some (.cells n.cl 26 (0, 0)) := by rw [hB, hb]; exact heap_alloc_new _ _
  have HB := Lib.hid (show Below b w B by rw [hb, hB]; exact bel_alloc (Below.refl _ _) _)
  obtain ⟨z0, z1, z2, z3, z4, z5, z6, z7, z8, z9, z10, z11, z12⟩ := ino13 hh
  obtain ⟨r, hr⟩ : ∃ r, r = rightI n := ⟨_, rfl⟩
  obtain ⟨q, hq⟩ : ∃ q, eqI n Ino.zero = q := ⟨_, rfl⟩
  have HQ := fun x : World => eql_zero n hn q hq x
  rw [← hr]
  unfold rightI at hr
  rw [hq] at hr
  have HR := Lib.hid hr
  clear hh hr hq hn
  by_cases c1 : n.ki ≤ 2
  · have t1 : decide ((n.ki : Int) ≤ 2) = true := by simp; omega
    by_cases c2 : n.ki = 0
    · have t2 : ((n.ki : Int) != 0) = false := by simp; omega
      have e : r = q := by rw [HR.out]; simp [c2]
      subst e
      clear c1 c2
      go_enter Try.func35, Try.ntmps35
      go_wp2_with fail
      rw [← hB, ← hb]
      clear hB hb
      go_wp2_with fail
      go_ret
      exact ⟨rfl, HB.out⟩
    · have t2 : ((n.ki : Int) != 0) = true := by simp; omega
      have e : r = true := by rw [HR.out]; simp [c1, c2]
      subst e
      clear c1 c2
      go_enter Try.func35, Try.ntmps35
      go_wp2_with fail
      rw [← hB, ← hb]
      clear hB hb
      go_wp2_with fail
      go_ret
      exact ⟨rfl, HB.out⟩
  · have t1 : decide ((n.ki : Int) ≤ 2) = false := by simp; omega
    have e : r = false := by rw [HR.out]; simp [c1]
    subst e
    clear c1
    go_enter Try.func35, Try.ntmps35
    go_wp2_with fail
    rw [← hB, ← hb]
    clear hB hb
    go_wp2_with fail
    go_ret
    exact ⟨rfl, HB.out⟩
theorem leValN_lt {l : List Nat} (h : ∀ x ∈ l, x < 256) (k n : Nat) : leVal ((l.drop k).take n) < 256 ^ n := by
  have h1 := leVal_lt ((l.drop k).take n) (fun x hx => h x (List.mem_of_mem_drop (List.mem_of_mem_take hx)))
  refine Nat.lt_of_lt_of_le h1 ?_
  exact Nat.pow_le_pow_right (show 0 < 256 by omega) (List.length_take_le _ _)
theorem inoOf_fits {bs : List Nat} (h : ∀ x ∈ bs, x < 256) : (inoOf bs).Fits := by
  have h4 : ∀ k, num4 bs k < 4294967296 := fun k => leValN_lt h k 4
  have h2 : leVal ((bs.drop 2).take 2) < 65536 := leValN_lt h 2 2
  have h0 := getD_lt h 0
  exact ⟨h0, h2, h4 _, h4 _, h4 _, h4 _, h4 _, h4 _, h4 _, h4 _, h4 _, h4 _, h4 _⟩
/-- Are bytes an inode? -/
def okI (bs : List Nat) : Bool := (bs.getD 1 0 == 0 && zeros (bs.drop 48)) && rightI (inoOf bs)
theorem decBy (w : World) (p : Nat) (bs : List Nat) (hl : bs.length = 64) (hw : w.heap.size = p + 2) (hn : w.heap[p]? = some (.cells Ino.zero.cl 26 (0, 0))) (hz : w.heap[p + 1]? = some (.cells #[.bool false] 4 (0, 0))) :
    ByOk 30 #[.pointer (some ⟨p, 0, none⟩), .pointer (some ⟨p + 1, 0, none⟩)] bs w (fun W' => W'.heap[p]? = some (.cells (inoOf bs).cl 26 (0, 0)) ∧ W'.heap[p + 1]? = some (.cells #[.bool (bs.getD 1 0 == 0 && zeros (bs.drop 48))] 4 (0, 0)) ∧ Below p w W') := by
  intro W pr pg a c hrd hb hp3
  have hst : TkB w W p pr pg (inBx Ino.zero false) W bs := tkB_start hw hb hrd fun i cs t h => by
    match i, h with
    | 0, h => cases h; exact hn
    | 1, h => cases h; exact hz
    | i + 2, h => cases h
  refine (inDecBy w W p pr pg c a bs hl hw (by omega) hst hrd).mono fun e W' h => ⟨h.1, h.2.inner, h.2.box 0 _ _ rfl, h.2.box 1 _ _ rfl, h.2.bel⟩
set_option maxRecDepth 100000 in
set_option maxHeartbeats 1600000 in
theorem inDecode_len (a : Option Addr) (len cap : Nat) (w : World) (h : len ≠ 64) :
    Calls Try.prog 14 #[.slice a len cap] w fun e w' => e = .returned (.tuple #[.agg #[.int .u8 0, .int .u16 0, .int .u32 0, .int .u32 0, .int .u32 0, .int .u32 0, .int .u32 0, .int .u32 0, .int .u32 0, .int .u32 0, .int .u32 0, .int .u32 0, .int .u32 0], .int .i64 62]) ∧ Below w.heap.size w w' := by
  have t1 : ((len : Int) != 64) = true := by simp; omega
  clear h
  go_enter Try.func14, Try.ntmps14
  go_wp2
  exact bodyPost_ret (v := .tuple #[.agg #[.int .u8 0, .int .u16 0, .int .u32 0, .int .u32 0, .int .u32 0, .int .u32 0, .int .u32 0, .int .u32 0, .int .u32 0, .int .u32 0, .int .u32 0, .int .u32 0, .int .u32 0], .int .i64 62]) (by simp [results, Try.results14, go_sem]) rfl ⟨rfl, bel_alloc (Below.refl _ _) _⟩
theorem set13 {w x : World} {b : Nat} (hb : Below w.heap.size w x) (hle : w.heap.size ≤ b) (v0 v1 v2 v3 v4 v5 v6 v7 v8 v9 v10 v11 v12 : Value) : Below w.heap.size w (((((((((((((x.setCell ⟨b, 0, none⟩ v0).setCell ⟨b, 1, none⟩ v1).setCell ⟨b, 2, none⟩ v2).setCell ⟨b, 3, none⟩ v3).setCell ⟨b, 4, none⟩ v4).setCell ⟨b, 5, none⟩ v5).setCell ⟨b, 6, none⟩ v6).setCell ⟨b, 7, none⟩ v7).setCell ⟨b, 8, none⟩ v8).setCell ⟨b, 9, none⟩ v9).setCell ⟨b, 10, none⟩ v10).setCell ⟨b, 11, none⟩ v11).setCell ⟨b, 12, none⟩ v12) := by
  exact ((((((((((((hb.setCell (p := ⟨b, 0, none⟩) hle _).setCell (p := ⟨b, 1, none⟩) hle _).setCell (p := ⟨b, 2, none⟩) hle _).setCell (p := ⟨b, 3, none⟩) hle _).setCell (p := ⟨b, 4, none⟩) hle _).setCell (p := ⟨b, 5, none⟩) hle _).setCell (p := ⟨b, 6, none⟩) hle _).setCell (p := ⟨b, 7, none⟩) hle _).setCell (p := ⟨b, 8, none⟩) hle _).setCell (p := ⟨b, 9, none⟩) hle _).setCell (p := ⟨b, 10, none⟩) hle _).setCell (p := ⟨b, 11, none⟩) hle _).setCell (p := ⟨b, 12, none⟩) hle _
end Go.Proofs.Ytnnaijeapapehaa
