/- Parts of the proof: PtMem, PtNil, PtWritten. -/
import Derived.Test.YthgcjiocelcblaaK38
import Derived.Test.YthgcjiocelcblaaK36
import Derived.Test.YthgcjiocelcblaaK27
namespace Go.Proofs.Ythgcjiocelcblaa
open Go.RowKit Go.Deep

theorem ptmod_eq (x : Int) : ∃ n : Nat, wrap64 (3 + wrap64 ((IntKind.u64.wrap x).tmod 3)) = (n : Int) ∧ 3 ≤ n ∧ n ≤ 5 := by
  have h2 : 0 ≤ IntKind.u64.wrap x := by rw [IntKind.wrap_u64]; omega
  have h3 : 0 ≤ (IntKind.u64.wrap x).tmod 3 := Int.tmod_nonneg _ h2
  have h4 : (IntKind.u64.wrap x).tmod 3 < 3 := Int.tmod_lt_of_pos _ (by omega)
  obtain ⟨m, hm⟩ : ∃ m : Nat, (IntKind.u64.wrap x).tmod 3 = (m : Int) := ⟨((IntKind.u64.wrap x).tmod 3).toNat, by omega⟩
  rw [hm] at h3 h4 ⊢
  refine ⟨3 + m, ?_, by omega, by omega⟩
  rw [IntWalk.wrap64_in (m : Int) (by omega), IntWalk.wrap64_in _ (by omega)]
  omega
def ptG (x : Int) : Nat := (wrap64 (3 + wrap64 ((IntKind.u64.wrap x).tmod 3))).toNat
theorem ptG_in (x : Int) : 3 ≤ ptG x ∧ ptG x ≤ 5 ∧ wrap64 (3 + wrap64 ((IntKind.u64.wrap x).tmod 3)) = (ptG x : Int) := by
  obtain ⟨n, h1, h2, h3⟩ := ptmod_eq x
  unfold ptG
  rw [h1]
  exact ⟨by omega, by omega, by omega⟩
theorem ptShape_any (x : Int) (w : World) : Calls Try.prog 6 #[.int .i64 x] w fun e w' => e = .returned (.agg #[.int .i64 (ptG x : Int), .int .i64 20, .int .i64 6, .int .i64 256]) ∧ Below w.heap.size w w' := by
  have hq := (ptG_in x).2.2
  go_enter Try.func6, Try.ntmps6
  go_wp2
  rw [← hq]
  exact bodyPost_ret (v := .agg #[.int .i64 (wrap64 (3 + wrap64 ((IntKind.u64.wrap x).tmod 3))), .int .i64 20, .int .i64 6, .int .i64 256]) (by simp [results, Try.results6, go_sem]) rfl ⟨rfl, bel_alloc (Below.refl _ w) _⟩
theorem ptGood (n : Nat) (h : 3 ≤ n ∧ n ≤ 5) : GoodG (n : Int) (20 : Nat) (6 : Nat) (256 : Nat) := by
  unfold GoodG
  omega
theorem SegIs.cong {s s2 : RS} {seg R : Nat} {C : Nat → RH × List Nat} (h : SegIs s seg R C) (e1 : s2.n = s.n) (e2 : s2.pg = s.pg) (e3 : s2.sz = s.sz) (e4 : s2.gone = s.gone) (hF : ∀ m r, s2.F (m, seg, r) = s.F (m, seg, r)) : SegIs s2 seg R C :=
  ⟨fun r hr => by rw [e1]; exact (h.1 r hr).cong e1 e2 e3 e4 fun m => hF m r, fun r hr hp m hm => by rw [hF]; exact h.2 r hr (by rw [← e2]; exact hp) m (by rw [← e1]; exact hm)⟩
theorem PtD.In.cong {s s2 : RS} {seg : Nat} {x : PtD} (h : PtD.In s seg x) (e1 : s2.n = s.n) (e2 : s2.pg = s.pg) (e3 : s2.sz = s.sz) (e4 : s2.gone = s.gone) (hF : ∀ m r, s2.F (m, seg, r) = s.F (m, seg, r)) : PtD.In s2 seg x := by
  unfold PtD.In SegPt at *
  rcases h with ⟨a, b, c, d⟩ | ⟨a, b, c, d, e, f⟩
  · exact .inl ⟨a, b, by rw [e1, e2, e3]; exact c, by rw [e1, e3]; exact d.cong e1 e2 e3 e4 hF⟩
  · exact .inr ⟨a, b, c, d, e, f.cong e1 e2 e3 e4 hF⟩
/-- Members with so many chips, on which k points were written. -/
structure Mem2 (B : Nat) (s : RS) (n k : Nat) (X : Nat → PtD) (w : World) : Prop where
  ram : Ram B s w
  hB : B ≤ w.heap.size
  live : ∀ m, s.gone m = 0
  n_ : s.n = n
  pg_ : s.pg = 6
  sz_ : s.sz = 256
  bl_ : s.bl = 20
  hn : 3 ≤ n ∧ n ≤ 5
  ol : s.ol.length ≤ k * 30
  s0 : PtD.In s 2 (X 0)
  s1 : PtD.In s 3 (X 1)
theorem mem2_new {rb pb gb n : Nat} {B : Nat} {w : World} (h : Ram B (rsNew rb pb gb n 20 6 256) w) (hB : B ≤ w.heap.size) (hn : 3 ≤ n ∧ n ≤ 5) : Mem2 B (rsNew rb pb gb n 20 6 256) n 0 (fun _ => PtD.zero) w :=
  ⟨h, hB, fun _ => rfl, rfl, rfl, rfl, rfl, hn, Nat.le_refl _, .inr ⟨rfl, rfl, rfl, rfl, rfl, fun _ hr => absurd hr (Nat.not_lt_zero _), fun _ _ _ _ _ => rfl⟩, .inr ⟨rfl, rfl, rfl, rfl, rfl, fun _ hr => absurd hr (Nat.not_lt_zero _), fun _ _ _ _ _ => rfl⟩⟩
theorem Mem2.step {B : Nat} {s : RS} {n k : Nat} {X : Nat → PtD} {w w' : World} (h : Mem2 B s n k X w) (hb : Below w.heap.size w w') : Mem2 B s n k X w' :=
  ⟨h.ram.step hb, Nat.le_trans h.hB hb.size, h.live, h.n_, h.pg_, h.sz_, h.bl_, h.hn, h.ol, h.s0, h.s1⟩
def setX (X : Nat → PtD) (j : Nat) (x : PtD) : Nat → PtD := fun i => if i = j then x else X i
theorem mem2_write {B : Nat} {s : RS} {n k : Nat} {X : Nat → PtD} {w : World} (h : Mem2 B s n k X w) (hk : k ≤ 20) (sq ba : Nat) (ma : Option Addr) (mn mc : Nat) (ml : List Nat) (ea : Option Addr) (en ec : Nat) (el : List Nat) (hp : PT.Ok ⟨sq, ba, ma, mn, mc, ml, ea, en, ec, el⟩ w) (hm : mn ≤ 1000) (he : en ≤ 1000)
    (hfit : manyOf 256 (16 + 4 * ml.length + 4 * el.length) ≤ 6 * (n - 1)) :
    Calls Try.prog 9 #[.iface 23 (.pointer (some ⟨s.rb, 0, none⟩)), .agg #[.int .u32 (sq : Int), .int .u32 (ba : Int), .slice ma mn mc, .slice ea en ec]] w fun e w' =>
      ∃ s', e = .returned (.int .i64 0) ∧ Mem2 B s' n (k + 1) (setX X (sq % 2) ⟨true, sq, ba, ml, el, sq⟩) w' ∧ RStep s w s' w' := by
  have hn := h.hn
  have hol : s.ol.length + s.n * s.pg ≤ s.ol.length + 30 := by rw [h.n_, h.pg_]; omega
  have hol2 := h.ol
  have hk30 : k * 30 ≤ 600 := by omega
  refine (ptWrite_any h.ram h.hB sq ba ma mn mc ml ea en ec el hp hm he (by rw [h.sz_, h.pg_, h.n_]; exact hfit) (by omega) (by rw [deads_none h.live]; omega) (by rw [h.sz_]; omega)).mono ?_
  rintro e w' ⟨s', rfl, hr, hst, hg, hl, hF, hS⟩
  obtain ⟨e1, e2, e3, e4, e5, e6, e7, e8⟩ := hst.same
  have hnew : ∀ seg, seg = 2 + sq % 2 → PtD.In s' seg ⟨true, sq, ba, ml, el, sq⟩ := by
    intro seg hseg
    subst hseg
    have hml := hp.ml_.1
    have hel := hp.el_.1
    refine .inl ⟨rfl, ⟨hp.sq_, hp.ba_, hp.ml_.2.1, hp.el_.2.1, ?_, ?_⟩, ?_, ?_⟩
    · simp only [] at hml; show ml.length ≤ 1000; omega
    · simp only [] at hel; show el.length ≤ 1000; omega
    · rw [e7, e6, e4, h.sz_, h.pg_, h.n_]; exact hfit
    · rw [e4, e7]; exact hS
  refine ⟨s', rfl, ⟨hr, Nat.le_trans h.hB hst.size, fun m => by rw [hg]; exact h.live m, e4.trans h.n_, e6.trans h.pg_, e7.trans h.sz_, e5.trans h.bl_, h.hn, by omega, ?_, ?_⟩, hst⟩
  · unfold setX
    rcases Nat.mod_two_eq_zero_or_one sq with c | c
    · rw [if_pos (by omega)]; exact hnew 2 (by omega)
    · rw [if_neg (by omega)]; exact h.s0.cong e4 e6 e7 hg fun m r => hF (m, 2, r) (by simp only []; omega)
  · unfold setX
    rcases Nat.mod_two_eq_zero_or_one sq with c | c
    · rw [if_neg (by omega)]; exact h.s1.cong e4 e6 e7 hg fun m r => hF (m, 3, r) (by simp only []; omega)
    · rw [if_pos (by omega)]; exact hnew 3 (by omega)
theorem mem2_last {B : Nat} {s : RS} {n k : Nat} {X : Nat → PtD} {w : World} (h : Mem2 B s n k X w) :
    Calls Try.prog 7 #[.iface 23 (.pointer (some ⟨s.rb, 0, none⟩))] w (RdIs (PtD.fold X 2).f (PtD.fold X 2).q (PtD.fold X 2).b (PtD.fold X 2).m (PtD.fold X 2).e (PtD.fold X 2).top w) :=
  ptLast_any h.ram X h.s0 h.s1 h.live (by rw [h.sz_]; omega)
end Go.Proofs.Ythgcjiocelcblaa

namespace Go.Proofs.Ythgcjiocelcblaa
open Go.RowKit Go.Deep

set_option maxRecDepth 100000 in
theorem ptRead_nil (which : Int) (w : World) : Calls Try.prog 8 #[.nilIface, .int .i64 which] w fun e w' => e = .returned (.tuple #[.agg #[.int .u32 0, .int .u32 0, .slice none 0 0, .slice none 0 0], .bool false, .int .u32 0, .int .i64 60]) ∧ Below w.heap.size w w' := by
  obtain ⟨W1, hW1⟩ : ∃ x, x = w.alloc (.cells #[.int .u32 0, .int .u32 0, .slice none 0 0, .slice none 0 0] 31) := ⟨_, rfl⟩
  obtain ⟨p0, hp0⟩ : ∃ x, x = w.heap.size := ⟨_, rfl⟩
  have h0 : W1.heap[p0]? = some (.cells (pCs 0 0 (.slice none 0 0) (.slice none 0 0)) 31 (0, 0)) := by rw [hW1, hp0]; exact heap_alloc_new _ _
  have HB : Hid (Below w.heap.size w W1 ∧ w.heap.size ≤ p0) := Lib.hid ⟨by rw [hW1]; exact bel_alloc (Below.refl _ _) _, Nat.le_of_eq hp0.symm⟩
  obtain ⟨⟨z0, z1, z2, z3⟩, f0, f1, f2, f3⟩ := pt4_at h0
  clear h0
  go_enter Try.func8, Try.ntmps8
  go_upto_region 1 with fail
  rw [← hW1, ← hp0]
  clear hW1 hp0
  go_wp2_with fail
  exact bodyPost_ret (v := .tuple #[.agg #[.int .u32 0, .int .u32 0, .slice none 0 0, .slice none 0 0], .bool false, .int .u32 0, .int .i64 60]) (by simp [results, Try.results8, go_sem, z0, z1, z2, z3]) rfl ⟨rfl, pt4_set HB.out.1 HB.out.2 _ _ _ _⟩
set_option maxRecDepth 100000 in
theorem ptRead_range (a : Addr) (which : Int) (hw : which ≠ 0 ∧ which ≠ 1) (w : World) : Calls Try.prog 8 #[.iface 23 (.pointer (some a)), .int .i64 which] w fun e w' => e = .returned (.tuple #[.agg #[.int .u32 0, .int .u32 0, .slice none 0 0, .slice none 0 0], .bool false, .int .u32 0, .int .i64 34]) ∧ Below w.heap.size w w' := by
  obtain ⟨W1, hW1⟩ : ∃ x, x = w.alloc (.cells #[.int .u32 0, .int .u32 0, .slice none 0 0, .slice none 0 0] 31) := ⟨_, rfl⟩
  obtain ⟨p0, hp0⟩ : ∃ x, x = w.heap.size := ⟨_, rfl⟩
  have h0 : W1.heap[p0]? = some (.cells (pCs 0 0 (.slice none 0 0) (.slice none 0 0)) 31 (0, 0)) := by rw [hW1, hp0]; exact heap_alloc_new _ _
  have HB : Hid (Below w.heap.size w W1 ∧ w.heap.size ≤ p0) := Lib.hid ⟨by rw [hW1]; exact bel_alloc (Below.refl _ _) _, Nat.le_of_eq hp0.symm⟩
  obtain ⟨⟨z0, z1, z2, z3⟩, f0, f1, f2, f3⟩ := pt4_at h0
  have q0 : (which != 0) = true := by simpa using hw.1
  have q1 : (which != 1) = true := by simpa using hw.2
  clear h0 hw
  go_enter Try.func8, Try.ntmps8
  go_upto_region 1 with fail
  rw [← hW1, ← hp0]
  clear hW1 hp0
  go_wp2_with fail
  exact bodyPost_ret (v := .tuple #[.agg #[.int .u32 0, .int .u32 0, .slice none 0 0, .slice none 0 0], .bool false, .int .u32 0, .int .i64 34]) (by simp [results, Try.results8, go_sem, z0, z1, z2, z3]) rfl ⟨rfl, pt4_set HB.out.1 HB.out.2 _ _ _ _⟩
set_option maxRecDepth 100000 in
theorem ptWrite_nil (sq ba : Int) (v1 v2 : Value) (w : World) : Calls Try.prog 9 #[.nilIface, .agg #[.int .u32 sq, .int .u32 ba, v1, v2]] w fun e w' => e = .returned (.int .i64 60) ∧ Below w.heap.size w w' := by
  go_enter Try.func9, Try.ntmps9
  go_wp2_with fail
  exact bodyPost_ret (v := .int .i64 60) (by simp [results, Try.results9, go_sem]) rfl ⟨rfl, bel_alloc (bel_alloc (bel_alloc (Below.refl _ w) _) _) _⟩
set_option maxRecDepth 100000 in
set_option maxHeartbeats 4000000 in
theorem ptLast_nil (w : World) : Calls Try.prog 7 #[.nilIface] w fun e w' => e = .returned (.tuple #[.agg #[.int .u32 0, .int .u32 0, .slice none 0 0, .slice none 0 0], .bool false, .int .u32 0, .int .i64 60]) ∧ Below w.heap.size w w' := by
  obtain ⟨W1, hW1⟩ : ∃ x, x = w.alloc (.cells #[.int .u32 0, .int .u32 0, .slice none 0 0, .slice none 0 0] 31) := ⟨_, rfl⟩
  obtain ⟨p0, hp0⟩ : ∃ x, x = w.heap.size := ⟨_, rfl⟩
  have h0 : W1.heap[p0]? = some (.cells (pCs 0 0 (.slice none 0 0) (.slice none 0 0)) 31 (0, 0)) := by rw [hW1, hp0]; exact heap_alloc_new _ _
  have HB : Hid (Below w.heap.size w W1 ∧ w.heap.size ≤ p0 ∧ W1.heap[p0]? = some (.cells (pCs 0 0 (.slice none 0 0) (.slice none 0 0)) 31 (0, 0))) := Lib.hid ⟨by rw [hW1]; exact bel_alloc (Below.refl _ _) _, Nat.le_of_eq hp0.symm, h0⟩
  have HR := Lib.hid fun x : World => ptRead_nil 0 x
  clear h0
  go_enter Try.func7, Try.ntmps7
  go_wp2_with fail
  rw [← hW1, ← hp0]
  clear hW1 hp0
  go_loopw [11] (fun iv wr => iv = .int .i64 0 ∧ wr = W1) (fun _ _ => 0)
  case atStart => exact ⟨rfl, rfl⟩
  case round =>
    obtain ⟨rfl, rfl⟩ := hrel
    go_wp2_with fail
    ((with_reducible refine (HR.out _).mono ?_))
    rintro e w3 ⟨rfl, hb3⟩
    have hpl : p0 < wr.heap.size := (Array.getElem?_eq_some_iff.1 HB.out.2.2).1
    obtain ⟨W4, hW4⟩ : ∃ x, x = w3.alloc (.cells #[.int .u32 0, .int .u32 0, .slice none 0 0, .slice none 0 0] 31) := ⟨_, rfl⟩
    have hb4 : Below w3.heap.size w3 W4 := by rw [hW4]; exact bel_alloc (Below.refl _ _) _
    have hb34 : Below wr.heap.size wr W4 := bel_trans hb3 hb4
    obtain ⟨⟨z0, z1, z2, z3⟩, f0, f1, f2, f3⟩ := pt4_at ((hb34.block p0 hpl).trans HB.out.2.2)
    have HB4 := Lib.hid (HB.out.1.trans (hb34.mono HB.out.1.size))
    clear hb3 hb4 hb34 hpl
    go_upto_region 5 with fail
    rw [← hW4]
    clear hW4
    go_wp2_with fail
    exact bodyPost_ret (v := .tuple #[.agg #[.int .u32 0, .int .u32 0, .slice none 0 0, .slice none 0 0], .bool false, .int .u32 0, .int .i64 60]) (by simp [results, Try.results7, go_sem, z0, z1, z2, z3]) rfl ⟨rfl, pt4_set HB4.out HB.out.2.1 _ _ _ _⟩
end Go.Proofs.Ythgcjiocelcblaa

namespace Go.Proofs.Ythgcjiocelcblaa
open Go.RowKit Go.Deep

theorem rowU_lit {w : World} {b : Nat} (l : List Nat) (h : w.heap[b]? = some (.cells (valU l).toArray 28 (0, 0))) (hl : ∀ y ∈ l, y < 4294967296) : RowK .u32 4294967296 w (some ⟨b, 0, none⟩) l.length l := by
  refine ⟨rfl, hl, fun _ => ⟨b, 0, rfl, fun i hi => ?_⟩⟩
  have h1 : w.cell? ⟨b, 0 + i, none⟩ = (valU l).toArray[i]? := by simp [World.cell?, h]
  rw [h1]
  unfold valU
  rw [List.getElem?_toArray, List.getElem?_map, List.getElem?_eq_getElem hi, getD_in _ _ hi]
  rfl
theorem ptG_zero : ptG 0 = 3 := by
  unfold ptG
  rw [IntKind.wrap_u64, show ((0 : Int) % 18446744073709551616).tmod 3 = 0 by decide, IntWalk.wrap64_in 0 (by omega), IntWalk.wrap64_in _ (by omega)]
  rfl
theorem Mem2.below {B : Nat} {s s' : RS} {n k : Nat} {X : Nat → PtD} {w w' : World} (h : Mem2 B s n k X w) (hs : RStep s w s' w') : Below B w w' := hs.below h.ram h.hB
theorem rowU_nil (w : World) : RowK .u32 4294967296 w none 0 [] := ⟨rfl, (fun y hy => by cases hy), fun h => absurd h (by omega)⟩
set_option maxRecDepth 100000 in
set_option maxHeartbeats 4000000 in
theorem written_any (w : World) : Calls Try.prog 4 #[] w fun e w' => e = .returned (.bool true) ∧ Below w.heap.size w w' := by
  have HSH : Hid (Calls Try.prog 6 #[.int .i64 0] w fun e w' => e = .returned (.agg #[.int .i64 3, .int .i64 20, .int .i64 6, .int .i64 256]) ∧ Below w.heap.size w w') := Lib.hid (by have h := ptShape_any 0 w; rw [ptG_zero] at h; exact h)
  have HNEW : Hid (∀ x : World, Calls Try.prog 5 #[.agg #[.int .i64 3, .int .i64 20, .int .i64 6, .int .i64 256]] x (NewRet 3 20 6 256 x)) := Lib.hid fun x => ramNew_any 3 20 6 256 x (ptGood 3 (by omega))
  go_enter Try.func4, Try.ntmps4
  go_wp2_with fail
  ((with_reducible refine HSH.out.mono ?_))
  rintro e w1 ⟨rfl, hb1⟩
  have HB1 := Lib.hid hb1
  clear hb1
  go_wp2_with fail
  ((with_reducible refine (HNEW.out w1).mono ?_))
  rintro e w2 ⟨rb, pb, gb, rfl, hr, hb2⟩
  have HM2 := Lib.hid (mem2_new hr hb2.size (by omega))
  have HB2 := Lib.hid (HB1.out.trans (hb2.mono HB1.out.size))
  have hrb : (rsNew rb pb gb 3 20 6 256).rb = rb := rfl
  obtain ⟨s, hs⟩ : ∃ s, s = rsNew rb pb gb 3 20 6 256 := ⟨_, rfl⟩
  rw [← hs] at HM2 hrb
  subst hrb
  clear hr hb2 hs
  obtain ⟨w3, hw3⟩ : ∃ x, x = w2.alloc (.cells #[.int .u32 1, .int .u32 2] 28) := ⟨_, rfl⟩
  obtain ⟨a1, ha1⟩ : ∃ x, x = w2.heap.size := ⟨_, rfl⟩
  have hb3 : Below w2.heap.size w2 w3 := by rw [hw3]; exact bel_alloc (Below.refl _ _) _
  have hrow : RowK .u32 4294967296 w3 (some ⟨a1, 0, none⟩) 2 [1, 2] := by rw [ha1]; exact rowU_lit [1, 2] (by rw [hw3]; exact heap_alloc_new _ _) (by simp)
  have HM3 := Lib.hid (HM2.out.step hb3)
  have HW1 : Hid (Calls Try.prog 9 #[.iface 23 (.pointer (some ⟨s.rb, 0, none⟩)), .agg #[.int .u32 6, .int .u32 0, .slice (some ⟨a1, 0, none⟩) 2 2, .slice none 0 0]] w3 fun e w' =>
      ∃ s', e = .returned (.int .i64 0) ∧ Mem2 w1.heap.size s' 3 1 (setX (fun _ => PtD.zero) 0 ⟨true, 6, 0, [1, 2], [], 6⟩) w' ∧ RStep s w3 s' w') := Lib.hid (mem2_write HM3.out (by omega) 6 0 (some ⟨a1, 0, none⟩) 2 2 [1, 2] none 0 0 [] ⟨(show (6 : Nat) < 4294967296 by decide), (show (0 : Nat) < 4294967296 by decide), hrow, rowU_nil _⟩ (by omega) (by omega) (by decide))
  have HB3 := Lib.hid (HB2.out.trans (hb3.mono HB2.out.size))
  clear hb3 hrow
  go_wp2_with fail
  rw [← hw3, ← ha1]
  clear hw3 ha1
  ((with_reducible refine HW1.out.mono ?_))
  rintro e w4 ⟨s4, rfl, hM4, hst4⟩
  obtain ⟨hrb4, -⟩ := hst4.same
  rw [← hrb4]
  have HM4 := Lib.hid hM4
  have HB4 : Hid (Below w.heap.size w w4) := Lib.hid (HB3.out.trans ((HM3.out.below hst4).mono HB1.out.size))
  clear hst4 hM4 hrb4
  obtain ⟨w5, hw5⟩ : ∃ x, x = w4.alloc (.cells #[.int .u32 4] 28) := ⟨_, rfl⟩
  obtain ⟨w6, hw6⟩ : ∃ x, x = w5.alloc (.cells #[.int .u32 9] 28) := ⟨_, rfl⟩
  obtain ⟨a2, ha2⟩ : ∃ x, x = w4.heap.size := ⟨_, rfl⟩
  have hz5 : w5.heap.size = a2 + 1 := by rw [hw5, ha2]; simp
  have hb5 : Below w4.heap.size w4 w5 := by rw [hw5]; exact bel_alloc (Below.refl _ _) _
  have hb6 : Below w5.heap.size w5 w6 := by rw [hw6]; exact bel_alloc (Below.refl _ _) _
  have hb46 : Below w4.heap.size w4 w6 := hb5.trans (hb6.mono hb5.size)
  have hr5 : w6.heap[a2]? = some (.cells #[.int .u32 4] 28 (0, 0)) := (hb6.block a2 (by omega)).trans (by rw [hw5, ha2]; exact heap_alloc_new _ _)
  have hr6 : w6.heap[a2 + 1]? = some (.cells #[.int .u32 9] 28 (0, 0)) := by rw [hw6, ← hz5]; exact heap_alloc_new _ _
  have hrow5 : RowK .u32 4294967296 w6 (some ⟨a2, 0, none⟩) 1 [4] := rowU_lit [4] hr5 (by simp)
  have hrow6 : RowK .u32 4294967296 w6 (some ⟨a2 + 1, 0, none⟩) 1 [9] := rowU_lit [9] hr6 (by simp)
  have HM6 := Lib.hid (HM4.out.step hb46)
  have HW2 : Hid (Calls Try.prog 9 #[.iface 23 (.pointer (some ⟨s4.rb, 0, none⟩)), .agg #[.int .u32 7, .int .u32 3, .slice (some ⟨a2, 0, none⟩) 1 1, .slice (some ⟨a2 + 1, 0, none⟩) 1 1]] w6 fun e w' =>
      ∃ s', e = .returned (.int .i64 0) ∧ Mem2 w1.heap.size s' 3 2 (setX (setX (fun _ => PtD.zero) 0 ⟨true, 6, 0, [1, 2], [], 6⟩) 1 ⟨true, 7, 3, [4], [9], 7⟩) w' ∧ RStep s4 w6 s' w') := Lib.hid (mem2_write HM6.out (by omega) 7 3 (some ⟨a2, 0, none⟩) 1 1 [4] (some ⟨a2 + 1, 0, none⟩) 1 1 [9] ⟨(show (7 : Nat) < 4294967296 by decide), (show (3 : Nat) < 4294967296 by decide), hrow5, hrow6⟩ (by omega) (by omega) (by decide))
  have HB6 := Lib.hid (HB4.out.trans (hb46.mono HB4.out.size))
  clear hz5 hb5 hb6 hb46 hr5 hr6 hrow5 hrow6
  go_wp2_with fail
  rw [← hw5, ← hw6, ← ha2]
  clear hw5 hw6 ha2
  ((with_reducible refine HW2.out.mono ?_))
  rintro e w7 ⟨s7, rfl, hM7, hst7⟩
  obtain ⟨hrb7, -⟩ := hst7.same
  rw [← hrb7]
  have HM7 := Lib.hid hM7
  have HB7 : Hid (Below w.heap.size w w7) := Lib.hid (HB6.out.trans ((HM6.out.below hst7).mono HB1.out.size))
  clear hst7 hM7 hrb7
  have HLA : Hid (Calls Try.prog 7 #[.iface 23 (.pointer (some ⟨s7.rb, 0, none⟩))] w7 (RdIs true 7 3 [4] [9] 7 w7)) := Lib.hid (mem2_last HM7.out)
  go_wp2_with fail
  ((with_reducible refine HLA.out.mono ?_))
  rintro e w8 ⟨hb8, v1, v2, rfl, ho1, ho2⟩
  obtain ⟨qa, qc, rfl, hq⟩ := ownU_row ho1 (by simp)
  obtain ⟨ra, rn, rc, rfl⟩ := ownU_sl ho2
  obtain ⟨b, off, rfl, hcell⟩ := hq.2.2 (by decide)
  have hc0 : w8.cell? ⟨b, off, none⟩ = some (.int .u32 4) := hcell 0 (by decide)
  obtain ⟨w9, hw9⟩ : ∃ x, x = w8.alloc (.cells #[.int .u32 7, .int .u32 3, .slice (some ⟨b, off, none⟩) 1 qc, .slice ra rn rc] 31) := ⟨_, rfl⟩
  obtain ⟨pb9, hpb⟩ : ∃ x, x = w8.heap.size := ⟨_, rfl⟩
  have hb9 : Below w8.heap.size w8 w9 := by rw [hw9]; exact bel_alloc (Below.refl _ _) _
  have hp9 : w9.heap[pb9]? = some (.cells (pCs 7 3 (.slice (some ⟨b, off, none⟩) 1 qc) (.slice ra rn rc)) 31 (0, 0)) := by rw [hw9, hpb]; exact heap_alloc_new _ _
  obtain ⟨⟨z0, z1, z2, z3⟩, -⟩ := pt4_at hp9
  have c9 := cell_step hc0 hb9
  have HB9 := Lib.hid (HB7.out.trans ((hb8.trans (hb9.mono hb8.size)).mono HB7.out.size))
  clear ho1 ho2 hq hcell hc0 hb8 hb9 hp9
  go_upto_region 5 with fail
  rw [← hw9, ← hpb]
  clear hw9 hpb
  go_wp2_with fail
  go_ret
  exact ⟨rfl, HB9.out⟩
end Go.Proofs.Ythgcjiocelcblaa
