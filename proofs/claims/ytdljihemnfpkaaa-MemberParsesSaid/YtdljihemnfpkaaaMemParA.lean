/- member.Parse of any bytes. -/
import Derived.Test.YtdljihemnfpkaaaMemTakeD
import Derived.Test.YtdljihemnfpkaaaMemParse
namespace Go.Proofs.Ytdljihemnfpkaaa
open Go.RowKit Go.Deep

theorem bel_five {w w1 : World} (hb : Below w.heap.size w w1) (b : Nat) (h : w.heap.size ≤ b) (v0 v1 v2 v3 v4 : Value) : Below w.heap.size w (((((w1.setCell ⟨b, 0, none⟩ v0).setCell ⟨b, 1, none⟩ v1).setCell ⟨b, 2, none⟩ v2).setCell ⟨b, 3, none⟩ v3).setCell ⟨b, 4, none⟩ v4) :=
  ((((hb.setCell (p := ⟨b, 0, none⟩) h _).setCell (p := ⟨b, 1, none⟩) h _).setCell (p := ⟨b, 2, none⟩) h _).setCell (p := ⟨b, 3, none⟩) h _).setCell (p := ⟨b, 4, none⟩) h _
def MemParRet (w : World) (sq : Nat) (L : List Nat) (sp de dn : Nat) (code : Int) (e : Ending) (w' : World) : Prop :=
  ∃ cv, e = .returned (.tuple #[.agg #[.int .u32 (sq : Int), cv, .int .i64 (sp : Int), .int .i64 (de : Int), .int .i64 (dn : Int)], .int .i64 code]) ∧ OwnI w.heap.size w' cv (intsN L) ∧ Below w.heap.size w w'
set_option maxRecDepth 100000 in
set_option maxHeartbeats 2000000 in
theorem memPar_closed (ki ep ba ix ct bl mo n : Nat) (a a2 : Option Addr) (cap c2 : Nat) (w : World) (HOP : Hid (∀ x : World, Below w.heap.size w x → Calls Try.prog 24 #[.slice a 256 cap, .slice a2 64 c2] x fun e w' => e = .returned (.tuple #[.agg #[.int .u8 (ki : Int), .int .u32 (ep : Int), .int .u32 (ba : Int), .int .u16 (ix : Int), .int .u16 (ct : Int), .int .u32 (bl : Int), .int .u32 (mo : Int)], .bool false]) ∧ Below x.heap.size x w')) : Calls Try.prog 9 #[.agg #[.int .i64 (n : Int), .int .i64 20, .int .i64 6, .int .i64 256], .slice a 256 cap, .slice a2 64 c2] w (MemParRet w 0 [] 0 0 0 63) := by
  go_enter Try.func9, Try.ntmps9
  go_upto_region 1 with fail
  obtain ⟨w0, hw0⟩ : ∃ x, x = (w.alloc (.cells #[.int .i64 (n : Int), .int .i64 20, .int .i64 6, .int .i64 256] 27)).alloc (.cells #[.int .u32 0, .slice none 0 0, .int .i64 0, .int .i64 0, .int .i64 0] 31) := ⟨_, rfl⟩
  obtain ⟨b, hb⟩ : ∃ x, x = w.heap.size := ⟨_, rfl⟩
  have g0 : w0.heap[b]? = some (.cells #[.int .i64 (n : Int), .int .i64 20, .int .i64 6, .int .i64 256] 27 (0, 0)) := by
    rw [hw0, hb, heap_alloc_oldm (by simp)]; exact heap_alloc_new w _
  have r0 : w0.heap[b + 1]? = some (.cells #[.int .u32 0, .slice none 0 0, .int .i64 0, .int .i64 0, .int .i64 0] 31 (0, 0)) := by
    have := heap_alloc_new (w.alloc (.cells #[.int .i64 (n : Int), .int .i64 20, .int .i64 6, .int .i64 256] 27)) (.cells #[.int .u32 0, .slice none 0 0, .int .i64 0, .int .i64 0, .int .i64 0] 31)
    rw [hw0, hb]; simpa using this
  have HB0 : Hid (Below w.heap.size w w0) := Lib.hid (by rw [hw0]; exact bel_alloc (bel_alloc (Below.refl _ w) _) _)
  rw [← hw0, ← hb]
  have HBB := Lib.hid hb
  have G0 := Lib.hid (And.intro g0 r0)
  clear hw0 hb g0 r0
  go_wp2_with fail
  ((with_reducible refine (HOP.out _ HB0.out).mono ?_))
  rintro e w1 ⟨rfl, hb1⟩
  have G1 : Hid (w1.heap[b]? = some (.cells #[.int .i64 (n : Int), .int .i64 20, .int .i64 6, .int .i64 256] 27 (0, 0)) ∧ w1.heap[b + 1]? = some (.cells #[.int .u32 0, .slice none 0 0, .int .i64 0, .int .i64 0, .int .i64 0] 31 (0, 0))) := Lib.hid ⟨(hb1.block _ (Array.getElem?_eq_some_iff.1 G0.out.1).1).trans G0.out.1, (hb1.block _ (Array.getElem?_eq_some_iff.1 G0.out.2).1).trans G0.out.2⟩
  have HB1 : Hid (Below w.heap.size w w1) := Lib.hid (bel_trans HB0.out hb1)
  clear hb1 G0 HB0 HOP
  go_upto_region 2 with fail
  have h2 := heap_alloc_new w1 (.cells #[.int .u8 (ki : Int), .int .u32 (ep : Int), .int .u32 (ba : Int), .int .u16 (ix : Int), .int .u16 (ct : Int), .int .u32 (bl : Int), .int .u32 (mo : Int)] 66)
  have hb2 := bel_alloc (Below.refl w1.heap.size w1) (.cells #[.int .u8 (ki : Int), .int .u32 (ep : Int), .int .u32 (ba : Int), .int .u16 (ix : Int), .int .u16 (ct : Int), .int .u32 (bl : Int), .int .u32 (mo : Int)] 66)
  obtain ⟨w2, hw2⟩ : ∃ x, x = w1.alloc (.cells #[.int .u8 (ki : Int), .int .u32 (ep : Int), .int .u32 (ba : Int), .int .u16 (ix : Int), .int .u16 (ct : Int), .int .u32 (bl : Int), .int .u32 (mo : Int)] 66) := ⟨_, rfl⟩
  obtain ⟨hbk, hhb⟩ : ∃ x, x = w1.heap.size := ⟨_, rfl⟩
  rw [← hw2] at h2 hb2 ⊢
  rw [← hhb] at h2 ⊢
  have H2 := Lib.hid h2
  have G2 : Hid (w2.heap[b]? = some (.cells #[.int .i64 (n : Int), .int .i64 20, .int .i64 6, .int .i64 256] 27 (0, 0)) ∧ w2.heap[b + 1]? = some (.cells #[.int .u32 0, .slice none 0 0, .int .i64 0, .int .i64 0, .int .i64 0] 31 (0, 0))) := Lib.hid ⟨(hb2.block _ (Array.getElem?_eq_some_iff.1 G1.out.1).1).trans G1.out.1, (hb2.block _ (Array.getElem?_eq_some_iff.1 G1.out.2).1).trans G1.out.2⟩
  have HB2 : Hid (Below w.heap.size w w2) := Lib.hid (bel_trans HB1.out hb2)
  clear h2 hb2 hw2 hhb G1 HB1
  obtain ⟨d0, d1, d2, d3, d4⟩ := five_at G2.out.2
  have df := mfree_at G2.out.2
  have f0 := df 0
  have f1 := df 1
  have f2 := df 2
  have f3 := df 3
  have f4 := df 4
  clear df
  go_wp2_with fail
  all_goals
    refine bodyPost_ret (v := .tuple #[.agg #[.int .u32 0, .slice none 0 0, .int .i64 0, .int .i64 0, .int .i64 0], .int .i64 63]) ?_ rfl ⟨.slice none 0 0, rfl, ownI_nil _ _, ?_⟩
    · simp [results, Try.results9, go_sem, d0, d1, d2, d3, d4]
    · exact bel_five HB2.out (b + 1) (by have := HBB.out; omega) _ _ _ _ _
set_option maxRecDepth 100000 in
set_option maxHeartbeats 2000000 in
theorem memPar_kind (ki ep ba ix ct bl mo n : Nat) (a a2 : Option Addr) (cap c2 : Nat) (w : World) (hk : ki ≠ 2) (HOP : Hid (∀ x : World, Below w.heap.size w x → Calls Try.prog 24 #[.slice a 256 cap, .slice a2 64 c2] x fun e w' => e = .returned (.tuple #[.agg #[.int .u8 (ki : Int), .int .u32 (ep : Int), .int .u32 (ba : Int), .int .u16 (ix : Int), .int .u16 (ct : Int), .int .u32 (bl : Int), .int .u32 (mo : Int)], .bool true]) ∧ Below x.heap.size x w')) : Calls Try.prog 9 #[.agg #[.int .i64 (n : Int), .int .i64 20, .int .i64 6, .int .i64 256], .slice a 256 cap, .slice a2 64 c2] w (MemParRet w 0 [] 0 0 0 63) := by
  have t2 : ((ki : Int) != 2) = true := by simp; omega
  clear hk
  go_enter Try.func9, Try.ntmps9
  go_upto_region 1 with fail
  obtain ⟨w0, hw0⟩ : ∃ x, x = (w.alloc (.cells #[.int .i64 (n : Int), .int .i64 20, .int .i64 6, .int .i64 256] 27)).alloc (.cells #[.int .u32 0, .slice none 0 0, .int .i64 0, .int .i64 0, .int .i64 0] 31) := ⟨_, rfl⟩
  obtain ⟨b, hb⟩ : ∃ x, x = w.heap.size := ⟨_, rfl⟩
  have g0 : w0.heap[b]? = some (.cells #[.int .i64 (n : Int), .int .i64 20, .int .i64 6, .int .i64 256] 27 (0, 0)) := by
    rw [hw0, hb, heap_alloc_oldm (by simp)]; exact heap_alloc_new w _
  have r0 : w0.heap[b + 1]? = some (.cells #[.int .u32 0, .slice none 0 0, .int .i64 0, .int .i64 0, .int .i64 0] 31 (0, 0)) := by
    have := heap_alloc_new (w.alloc (.cells #[.int .i64 (n : Int), .int .i64 20, .int .i64 6, .int .i64 256] 27)) (.cells #[.int .u32 0, .slice none 0 0, .int .i64 0, .int .i64 0, .int .i64 0] 31)
    rw [hw0, hb]; simpa using this
  have HB0 : Hid (Below w.heap.size w w0) := Lib.hid (by rw [hw0]; exact bel_alloc (bel_alloc (Below.refl _ w) _) _)
  rw [← hw0, ← hb]
  have HBB := Lib.hid hb
  have G0 := Lib.hid (And.intro g0 r0)
  clear hw0 hb g0 r0
  go_wp2_with fail
  ((with_reducible refine (HOP.out _ HB0.out).mono ?_))
  rintro e w1 ⟨rfl, hb1⟩
  have G1 : Hid (w1.heap[b]? = some (.cells #[.int .i64 (n : Int), .int .i64 20, .int .i64 6, .int .i64 256] 27 (0, 0)) ∧ w1.heap[b + 1]? = some (.cells #[.int .u32 0, .slice none 0 0, .int .i64 0, .int .i64 0, .int .i64 0] 31 (0, 0))) := Lib.hid ⟨(hb1.block _ (Array.getElem?_eq_some_iff.1 G0.out.1).1).trans G0.out.1, (hb1.block _ (Array.getElem?_eq_some_iff.1 G0.out.2).1).trans G0.out.2⟩
  have HB1 : Hid (Below w.heap.size w w1) := Lib.hid (bel_trans HB0.out hb1)
  clear hb1 G0 HB0 HOP
  go_upto_region 2 with fail
  have h2 := heap_alloc_new w1 (.cells #[.int .u8 (ki : Int), .int .u32 (ep : Int), .int .u32 (ba : Int), .int .u16 (ix : Int), .int .u16 (ct : Int), .int .u32 (bl : Int), .int .u32 (mo : Int)] 66)
  have hb2 := bel_alloc (Below.refl w1.heap.size w1) (.cells #[.int .u8 (ki : Int), .int .u32 (ep : Int), .int .u32 (ba : Int), .int .u16 (ix : Int), .int .u16 (ct : Int), .int .u32 (bl : Int), .int .u32 (mo : Int)] 66)
  obtain ⟨w2, hw2⟩ : ∃ x, x = w1.alloc (.cells #[.int .u8 (ki : Int), .int .u32 (ep : Int), .int .u32 (ba : Int), .int .u16 (ix : Int), .int .u16 (ct : Int), .int .u32 (bl : Int), .int .u32 (mo : Int)] 66) := ⟨_, rfl⟩
  obtain ⟨hbk, hhb⟩ : ∃ x, x = w1.heap.size := ⟨_, rfl⟩
  rw [← hw2] at h2 hb2 ⊢
  rw [← hhb] at h2 ⊢
  have H2 := Lib.hid h2
  have G2 : Hid (w2.heap[b]? = some (.cells #[.int .i64 (n : Int), .int .i64 20, .int .i64 6, .int .i64 256] 27 (0, 0)) ∧ w2.heap[b + 1]? = some (.cells #[.int .u32 0, .slice none 0 0, .int .i64 0, .int .i64 0, .int .i64 0] 31 (0, 0))) := Lib.hid ⟨(hb2.block _ (Array.getElem?_eq_some_iff.1 G1.out.1).1).trans G1.out.1, (hb2.block _ (Array.getElem?_eq_some_iff.1 G1.out.2).1).trans G1.out.2⟩
  have HB2 : Hid (Below w.heap.size w w2) := Lib.hid (bel_trans HB1.out hb2)
  clear h2 hb2 hw2 hhb G1 HB1
  have hh0 := (hdr_cells (h := ⟨ki, ep, ba, ix, ct, bl, mo⟩) H2.out).1
  change w2.cell? ⟨hbk, 0, none⟩ = some (.int .u8 (ki : Int)) at hh0
  obtain ⟨d0, d1, d2, d3, d4⟩ := five_at G2.out.2
  have df := mfree_at G2.out.2
  have f0 := df 0
  have f1 := df 1
  have f2 := df 2
  have f3 := df 3
  have f4 := df 4
  clear df
  go_wp2_with fail
  all_goals
    refine bodyPost_ret (v := .tuple #[.agg #[.int .u32 0, .slice none 0 0, .int .i64 0, .int .i64 0, .int .i64 0], .int .i64 63]) ?_ rfl ⟨.slice none 0 0, rfl, ownI_nil _ _, ?_⟩
    · simp [results, Try.results9, go_sem, d0, d1, d2, d3, d4]
    · exact bel_five HB2.out (b + 1) (by have := HBB.out; omega) _ _ _ _ _
set_option maxRecDepth 100000 in
set_option maxHeartbeats 2000000 in
theorem memPar_take (ep ba ix ct bl mo n : Nat) (a a2 : Option Addr) (cap c2 : Nat) (w : World) (HOP : Hid (∀ x : World, Below w.heap.size w x → Calls Try.prog 24 #[.slice a 256 cap, .slice a2 64 c2] x fun e w' => e = .returned (.tuple #[.agg #[.int .u8 2, .int .u32 (ep : Int), .int .u32 (ba : Int), .int .u16 (ix : Int), .int .u16 (ct : Int), .int .u32 (bl : Int), .int .u32 (mo : Int)], .bool true]) ∧ Below x.heap.size x w')) (HTK : Hid (∀ x : World, Below w.heap.size w x → Calls Try.prog 25 #[.slice a 256 cap] x fun e w' => ∃ (s0 s1 s2 s3 q0 q1 q2 q3 : Int) (va : Option Addr) (vn vc : Nat), e = .returned (.tuple #[.agg #[.int .u32 s0, .slice va vn vc, .int .i64 s1, .int .i64 s2, .int .i64 s3], .agg #[.int .i64 q0, .int .i64 q1, .int .i64 q2, .int .i64 q3], .bool false]) ∧ Below x.heap.size x w')) : Calls Try.prog 9 #[.agg #[.int .i64 (n : Int), .int .i64 20, .int .i64 6, .int .i64 256], .slice a 256 cap, .slice a2 64 c2] w (MemParRet w 0 [] 0 0 0 62) := by
  go_enter Try.func9, Try.ntmps9
  go_upto_region 1 with fail
  obtain ⟨w0, hw0⟩ : ∃ x, x = (w.alloc (.cells #[.int .i64 (n : Int), .int .i64 20, .int .i64 6, .int .i64 256] 27)).alloc (.cells #[.int .u32 0, .slice none 0 0, .int .i64 0, .int .i64 0, .int .i64 0] 31) := ⟨_, rfl⟩
  obtain ⟨b, hb⟩ : ∃ x, x = w.heap.size := ⟨_, rfl⟩
  have g0 : w0.heap[b]? = some (.cells #[.int .i64 (n : Int), .int .i64 20, .int .i64 6, .int .i64 256] 27 (0, 0)) := by
    rw [hw0, hb, heap_alloc_oldm (by simp)]; exact heap_alloc_new w _
  have r0 : w0.heap[b + 1]? = some (.cells #[.int .u32 0, .slice none 0 0, .int .i64 0, .int .i64 0, .int .i64 0] 31 (0, 0)) := by
    have := heap_alloc_new (w.alloc (.cells #[.int .i64 (n : Int), .int .i64 20, .int .i64 6, .int .i64 256] 27)) (.cells #[.int .u32 0, .slice none 0 0, .int .i64 0, .int .i64 0, .int .i64 0] 31)
    rw [hw0, hb]; simpa using this
  have HB0 : Hid (Below w.heap.size w w0) := Lib.hid (by rw [hw0]; exact bel_alloc (bel_alloc (Below.refl _ w) _) _)
  rw [← hw0, ← hb]
  have HBB := Lib.hid hb
  have G0 := Lib.hid (And.intro g0 r0)
  clear hw0 hb g0 r0
  go_wp2_with fail
  ((with_reducible refine (HOP.out _ HB0.out).mono ?_))
  rintro e w1 ⟨rfl, hb1⟩
  have G1 : Hid (w1.heap[b]? = some (.cells #[.int .i64 (n : Int), .int .i64 20, .int .i64 6, .int .i64 256] 27 (0, 0)) ∧ w1.heap[b + 1]? = some (.cells #[.int .u32 0, .slice none 0 0, .int .i64 0, .int .i64 0, .int .i64 0] 31 (0, 0))) := Lib.hid ⟨(hb1.block _ (Array.getElem?_eq_some_iff.1 G0.out.1).1).trans G0.out.1, (hb1.block _ (Array.getElem?_eq_some_iff.1 G0.out.2).1).trans G0.out.2⟩
  have HB1 : Hid (Below w.heap.size w w1) := Lib.hid (bel_trans HB0.out hb1)
  clear hb1 G0 HB0 HOP
  go_upto_region 4 with fail
  have h2 := heap_alloc_new w1 (.cells #[.int .u8 2, .int .u32 (ep : Int), .int .u32 (ba : Int), .int .u16 (ix : Int), .int .u16 (ct : Int), .int .u32 (bl : Int), .int .u32 (mo : Int)] 66)
  have hb2 := bel_alloc (Below.refl w1.heap.size w1) (.cells #[.int .u8 2, .int .u32 (ep : Int), .int .u32 (ba : Int), .int .u16 (ix : Int), .int .u16 (ct : Int), .int .u32 (bl : Int), .int .u32 (mo : Int)] 66)
  obtain ⟨w2, hw2⟩ : ∃ x, x = w1.alloc (.cells #[.int .u8 2, .int .u32 (ep : Int), .int .u32 (ba : Int), .int .u16 (ix : Int), .int .u16 (ct : Int), .int .u32 (bl : Int), .int .u32 (mo : Int)] 66) := ⟨_, rfl⟩
  obtain ⟨hbk, hhb⟩ : ∃ x, x = w1.heap.size := ⟨_, rfl⟩
  rw [← hw2] at h2 hb2 ⊢
  rw [← hhb] at h2 ⊢
  have H2 := Lib.hid h2
  have G2 : Hid (w2.heap[b]? = some (.cells #[.int .i64 (n : Int), .int .i64 20, .int .i64 6, .int .i64 256] 27 (0, 0)) ∧ w2.heap[b + 1]? = some (.cells #[.int .u32 0, .slice none 0 0, .int .i64 0, .int .i64 0, .int .i64 0] 31 (0, 0))) := Lib.hid ⟨(hb2.block _ (Array.getElem?_eq_some_iff.1 G1.out.1).1).trans G1.out.1, (hb2.block _ (Array.getElem?_eq_some_iff.1 G1.out.2).1).trans G1.out.2⟩
  have HB2 : Hid (Below w.heap.size w w2) := Lib.hid (bel_trans HB1.out hb2)
  clear h2 hb2 hw2 hhb G1 HB1
  have hh0 := (hdr_cells (h := ⟨2, ep, ba, ix, ct, bl, mo⟩) H2.out).1
  change w2.cell? ⟨hbk, 0, none⟩ = some (.int .u8 2) at hh0
  go_wp2_with fail
  ((with_reducible refine (HTK.out _ HB2.out).mono ?_))
  rintro e w3 ⟨s0, s1, s2, s3, q0, q1, q2, q3, va, vn, vc, rfl, hb3⟩
  have r3 := (hb3.block _ (Array.getElem?_eq_some_iff.1 G2.out.2).1).trans G2.out.2
  have HB3 := Lib.hid (bel_trans HB2.out hb3)
  clear hb3 G2 H2 HB2 HTK hh0
  go_upto_region 5 with fail
  have hb4 := bel_alloc (bel_alloc (Below.refl w3.heap.size w3) (.cells #[.int .u32 s0, .slice va vn vc, .int .i64 s1, .int .i64 s2, .int .i64 s3] 31)) (.cells #[.int .i64 q0, .int .i64 q1, .int .i64 q2, .int .i64 q3] 27)
  obtain ⟨w4, hw4⟩ : ∃ x, x = (w3.alloc (.cells #[.int .u32 s0, .slice va vn vc, .int .i64 s1, .int .i64 s2, .int .i64 s3] 31)).alloc (.cells #[.int .i64 q0, .int .i64 q1, .int .i64 q2, .int .i64 q3] 27) := ⟨_, rfl⟩
  obtain ⟨q, hq4⟩ : ∃ x, x = w3.heap.size := ⟨_, rfl⟩
  rw [← hw4] at hb4 ⊢
  rw [← hq4]
  have r4 := (hb4.block _ (Array.getElem?_eq_some_iff.1 r3).1).trans r3
  have HB4 := Lib.hid (bel_trans HB3.out hb4)
  clear hw4 hq4 hb4 r3
  obtain ⟨d0, d1, d2, d3, d4⟩ := five_at r4
  have df := mfree_at r4
  have f0 := df 0
  have f1 := df 1
  have f2 := df 2
  have f3 := df 3
  have f4 := df 4
  clear df
  go_wp2_with fail
  all_goals
    refine bodyPost_ret (v := .tuple #[.agg #[.int .u32 0, .slice none 0 0, .int .i64 0, .int .i64 0, .int .i64 0], .int .i64 62]) ?_ rfl ⟨.slice none 0 0, rfl, ownI_nil _ _, ?_⟩
    · simp [results, Try.results9, go_sem, d0, d1, d2, d3, d4]
    · exact bel_five HB4.out (b + 1) (by have := HBB.out; omega) _ _ _ _ _
set_option maxRecDepth 100000 in
set_option maxHeartbeats 2000000 in
theorem memPar_geo0 (ep ba ix ct bl mo n : Nat) (a a2 : Option Addr) (cap c2 : Nat) (w : World) (L : List Nat) (sq sp de dn : Nat) (hL : ∀ x ∈ L, x < 256) (m y1 y2 y3 : Nat) (hLm : L.length = m) (hd : m ≠ n) (HOP : Hid (∀ x : World, Below w.heap.size w x → Calls Try.prog 24 #[.slice a 256 cap, .slice a2 64 c2] x fun e w' => e = .returned (.tuple #[.agg #[.int .u8 2, .int .u32 (ep : Int), .int .u32 (ba : Int), .int .u16 (ix : Int), .int .u16 (ct : Int), .int .u32 (bl : Int), .int .u32 (mo : Int)], .bool true]) ∧ Below x.heap.size x w')) (HTK : Hid (∀ x : World, Below w.heap.size w x → Calls Try.prog 25 #[.slice a 256 cap] x fun e w' => ∃ cv, e = .returned (.tuple #[.agg #[.int .u32 (sq : Int), cv, .int .i64 (sp : Int), .int .i64 (de : Int), .int .i64 (dn : Int)], .agg #[.int .i64 (m : Int), .int .i64 (y1 : Int), .int .i64 (y2 : Int), .int .i64 (y3 : Int)], .bool true]) ∧ OwnI x.heap.size w' cv (intsN L) ∧ Below x.heap.size x w')) : Calls Try.prog 9 #[.agg #[.int .i64 (n : Int), .int .i64 20, .int .i64 6, .int .i64 256], .slice a 256 cap, .slice a2 64 c2] w (MemParRet w 0 [] 0 0 0 62) := by
  have hz : ∀ z ∈ intsN L, -9223372036854775808 ≤ z ∧ z ≤ 9223372036854775807 := by
    intro z hz
    unfold intsN at hz
    rw [List.mem_map] at hz
    obtain ⟨y, hy, rfl⟩ := hz
    have := hL y hy
    omega
  have hil : (intsN L).length = m := by unfold intsN; rw [List.length_map, hLm]
  have HZ := Lib.hid (And.intro hz hil)
  clear hL hz hil
  have tn : ((m : Int) != (n : Int)) = true := by simp; omega
  clear hd hLm
  go_enter Try.func9, Try.ntmps9
  go_upto_region 1 with fail
  obtain ⟨w0, hw0⟩ : ∃ x, x = (w.alloc (.cells #[.int .i64 (n : Int), .int .i64 20, .int .i64 6, .int .i64 256] 27)).alloc (.cells #[.int .u32 0, .slice none 0 0, .int .i64 0, .int .i64 0, .int .i64 0] 31) := ⟨_, rfl⟩
  obtain ⟨b, hb⟩ : ∃ x, x = w.heap.size := ⟨_, rfl⟩
  have g0 : w0.heap[b]? = some (.cells #[.int .i64 (n : Int), .int .i64 20, .int .i64 6, .int .i64 256] 27 (0, 0)) := by
    rw [hw0, hb, heap_alloc_oldm (by simp)]; exact heap_alloc_new w _
  have r0 : w0.heap[b + 1]? = some (.cells #[.int .u32 0, .slice none 0 0, .int .i64 0, .int .i64 0, .int .i64 0] 31 (0, 0)) := by
    have := heap_alloc_new (w.alloc (.cells #[.int .i64 (n : Int), .int .i64 20, .int .i64 6, .int .i64 256] 27)) (.cells #[.int .u32 0, .slice none 0 0, .int .i64 0, .int .i64 0, .int .i64 0] 31)
    rw [hw0, hb]; simpa using this
  have HB0 : Hid (Below w.heap.size w w0) := Lib.hid (by rw [hw0]; exact bel_alloc (bel_alloc (Below.refl _ w) _) _)
  rw [← hw0, ← hb]
  have HBB := Lib.hid hb
  have G0 := Lib.hid (And.intro g0 r0)
  clear hw0 hb g0 r0
  go_wp2_with fail
  ((with_reducible refine (HOP.out _ HB0.out).mono ?_))
  rintro e w1 ⟨rfl, hb1⟩
  have G1 : Hid (w1.heap[b]? = some (.cells #[.int .i64 (n : Int), .int .i64 20, .int .i64 6, .int .i64 256] 27 (0, 0)) ∧ w1.heap[b + 1]? = some (.cells #[.int .u32 0, .slice none 0 0, .int .i64 0, .int .i64 0, .int .i64 0] 31 (0, 0))) := Lib.hid ⟨(hb1.block _ (Array.getElem?_eq_some_iff.1 G0.out.1).1).trans G0.out.1, (hb1.block _ (Array.getElem?_eq_some_iff.1 G0.out.2).1).trans G0.out.2⟩
  have HB1 : Hid (Below w.heap.size w w1) := Lib.hid (bel_trans HB0.out hb1)
  clear hb1 G0 HB0 HOP
  go_upto_region 4 with fail
  have h2 := heap_alloc_new w1 (.cells #[.int .u8 2, .int .u32 (ep : Int), .int .u32 (ba : Int), .int .u16 (ix : Int), .int .u16 (ct : Int), .int .u32 (bl : Int), .int .u32 (mo : Int)] 66)
  have hb2 := bel_alloc (Below.refl w1.heap.size w1) (.cells #[.int .u8 2, .int .u32 (ep : Int), .int .u32 (ba : Int), .int .u16 (ix : Int), .int .u16 (ct : Int), .int .u32 (bl : Int), .int .u32 (mo : Int)] 66)
  obtain ⟨w2, hw2⟩ : ∃ x, x = w1.alloc (.cells #[.int .u8 2, .int .u32 (ep : Int), .int .u32 (ba : Int), .int .u16 (ix : Int), .int .u16 (ct : Int), .int .u32 (bl : Int), .int .u32 (mo : Int)] 66) := ⟨_, rfl⟩
  obtain ⟨hbk, hhb⟩ : ∃ x, x = w1.heap.size := ⟨_, rfl⟩
  rw [← hw2] at h2 hb2 ⊢
  rw [← hhb] at h2 ⊢
  have H2 := Lib.hid h2
  have G2 : Hid (w2.heap[b]? = some (.cells #[.int .i64 (n : Int), .int .i64 20, .int .i64 6, .int .i64 256] 27 (0, 0)) ∧ w2.heap[b + 1]? = some (.cells #[.int .u32 0, .slice none 0 0, .int .i64 0, .int .i64 0, .int .i64 0] 31 (0, 0))) := Lib.hid ⟨(hb2.block _ (Array.getElem?_eq_some_iff.1 G1.out.1).1).trans G1.out.1, (hb2.block _ (Array.getElem?_eq_some_iff.1 G1.out.2).1).trans G1.out.2⟩
  have HB2 : Hid (Below w.heap.size w w2) := Lib.hid (bel_trans HB1.out hb2)
  clear h2 hb2 hw2 hhb G1 HB1
  have hh0 := (hdr_cells (h := ⟨2, ep, ba, ix, ct, bl, mo⟩) H2.out).1
  change w2.cell? ⟨hbk, 0, none⟩ = some (.int .u8 2) at hh0
  go_wp2_with fail
  ((with_reducible refine (HTK.out _ HB2.out).mono ?_))
  rintro e w3 ⟨cv, rfl, ho3, hb3⟩
  obtain ⟨va, vc, rfl, hrow3, _⟩ := ownI_row ho3 HZ.out.1
  rw [HZ.out.2] at hrow3 ⊢
  have HR3 := Lib.hid hrow3
  have HO3 := Lib.hid ho3
  have G3 : Hid (w3.heap[b]? = some (.cells #[.int .i64 (n : Int), .int .i64 20, .int .i64 6, .int .i64 256] 27 (0, 0)) ∧ w3.heap[b + 1]? = some (.cells #[.int .u32 0, .slice none 0 0, .int .i64 0, .int .i64 0, .int .i64 0] 31 (0, 0)) ∧ w3.heap[hbk]? = some (.cells #[.int .u8 2, .int .u32 (ep : Int), .int .u32 (ba : Int), .int .u16 (ix : Int), .int .u16 (ct : Int), .int .u32 (bl : Int), .int .u32 (mo : Int)] 66 (0, 0))) := Lib.hid ⟨(hb3.block _ (Array.getElem?_eq_some_iff.1 G2.out.1).1).trans G2.out.1, (hb3.block _ (Array.getElem?_eq_some_iff.1 G2.out.2).1).trans G2.out.2, (hb3.block _ (Array.getElem?_eq_some_iff.1 H2.out).1).trans H2.out⟩
  have HB3 : Hid (Below w.heap.size w w3 ∧ w.heap.size ≤ w2.heap.size ∧ b + 1 < w2.heap.size) := Lib.hid ⟨bel_trans HB2.out hb3, HB2.out.size, (Array.getElem?_eq_some_iff.1 G2.out.2).1⟩
  clear ho3 hrow3 hb3 G2 H2 HB2 HTK hh0
  go_upto_region 5 with fail
  have s4 : ((w3.alloc (.cells #[.int .u32 (sq : Int), .slice va m vc, .int .i64 (sp : Int), .int .i64 (de : Int), .int .i64 (dn : Int)] 31)).alloc (.cells #[.int .i64 (m : Int), .int .i64 (y1 : Int), .int .i64 (y2 : Int), .int .i64 (y3 : Int)] 27)).heap[w3.heap.size]? = some (.cells #[.int .u32 (sq : Int), .slice va m vc, .int .i64 (sp : Int), .int .i64 (de : Int), .int .i64 (dn : Int)] 31 (0, 0)) := by
    rw [heap_alloc_oldm (by simp)]; exact heap_alloc_new w3 _
  have k4 : ((w3.alloc (.cells #[.int .u32 (sq : Int), .slice va m vc, .int .i64 (sp : Int), .int .i64 (de : Int), .int .i64 (dn : Int)] 31)).alloc (.cells #[.int .i64 (m : Int), .int .i64 (y1 : Int), .int .i64 (y2 : Int), .int .i64 (y3 : Int)] 27)).heap[w3.heap.size + 1]? = some (.cells #[.int .i64 (m : Int), .int .i64 (y1 : Int), .int .i64 (y2 : Int), .int .i64 (y3 : Int)] 27 (0, 0)) := by
    have := heap_alloc_new (w3.alloc (.cells #[.int .u32 (sq : Int), .slice va m vc, .int .i64 (sp : Int), .int .i64 (de : Int), .int .i64 (dn : Int)] 31)) (.cells #[.int .i64 (m : Int), .int .i64 (y1 : Int), .int .i64 (y2 : Int), .int .i64 (y3 : Int)] 27)
    simpa using this
  have hb4 := bel_alloc (bel_alloc (Below.refl w3.heap.size w3) (.cells #[.int .u32 (sq : Int), .slice va m vc, .int .i64 (sp : Int), .int .i64 (de : Int), .int .i64 (dn : Int)] 31)) (.cells #[.int .i64 (m : Int), .int .i64 (y1 : Int), .int .i64 (y2 : Int), .int .i64 (y3 : Int)] 27)
  obtain ⟨w4, hw4⟩ : ∃ x, x = (w3.alloc (.cells #[.int .u32 (sq : Int), .slice va m vc, .int .i64 (sp : Int), .int .i64 (de : Int), .int .i64 (dn : Int)] 31)).alloc (.cells #[.int .i64 (m : Int), .int .i64 (y1 : Int), .int .i64 (y2 : Int), .int .i64 (y3 : Int)] 27) := ⟨_, rfl⟩
  obtain ⟨q, hq4⟩ : ∃ x, x = w3.heap.size := ⟨_, rfl⟩
  rw [← hw4] at s4 k4 hb4 ⊢
  rw [← hq4] at s4 k4 ⊢
  have HB4 := Lib.hid hb4
  have HS4 := Lib.hid s4
  have HK4 := Lib.hid k4
  have HG4 : Hid (w4.heap[b]? = some (.cells #[.int .i64 (n : Int), .int .i64 20, .int .i64 6, .int .i64 256] 27 (0, 0)) ∧ w4.heap[b + 1]? = some (.cells #[.int .u32 0, .slice none 0 0, .int .i64 0, .int .i64 0, .int .i64 0] 31 (0, 0)) ∧ w4.heap[hbk]? = some (.cells #[.int .u8 2, .int .u32 (ep : Int), .int .u32 (ba : Int), .int .u16 (ix : Int), .int .u16 (ct : Int), .int .u32 (bl : Int), .int .u32 (mo : Int)] 66 (0, 0))) := Lib.hid ⟨(hb4.block _ (Array.getElem?_eq_some_iff.1 G3.out.1).1).trans G3.out.1, (hb4.block _ (Array.getElem?_eq_some_iff.1 G3.out.2.1).1).trans G3.out.2.1, (hb4.block _ (Array.getElem?_eq_some_iff.1 G3.out.2.2).1).trans G3.out.2.2⟩
  have HR4 := Lib.hid (rowI_below HR3.out hb4)
  clear hw4 hq4 s4 k4 hb4 G3
  obtain ⟨z0, z1, z2, z3, z4⟩ := five_at HS4.out
  obtain ⟨k0, k1, k2, k3⟩ := mfour_at HK4.out
  obtain ⟨y0', y1', y2', y3'⟩ := mfour_at HG4.out.1
  have hh1 := (hdr_cells (h := ⟨2, ep, ba, ix, ct, bl, mo⟩) HG4.out.2.2).2.1
  change w4.cell? ⟨hbk, 1, none⟩ = some (.int .u32 (ep : Int)) at hh1
  obtain ⟨d0, d1, d2, d3, d4⟩ := five_at HG4.out.2.1
  have df := mfree_at HG4.out.2.1
  have f0 := df 0
  have f1 := df 1
  have f2 := df 2
  have f3 := df 3
  have f4 := df 4
  clear df
  go_wp2_with fail
  all_goals
    refine bodyPost_ret (v := .tuple #[.agg #[.int .u32 0, .slice none 0 0, .int .i64 0, .int .i64 0, .int .i64 0], .int .i64 62]) ?_ rfl ⟨.slice none 0 0, rfl, ownI_nil _ _, ?_⟩
    · simp [results, Try.results9, go_sem, d0, d1, d2, d3, d4]
    · exact bel_five (bel_trans HB3.out.1 HB4.out) (b + 1) (by have := HBB.out; omega) _ _ _ _ _
set_option maxRecDepth 100000 in
set_option maxHeartbeats 2000000 in
theorem memPar_geo1 (ep ba ix ct bl mo n : Nat) (a a2 : Option Addr) (cap c2 : Nat) (w : World) (L : List Nat) (sq sp de dn : Nat) (hL : ∀ x ∈ L, x < 256) (y1 y2 y3 : Nat) (hLm : L.length = n) (hd : y1 ≠ 20) (HOP : Hid (∀ x : World, Below w.heap.size w x → Calls Try.prog 24 #[.slice a 256 cap, .slice a2 64 c2] x fun e w' => e = .returned (.tuple #[.agg #[.int .u8 2, .int .u32 (ep : Int), .int .u32 (ba : Int), .int .u16 (ix : Int), .int .u16 (ct : Int), .int .u32 (bl : Int), .int .u32 (mo : Int)], .bool true]) ∧ Below x.heap.size x w')) (HTK : Hid (∀ x : World, Below w.heap.size w x → Calls Try.prog 25 #[.slice a 256 cap] x fun e w' => ∃ cv, e = .returned (.tuple #[.agg #[.int .u32 (sq : Int), cv, .int .i64 (sp : Int), .int .i64 (de : Int), .int .i64 (dn : Int)], .agg #[.int .i64 (n : Int), .int .i64 (y1 : Int), .int .i64 (y2 : Int), .int .i64 (y3 : Int)], .bool true]) ∧ OwnI x.heap.size w' cv (intsN L) ∧ Below x.heap.size x w')) : Calls Try.prog 9 #[.agg #[.int .i64 (n : Int), .int .i64 20, .int .i64 6, .int .i64 256], .slice a 256 cap, .slice a2 64 c2] w (MemParRet w 0 [] 0 0 0 62) := by
  have hz : ∀ z ∈ intsN L, -9223372036854775808 ≤ z ∧ z ≤ 9223372036854775807 := by
    intro z hz
    unfold intsN at hz
    rw [List.mem_map] at hz
    obtain ⟨y, hy, rfl⟩ := hz
    have := hL y hy
    omega
  have hil : (intsN L).length = n := by unfold intsN; rw [List.length_map, hLm]
  have HZ := Lib.hid (And.intro hz hil)
  clear hL hz hil
  have tn : ((n : Int) != (n : Int)) = false := by simp
  have tm : ((y1 : Int) != 20) = true := by simp; omega
  clear hd hLm
  go_enter Try.func9, Try.ntmps9
  go_upto_region 1 with fail
  obtain ⟨w0, hw0⟩ : ∃ x, x = (w.alloc (.cells #[.int .i64 (n : Int), .int .i64 20, .int .i64 6, .int .i64 256] 27)).alloc (.cells #[.int .u32 0, .slice none 0 0, .int .i64 0, .int .i64 0, .int .i64 0] 31) := ⟨_, rfl⟩
  obtain ⟨b, hb⟩ : ∃ x, x = w.heap.size := ⟨_, rfl⟩
  have g0 : w0.heap[b]? = some (.cells #[.int .i64 (n : Int), .int .i64 20, .int .i64 6, .int .i64 256] 27 (0, 0)) := by
    rw [hw0, hb, heap_alloc_oldm (by simp)]; exact heap_alloc_new w _
  have r0 : w0.heap[b + 1]? = some (.cells #[.int .u32 0, .slice none 0 0, .int .i64 0, .int .i64 0, .int .i64 0] 31 (0, 0)) := by
    have := heap_alloc_new (w.alloc (.cells #[.int .i64 (n : Int), .int .i64 20, .int .i64 6, .int .i64 256] 27)) (.cells #[.int .u32 0, .slice none 0 0, .int .i64 0, .int .i64 0, .int .i64 0] 31)
    rw [hw0, hb]; simpa using this
  have HB0 : Hid (Below w.heap.size w w0) := Lib.hid (by rw [hw0]; exact bel_alloc (bel_alloc (Below.refl _ w) _) _)
  rw [← hw0, ← hb]
  have HBB := Lib.hid hb
  have G0 := Lib.hid (And.intro g0 r0)
  clear hw0 hb g0 r0
  go_wp2_with fail
  ((with_reducible refine (HOP.out _ HB0.out).mono ?_))
  rintro e w1 ⟨rfl, hb1⟩
  have G1 : Hid (w1.heap[b]? = some (.cells #[.int .i64 (n : Int), .int .i64 20, .int .i64 6, .int .i64 256] 27 (0, 0)) ∧ w1.heap[b + 1]? = some (.cells #[.int .u32 0, .slice none 0 0, .int .i64 0, .int .i64 0, .int .i64 0] 31 (0, 0))) := Lib.hid ⟨(hb1.block _ (Array.getElem?_eq_some_iff.1 G0.out.1).1).trans G0.out.1, (hb1.block _ (Array.getElem?_eq_some_iff.1 G0.out.2).1).trans G0.out.2⟩
  have HB1 : Hid (Below w.heap.size w w1) := Lib.hid (bel_trans HB0.out hb1)
  clear hb1 G0 HB0 HOP
  go_upto_region 4 with fail
  have h2 := heap_alloc_new w1 (.cells #[.int .u8 2, .int .u32 (ep : Int), .int .u32 (ba : Int), .int .u16 (ix : Int), .int .u16 (ct : Int), .int .u32 (bl : Int), .int .u32 (mo : Int)] 66)
  have hb2 := bel_alloc (Below.refl w1.heap.size w1) (.cells #[.int .u8 2, .int .u32 (ep : Int), .int .u32 (ba : Int), .int .u16 (ix : Int), .int .u16 (ct : Int), .int .u32 (bl : Int), .int .u32 (mo : Int)] 66)
  obtain ⟨w2, hw2⟩ : ∃ x, x = w1.alloc (.cells #[.int .u8 2, .int .u32 (ep : Int), .int .u32 (ba : Int), .int .u16 (ix : Int), .int .u16 (ct : Int), .int .u32 (bl : Int), .int .u32 (mo : Int)] 66) := ⟨_, rfl⟩
  obtain ⟨hbk, hhb⟩ : ∃ x, x = w1.heap.size := ⟨_, rfl⟩
  rw [← hw2] at h2 hb2 ⊢
  rw [← hhb] at h2 ⊢
  have H2 := Lib.hid h2
  have G2 : Hid (w2.heap[b]? = some (.cells #[.int .i64 (n : Int), .int .i64 20, .int .i64 6, .int .i64 256] 27 (0, 0)) ∧ w2.heap[b + 1]? = some (.cells #[.int .u32 0, .slice none 0 0, .int .i64 0, .int .i64 0, .int .i64 0] 31 (0, 0))) := Lib.hid ⟨(hb2.block _ (Array.getElem?_eq_some_iff.1 G1.out.1).1).trans G1.out.1, (hb2.block _ (Array.getElem?_eq_some_iff.1 G1.out.2).1).trans G1.out.2⟩
  have HB2 : Hid (Below w.heap.size w w2) := Lib.hid (bel_trans HB1.out hb2)
  clear h2 hb2 hw2 hhb G1 HB1
  have hh0 := (hdr_cells (h := ⟨2, ep, ba, ix, ct, bl, mo⟩) H2.out).1
  change w2.cell? ⟨hbk, 0, none⟩ = some (.int .u8 2) at hh0
  go_wp2_with fail
  ((with_reducible refine (HTK.out _ HB2.out).mono ?_))
  rintro e w3 ⟨cv, rfl, ho3, hb3⟩
  obtain ⟨va, vc, rfl, hrow3, _⟩ := ownI_row ho3 HZ.out.1
  rw [HZ.out.2] at hrow3 ⊢
  have HR3 := Lib.hid hrow3
  have HO3 := Lib.hid ho3
  have G3 : Hid (w3.heap[b]? = some (.cells #[.int .i64 (n : Int), .int .i64 20, .int .i64 6, .int .i64 256] 27 (0, 0)) ∧ w3.heap[b + 1]? = some (.cells #[.int .u32 0, .slice none 0 0, .int .i64 0, .int .i64 0, .int .i64 0] 31 (0, 0)) ∧ w3.heap[hbk]? = some (.cells #[.int .u8 2, .int .u32 (ep : Int), .int .u32 (ba : Int), .int .u16 (ix : Int), .int .u16 (ct : Int), .int .u32 (bl : Int), .int .u32 (mo : Int)] 66 (0, 0))) := Lib.hid ⟨(hb3.block _ (Array.getElem?_eq_some_iff.1 G2.out.1).1).trans G2.out.1, (hb3.block _ (Array.getElem?_eq_some_iff.1 G2.out.2).1).trans G2.out.2, (hb3.block _ (Array.getElem?_eq_some_iff.1 H2.out).1).trans H2.out⟩
  have HB3 : Hid (Below w.heap.size w w3 ∧ w.heap.size ≤ w2.heap.size ∧ b + 1 < w2.heap.size) := Lib.hid ⟨bel_trans HB2.out hb3, HB2.out.size, (Array.getElem?_eq_some_iff.1 G2.out.2).1⟩
  clear ho3 hrow3 hb3 G2 H2 HB2 HTK hh0
  go_upto_region 5 with fail
  have s4 : ((w3.alloc (.cells #[.int .u32 (sq : Int), .slice va n vc, .int .i64 (sp : Int), .int .i64 (de : Int), .int .i64 (dn : Int)] 31)).alloc (.cells #[.int .i64 (n : Int), .int .i64 (y1 : Int), .int .i64 (y2 : Int), .int .i64 (y3 : Int)] 27)).heap[w3.heap.size]? = some (.cells #[.int .u32 (sq : Int), .slice va n vc, .int .i64 (sp : Int), .int .i64 (de : Int), .int .i64 (dn : Int)] 31 (0, 0)) := by
    rw [heap_alloc_oldm (by simp)]; exact heap_alloc_new w3 _
  have k4 : ((w3.alloc (.cells #[.int .u32 (sq : Int), .slice va n vc, .int .i64 (sp : Int), .int .i64 (de : Int), .int .i64 (dn : Int)] 31)).alloc (.cells #[.int .i64 (n : Int), .int .i64 (y1 : Int), .int .i64 (y2 : Int), .int .i64 (y3 : Int)] 27)).heap[w3.heap.size + 1]? = some (.cells #[.int .i64 (n : Int), .int .i64 (y1 : Int), .int .i64 (y2 : Int), .int .i64 (y3 : Int)] 27 (0, 0)) := by
    have := heap_alloc_new (w3.alloc (.cells #[.int .u32 (sq : Int), .slice va n vc, .int .i64 (sp : Int), .int .i64 (de : Int), .int .i64 (dn : Int)] 31)) (.cells #[.int .i64 (n : Int), .int .i64 (y1 : Int), .int .i64 (y2 : Int), .int .i64 (y3 : Int)] 27)
    simpa using this
  have hb4 := bel_alloc (bel_alloc (Below.refl w3.heap.size w3) (.cells #[.int .u32 (sq : Int), .slice va n vc, .int .i64 (sp : Int), .int .i64 (de : Int), .int .i64 (dn : Int)] 31)) (.cells #[.int .i64 (n : Int), .int .i64 (y1 : Int), .int .i64 (y2 : Int), .int .i64 (y3 : Int)] 27)
  obtain ⟨w4, hw4⟩ : ∃ x, x = (w3.alloc (.cells #[.int .u32 (sq : Int), .slice va n vc, .int .i64 (sp : Int), .int .i64 (de : Int), .int .i64 (dn : Int)] 31)).alloc (.cells #[.int .i64 (n : Int), .int .i64 (y1 : Int), .int .i64 (y2 : Int), .int .i64 (y3 : Int)] 27) := ⟨_, rfl⟩
  obtain ⟨q, hq4⟩ : ∃ x, x = w3.heap.size := ⟨_, rfl⟩
  rw [← hw4] at s4 k4 hb4 ⊢
  rw [← hq4] at s4 k4 ⊢
  have HB4 := Lib.hid hb4
  have HS4 := Lib.hid s4
  have HK4 := Lib.hid k4
  have HG4 : Hid (w4.heap[b]? = some (.cells #[.int .i64 (n : Int), .int .i64 20, .int .i64 6, .int .i64 256] 27 (0, 0)) ∧ w4.heap[b + 1]? = some (.cells #[.int .u32 0, .slice none 0 0, .int .i64 0, .int .i64 0, .int .i64 0] 31 (0, 0)) ∧ w4.heap[hbk]? = some (.cells #[.int .u8 2, .int .u32 (ep : Int), .int .u32 (ba : Int), .int .u16 (ix : Int), .int .u16 (ct : Int), .int .u32 (bl : Int), .int .u32 (mo : Int)] 66 (0, 0))) := Lib.hid ⟨(hb4.block _ (Array.getElem?_eq_some_iff.1 G3.out.1).1).trans G3.out.1, (hb4.block _ (Array.getElem?_eq_some_iff.1 G3.out.2.1).1).trans G3.out.2.1, (hb4.block _ (Array.getElem?_eq_some_iff.1 G3.out.2.2).1).trans G3.out.2.2⟩
  have HR4 := Lib.hid (rowI_below HR3.out hb4)
  clear hw4 hq4 s4 k4 hb4 G3
  obtain ⟨z0, z1, z2, z3, z4⟩ := five_at HS4.out
  obtain ⟨k0, k1, k2, k3⟩ := mfour_at HK4.out
  obtain ⟨y0', y1', y2', y3'⟩ := mfour_at HG4.out.1
  have hh1 := (hdr_cells (h := ⟨2, ep, ba, ix, ct, bl, mo⟩) HG4.out.2.2).2.1
  change w4.cell? ⟨hbk, 1, none⟩ = some (.int .u32 (ep : Int)) at hh1
  obtain ⟨d0, d1, d2, d3, d4⟩ := five_at HG4.out.2.1
  have df := mfree_at HG4.out.2.1
  have f0 := df 0
  have f1 := df 1
  have f2 := df 2
  have f3 := df 3
  have f4 := df 4
  clear df
  go_wp2_with fail
  all_goals
    refine bodyPost_ret (v := .tuple #[.agg #[.int .u32 0, .slice none 0 0, .int .i64 0, .int .i64 0, .int .i64 0], .int .i64 62]) ?_ rfl ⟨.slice none 0 0, rfl, ownI_nil _ _, ?_⟩
    · simp [results, Try.results9, go_sem, d0, d1, d2, d3, d4]
    · exact bel_five (bel_trans HB3.out.1 HB4.out) (b + 1) (by have := HBB.out; omega) _ _ _ _ _
set_option maxRecDepth 100000 in
set_option maxHeartbeats 2000000 in
theorem memPar_geo2 (ep ba ix ct bl mo n : Nat) (a a2 : Option Addr) (cap c2 : Nat) (w : World) (L : List Nat) (sq sp de dn : Nat) (hL : ∀ x ∈ L, x < 256) (y2 y3 : Nat) (hLm : L.length = n) (hd : y2 ≠ 6) (HOP : Hid (∀ x : World, Below w.heap.size w x → Calls Try.prog 24 #[.slice a 256 cap, .slice a2 64 c2] x fun e w' => e = .returned (.tuple #[.agg #[.int .u8 2, .int .u32 (ep : Int), .int .u32 (ba : Int), .int .u16 (ix : Int), .int .u16 (ct : Int), .int .u32 (bl : Int), .int .u32 (mo : Int)], .bool true]) ∧ Below x.heap.size x w')) (HTK : Hid (∀ x : World, Below w.heap.size w x → Calls Try.prog 25 #[.slice a 256 cap] x fun e w' => ∃ cv, e = .returned (.tuple #[.agg #[.int .u32 (sq : Int), cv, .int .i64 (sp : Int), .int .i64 (de : Int), .int .i64 (dn : Int)], .agg #[.int .i64 (n : Int), .int .i64 20, .int .i64 (y2 : Int), .int .i64 (y3 : Int)], .bool true]) ∧ OwnI x.heap.size w' cv (intsN L) ∧ Below x.heap.size x w')) : Calls Try.prog 9 #[.agg #[.int .i64 (n : Int), .int .i64 20, .int .i64 6, .int .i64 256], .slice a 256 cap, .slice a2 64 c2] w (MemParRet w 0 [] 0 0 0 62) := by
  have hz : ∀ z ∈ intsN L, -9223372036854775808 ≤ z ∧ z ≤ 9223372036854775807 := by
    intro z hz
    unfold intsN at hz
    rw [List.mem_map] at hz
    obtain ⟨y, hy, rfl⟩ := hz
    have := hL y hy
    omega
  have hil : (intsN L).length = n := by unfold intsN; rw [List.length_map, hLm]
  have HZ := Lib.hid (And.intro hz hil)
  clear hL hz hil
  have tn : ((n : Int) != (n : Int)) = false := by simp
  have tm : ((y2 : Int) != 6) = true := by simp; omega
  clear hd hLm
  go_enter Try.func9, Try.ntmps9
  go_upto_region 1 with fail
  obtain ⟨w0, hw0⟩ : ∃ x, x = (w.alloc (.cells #[.int .i64 (n : Int), .int .i64 20, .int .i64 6, .int .i64 256] 27)).alloc (.cells #[.int .u32 0, .slice none 0 0, .int .i64 0, .int .i64 0, .int .i64 0] 31) := ⟨_, rfl⟩
  obtain ⟨b, hb⟩ : ∃ x, x = w.heap.size := ⟨_, rfl⟩
  have g0 : w0.heap[b]? = some (.cells #[.int .i64 (n : Int), .int .i64 20, .int .i64 6, .int .i64 256] 27 (0, 0)) := by
    rw [hw0, hb, heap_alloc_oldm (by simp)]; exact heap_alloc_new w _
  have r0 : w0.heap[b + 1]? = some (.cells #[.int .u32 0, .slice none 0 0, .int .i64 0, .int .i64 0, .int .i64 0] 31 (0, 0)) := by
    have := heap_alloc_new (w.alloc (.cells #[.int .i64 (n : Int), .int .i64 20, .int .i64 6, .int .i64 256] 27)) (.cells #[.int .u32 0, .slice none 0 0, .int .i64 0, .int .i64 0, .int .i64 0] 31)
    rw [hw0, hb]; simpa using this
  have HB0 : Hid (Below w.heap.size w w0) := Lib.hid (by rw [hw0]; exact bel_alloc (bel_alloc (Below.refl _ w) _) _)
  rw [← hw0, ← hb]
  have HBB := Lib.hid hb
  have G0 := Lib.hid (And.intro g0 r0)
  clear hw0 hb g0 r0
  go_wp2_with fail
  ((with_reducible refine (HOP.out _ HB0.out).mono ?_))
  rintro e w1 ⟨rfl, hb1⟩
  have G1 : Hid (w1.heap[b]? = some (.cells #[.int .i64 (n : Int), .int .i64 20, .int .i64 6, .int .i64 256] 27 (0, 0)) ∧ w1.heap[b + 1]? = some (.cells #[.int .u32 0, .slice none 0 0, .int .i64 0, .int .i64 0, .int .i64 0] 31 (0, 0))) := Lib.hid ⟨(hb1.block _ (Array.getElem?_eq_some_iff.1 G0.out.1).1).trans G0.out.1, (hb1.block _ (Array.getElem?_eq_some_iff.1 G0.out.2).1).trans G0.out.2⟩
  have HB1 : Hid (Below w.heap.size w w1) := Lib.hid (bel_trans HB0.out hb1)
  clear hb1 G0 HB0 HOP
  go_upto_region 4 with fail
  have h2 := heap_alloc_new w1 (.cells #[.int .u8 2, .int .u32 (ep : Int), .int .u32 (ba : Int), .int .u16 (ix : Int), .int .u16 (ct : Int), .int .u32 (bl : Int), .int .u32 (mo : Int)] 66)
  have hb2 := bel_alloc (Below.refl w1.heap.size w1) (.cells #[.int .u8 2, .int .u32 (ep : Int), .int .u32 (ba : Int), .int .u16 (ix : Int), .int .u16 (ct : Int), .int .u32 (bl : Int), .int .u32 (mo : Int)] 66)
  obtain ⟨w2, hw2⟩ : ∃ x, x = w1.alloc (.cells #[.int .u8 2, .int .u32 (ep : Int), .int .u32 (ba : Int), .int .u16 (ix : Int), .int .u16 (ct : Int), .int .u32 (bl : Int), .int .u32 (mo : Int)] 66) := ⟨_, rfl⟩
  obtain ⟨hbk, hhb⟩ : ∃ x, x = w1.heap.size := ⟨_, rfl⟩
  rw [← hw2] at h2 hb2 ⊢
  rw [← hhb] at h2 ⊢
  have H2 := Lib.hid h2
  have G2 : Hid (w2.heap[b]? = some (.cells #[.int .i64 (n : Int), .int .i64 20, .int .i64 6, .int .i64 256] 27 (0, 0)) ∧ w2.heap[b + 1]? = some (.cells #[.int .u32 0, .slice none 0 0, .int .i64 0, .int .i64 0, .int .i64 0] 31 (0, 0))) := Lib.hid ⟨(hb2.block _ (Array.getElem?_eq_some_iff.1 G1.out.1).1).trans G1.out.1, (hb2.block _ (Array.getElem?_eq_some_iff.1 G1.out.2).1).trans G1.out.2⟩
  have HB2 : Hid (Below w.heap.size w w2) := Lib.hid (bel_trans HB1.out hb2)
  clear h2 hb2 hw2 hhb G1 HB1
  have hh0 := (hdr_cells (h := ⟨2, ep, ba, ix, ct, bl, mo⟩) H2.out).1
  change w2.cell? ⟨hbk, 0, none⟩ = some (.int .u8 2) at hh0
  go_wp2_with fail
  ((with_reducible refine (HTK.out _ HB2.out).mono ?_))
  rintro e w3 ⟨cv, rfl, ho3, hb3⟩
  obtain ⟨va, vc, rfl, hrow3, _⟩ := ownI_row ho3 HZ.out.1
  rw [HZ.out.2] at hrow3 ⊢
  have HR3 := Lib.hid hrow3
  have HO3 := Lib.hid ho3
  have G3 : Hid (w3.heap[b]? = some (.cells #[.int .i64 (n : Int), .int .i64 20, .int .i64 6, .int .i64 256] 27 (0, 0)) ∧ w3.heap[b + 1]? = some (.cells #[.int .u32 0, .slice none 0 0, .int .i64 0, .int .i64 0, .int .i64 0] 31 (0, 0)) ∧ w3.heap[hbk]? = some (.cells #[.int .u8 2, .int .u32 (ep : Int), .int .u32 (ba : Int), .int .u16 (ix : Int), .int .u16 (ct : Int), .int .u32 (bl : Int), .int .u32 (mo : Int)] 66 (0, 0))) := Lib.hid ⟨(hb3.block _ (Array.getElem?_eq_some_iff.1 G2.out.1).1).trans G2.out.1, (hb3.block _ (Array.getElem?_eq_some_iff.1 G2.out.2).1).trans G2.out.2, (hb3.block _ (Array.getElem?_eq_some_iff.1 H2.out).1).trans H2.out⟩
  have HB3 : Hid (Below w.heap.size w w3 ∧ w.heap.size ≤ w2.heap.size ∧ b + 1 < w2.heap.size) := Lib.hid ⟨bel_trans HB2.out hb3, HB2.out.size, (Array.getElem?_eq_some_iff.1 G2.out.2).1⟩
  clear ho3 hrow3 hb3 G2 H2 HB2 HTK hh0
  go_upto_region 5 with fail
  have s4 : ((w3.alloc (.cells #[.int .u32 (sq : Int), .slice va n vc, .int .i64 (sp : Int), .int .i64 (de : Int), .int .i64 (dn : Int)] 31)).alloc (.cells #[.int .i64 (n : Int), .int .i64 20, .int .i64 (y2 : Int), .int .i64 (y3 : Int)] 27)).heap[w3.heap.size]? = some (.cells #[.int .u32 (sq : Int), .slice va n vc, .int .i64 (sp : Int), .int .i64 (de : Int), .int .i64 (dn : Int)] 31 (0, 0)) := by
    rw [heap_alloc_oldm (by simp)]; exact heap_alloc_new w3 _
  have k4 : ((w3.alloc (.cells #[.int .u32 (sq : Int), .slice va n vc, .int .i64 (sp : Int), .int .i64 (de : Int), .int .i64 (dn : Int)] 31)).alloc (.cells #[.int .i64 (n : Int), .int .i64 20, .int .i64 (y2 : Int), .int .i64 (y3 : Int)] 27)).heap[w3.heap.size + 1]? = some (.cells #[.int .i64 (n : Int), .int .i64 20, .int .i64 (y2 : Int), .int .i64 (y3 : Int)] 27 (0, 0)) := by
    have := heap_alloc_new (w3.alloc (.cells #[.int .u32 (sq : Int), .slice va n vc, .int .i64 (sp : Int), .int .i64 (de : Int), .int .i64 (dn : Int)] 31)) (.cells #[.int .i64 (n : Int), .int .i64 20, .int .i64 (y2 : Int), .int .i64 (y3 : Int)] 27)
    simpa using this
  have hb4 := bel_alloc (bel_alloc (Below.refl w3.heap.size w3) (.cells #[.int .u32 (sq : Int), .slice va n vc, .int .i64 (sp : Int), .int .i64 (de : Int), .int .i64 (dn : Int)] 31)) (.cells #[.int .i64 (n : Int), .int .i64 20, .int .i64 (y2 : Int), .int .i64 (y3 : Int)] 27)
  obtain ⟨w4, hw4⟩ : ∃ x, x = (w3.alloc (.cells #[.int .u32 (sq : Int), .slice va n vc, .int .i64 (sp : Int), .int .i64 (de : Int), .int .i64 (dn : Int)] 31)).alloc (.cells #[.int .i64 (n : Int), .int .i64 20, .int .i64 (y2 : Int), .int .i64 (y3 : Int)] 27) := ⟨_, rfl⟩
  obtain ⟨q, hq4⟩ : ∃ x, x = w3.heap.size := ⟨_, rfl⟩
  rw [← hw4] at s4 k4 hb4 ⊢
  rw [← hq4] at s4 k4 ⊢
  have HB4 := Lib.hid hb4
  have HS4 := Lib.hid s4
  have HK4 := Lib.hid k4
  have HG4 : Hid (w4.heap[b]? = some (.cells #[.int .i64 (n : Int), .int .i64 20, .int .i64 6, .int .i64 256] 27 (0, 0)) ∧ w4.heap[b + 1]? = some (.cells #[.int .u32 0, .slice none 0 0, .int .i64 0, .int .i64 0, .int .i64 0] 31 (0, 0)) ∧ w4.heap[hbk]? = some (.cells #[.int .u8 2, .int .u32 (ep : Int), .int .u32 (ba : Int), .int .u16 (ix : Int), .int .u16 (ct : Int), .int .u32 (bl : Int), .int .u32 (mo : Int)] 66 (0, 0))) := Lib.hid ⟨(hb4.block _ (Array.getElem?_eq_some_iff.1 G3.out.1).1).trans G3.out.1, (hb4.block _ (Array.getElem?_eq_some_iff.1 G3.out.2.1).1).trans G3.out.2.1, (hb4.block _ (Array.getElem?_eq_some_iff.1 G3.out.2.2).1).trans G3.out.2.2⟩
  have HR4 := Lib.hid (rowI_below HR3.out hb4)
  clear hw4 hq4 s4 k4 hb4 G3
  obtain ⟨z0, z1, z2, z3, z4⟩ := five_at HS4.out
  obtain ⟨k0, k1, k2, k3⟩ := mfour_at HK4.out
  obtain ⟨y0', y1', y2', y3'⟩ := mfour_at HG4.out.1
  have hh1 := (hdr_cells (h := ⟨2, ep, ba, ix, ct, bl, mo⟩) HG4.out.2.2).2.1
  change w4.cell? ⟨hbk, 1, none⟩ = some (.int .u32 (ep : Int)) at hh1
  obtain ⟨d0, d1, d2, d3, d4⟩ := five_at HG4.out.2.1
  have df := mfree_at HG4.out.2.1
  have f0 := df 0
  have f1 := df 1
  have f2 := df 2
  have f3 := df 3
  have f4 := df 4
  clear df
  go_wp2_with fail
  all_goals
    refine bodyPost_ret (v := .tuple #[.agg #[.int .u32 0, .slice none 0 0, .int .i64 0, .int .i64 0, .int .i64 0], .int .i64 62]) ?_ rfl ⟨.slice none 0 0, rfl, ownI_nil _ _, ?_⟩
    · simp [results, Try.results9, go_sem, d0, d1, d2, d3, d4]
    · exact bel_five (bel_trans HB3.out.1 HB4.out) (b + 1) (by have := HBB.out; omega) _ _ _ _ _
set_option maxRecDepth 100000 in
set_option maxHeartbeats 2000000 in
theorem memPar_geo3 (ep ba ix ct bl mo n : Nat) (a a2 : Option Addr) (cap c2 : Nat) (w : World) (L : List Nat) (sq sp de dn : Nat) (hL : ∀ x ∈ L, x < 256) (y3 : Nat) (hLm : L.length = n) (hd : y3 ≠ 256) (HOP : Hid (∀ x : World, Below w.heap.size w x → Calls Try.prog 24 #[.slice a 256 cap, .slice a2 64 c2] x fun e w' => e = .returned (.tuple #[.agg #[.int .u8 2, .int .u32 (ep : Int), .int .u32 (ba : Int), .int .u16 (ix : Int), .int .u16 (ct : Int), .int .u32 (bl : Int), .int .u32 (mo : Int)], .bool true]) ∧ Below x.heap.size x w')) (HTK : Hid (∀ x : World, Below w.heap.size w x → Calls Try.prog 25 #[.slice a 256 cap] x fun e w' => ∃ cv, e = .returned (.tuple #[.agg #[.int .u32 (sq : Int), cv, .int .i64 (sp : Int), .int .i64 (de : Int), .int .i64 (dn : Int)], .agg #[.int .i64 (n : Int), .int .i64 20, .int .i64 6, .int .i64 (y3 : Int)], .bool true]) ∧ OwnI x.heap.size w' cv (intsN L) ∧ Below x.heap.size x w')) : Calls Try.prog 9 #[.agg #[.int .i64 (n : Int), .int .i64 20, .int .i64 6, .int .i64 256], .slice a 256 cap, .slice a2 64 c2] w (MemParRet w 0 [] 0 0 0 62) := by
  have hz : ∀ z ∈ intsN L, -9223372036854775808 ≤ z ∧ z ≤ 9223372036854775807 := by
    intro z hz
    unfold intsN at hz
    rw [List.mem_map] at hz
    obtain ⟨y, hy, rfl⟩ := hz
    have := hL y hy
    omega
  have hil : (intsN L).length = n := by unfold intsN; rw [List.length_map, hLm]
  have HZ := Lib.hid (And.intro hz hil)
  clear hL hz hil
  have tn : ((n : Int) != (n : Int)) = false := by simp
  have tm : ((y3 : Int) != 256) = true := by simp; omega
  clear hd hLm
  go_enter Try.func9, Try.ntmps9
  go_upto_region 1 with fail
  obtain ⟨w0, hw0⟩ : ∃ x, x = (w.alloc (.cells #[.int .i64 (n : Int), .int .i64 20, .int .i64 6, .int .i64 256] 27)).alloc (.cells #[.int .u32 0, .slice none 0 0, .int .i64 0, .int .i64 0, .int .i64 0] 31) := ⟨_, rfl⟩
  obtain ⟨b, hb⟩ : ∃ x, x = w.heap.size := ⟨_, rfl⟩
  have g0 : w0.heap[b]? = some (.cells #[.int .i64 (n : Int), .int .i64 20, .int .i64 6, .int .i64 256] 27 (0, 0)) := by
    rw [hw0, hb, heap_alloc_oldm (by simp)]; exact heap_alloc_new w _
  have r0 : w0.heap[b + 1]? = some (.cells #[.int .u32 0, .slice none 0 0, .int .i64 0, .int .i64 0, .int .i64 0] 31 (0, 0)) := by
    have := heap_alloc_new (w.alloc (.cells #[.int .i64 (n : Int), .int .i64 20, .int .i64 6, .int .i64 256] 27)) (.cells #[.int .u32 0, .slice none 0 0, .int .i64 0, .int .i64 0, .int .i64 0] 31)
    rw [hw0, hb]; simpa using this
  have HB0 : Hid (Below w.heap.size w w0) := Lib.hid (by rw [hw0]; exact bel_alloc (bel_alloc (Below.refl _ w) _) _)
  rw [← hw0, ← hb]
  have HBB := Lib.hid hb
  have G0 := Lib.hid (And.intro g0 r0)
  clear hw0 hb g0 r0
  go_wp2_with fail
  ((with_reducible refine (HOP.out _ HB0.out).mono ?_))
  rintro e w1 ⟨rfl, hb1⟩
  have G1 : Hid (w1.heap[b]? = some (.cells #[.int .i64 (n : Int), .int .i64 20, .int .i64 6, .int .i64 256] 27 (0, 0)) ∧ w1.heap[b + 1]? = some (.cells #[.int .u32 0, .slice none 0 0, .int .i64 0, .int .i64 0, .int .i64 0] 31 (0, 0))) := Lib.hid ⟨(hb1.block _ (Array.getElem?_eq_some_iff.1 G0.out.1).1).trans G0.out.1, (hb1.block _ (Array.getElem?_eq_some_iff.1 G0.out.2).1).trans G0.out.2⟩
  have HB1 : Hid (Below w.heap.size w w1) := Lib.hid (bel_trans HB0.out hb1)
  clear hb1 G0 HB0 HOP
  go_upto_region 4 with fail
  have h2 := heap_alloc_new w1 (.cells #[.int .u8 2, .int .u32 (ep : Int), .int .u32 (ba : Int), .int .u16 (ix : Int), .int .u16 (ct : Int), .int .u32 (bl : Int), .int .u32 (mo : Int)] 66)
  have hb2 := bel_alloc (Below.refl w1.heap.size w1) (.cells #[.int .u8 2, .int .u32 (ep : Int), .int .u32 (ba : Int), .int .u16 (ix : Int), .int .u16 (ct : Int), .int .u32 (bl : Int), .int .u32 (mo : Int)] 66)
  obtain ⟨w2, hw2⟩ : ∃ x, x = w1.alloc (.cells #[.int .u8 2, .int .u32 (ep : Int), .int .u32 (ba : Int), .int .u16 (ix : Int), .int .u16 (ct : Int), .int .u32 (bl : Int), .int .u32 (mo : Int)] 66) := ⟨_, rfl⟩
  obtain ⟨hbk, hhb⟩ : ∃ x, x = w1.heap.size := ⟨_, rfl⟩
  rw [← hw2] at h2 hb2 ⊢
  rw [← hhb] at h2 ⊢
  have H2 := Lib.hid h2
  have G2 : Hid (w2.heap[b]? = some (.cells #[.int .i64 (n : Int), .int .i64 20, .int .i64 6, .int .i64 256] 27 (0, 0)) ∧ w2.heap[b + 1]? = some (.cells #[.int .u32 0, .slice none 0 0, .int .i64 0, .int .i64 0, .int .i64 0] 31 (0, 0))) := Lib.hid ⟨(hb2.block _ (Array.getElem?_eq_some_iff.1 G1.out.1).1).trans G1.out.1, (hb2.block _ (Array.getElem?_eq_some_iff.1 G1.out.2).1).trans G1.out.2⟩
  have HB2 : Hid (Below w.heap.size w w2) := Lib.hid (bel_trans HB1.out hb2)
  clear h2 hb2 hw2 hhb G1 HB1
  have hh0 := (hdr_cells (h := ⟨2, ep, ba, ix, ct, bl, mo⟩) H2.out).1
  change w2.cell? ⟨hbk, 0, none⟩ = some (.int .u8 2) at hh0
  go_wp2_with fail
  ((with_reducible refine (HTK.out _ HB2.out).mono ?_))
  rintro e w3 ⟨cv, rfl, ho3, hb3⟩
  obtain ⟨va, vc, rfl, hrow3, _⟩ := ownI_row ho3 HZ.out.1
  rw [HZ.out.2] at hrow3 ⊢
  have HR3 := Lib.hid hrow3
  have HO3 := Lib.hid ho3
  have G3 : Hid (w3.heap[b]? = some (.cells #[.int .i64 (n : Int), .int .i64 20, .int .i64 6, .int .i64 256] 27 (0, 0)) ∧ w3.heap[b + 1]? = some (.cells #[.int .u32 0, .slice none 0 0, .int .i64 0, .int .i64 0, .int .i64 0] 31 (0, 0)) ∧ w3.heap[hbk]? = some (.cells #[.int .u8 2, .int .u32 (ep : Int), .int .u32 (ba : Int), .int .u16 (ix : Int), .int .u16 (ct : Int), .int .u32 (bl : Int), .int .u32 (mo : Int)] 66 (0, 0))) := Lib.hid ⟨(hb3.block _ (Array.getElem?_eq_some_iff.1 G2.out.1).1).trans G2.out.1, (hb3.block _ (Array.getElem?_eq_some_iff.1 G2.out.2).1).trans G2.out.2, (hb3.block _ (Array.getElem?_eq_some_iff.1 H2.out).1).trans H2.out⟩
  have HB3 : Hid (Below w.heap.size w w3 ∧ w.heap.size ≤ w2.heap.size ∧ b + 1 < w2.heap.size) := Lib.hid ⟨bel_trans HB2.out hb3, HB2.out.size, (Array.getElem?_eq_some_iff.1 G2.out.2).1⟩
  clear ho3 hrow3 hb3 G2 H2 HB2 HTK hh0
  go_upto_region 5 with fail
  have s4 : ((w3.alloc (.cells #[.int .u32 (sq : Int), .slice va n vc, .int .i64 (sp : Int), .int .i64 (de : Int), .int .i64 (dn : Int)] 31)).alloc (.cells #[.int .i64 (n : Int), .int .i64 20, .int .i64 6, .int .i64 (y3 : Int)] 27)).heap[w3.heap.size]? = some (.cells #[.int .u32 (sq : Int), .slice va n vc, .int .i64 (sp : Int), .int .i64 (de : Int), .int .i64 (dn : Int)] 31 (0, 0)) := by
    rw [heap_alloc_oldm (by simp)]; exact heap_alloc_new w3 _
  have k4 : ((w3.alloc (.cells #[.int .u32 (sq : Int), .slice va n vc, .int .i64 (sp : Int), .int .i64 (de : Int), .int .i64 (dn : Int)] 31)).alloc (.cells #[.int .i64 (n : Int), .int .i64 20, .int .i64 6, .int .i64 (y3 : Int)] 27)).heap[w3.heap.size + 1]? = some (.cells #[.int .i64 (n : Int), .int .i64 20, .int .i64 6, .int .i64 (y3 : Int)] 27 (0, 0)) := by
    have := heap_alloc_new (w3.alloc (.cells #[.int .u32 (sq : Int), .slice va n vc, .int .i64 (sp : Int), .int .i64 (de : Int), .int .i64 (dn : Int)] 31)) (.cells #[.int .i64 (n : Int), .int .i64 20, .int .i64 6, .int .i64 (y3 : Int)] 27)
    simpa using this
  have hb4 := bel_alloc (bel_alloc (Below.refl w3.heap.size w3) (.cells #[.int .u32 (sq : Int), .slice va n vc, .int .i64 (sp : Int), .int .i64 (de : Int), .int .i64 (dn : Int)] 31)) (.cells #[.int .i64 (n : Int), .int .i64 20, .int .i64 6, .int .i64 (y3 : Int)] 27)
  obtain ⟨w4, hw4⟩ : ∃ x, x = (w3.alloc (.cells #[.int .u32 (sq : Int), .slice va n vc, .int .i64 (sp : Int), .int .i64 (de : Int), .int .i64 (dn : Int)] 31)).alloc (.cells #[.int .i64 (n : Int), .int .i64 20, .int .i64 6, .int .i64 (y3 : Int)] 27) := ⟨_, rfl⟩
  obtain ⟨q, hq4⟩ : ∃ x, x = w3.heap.size := ⟨_, rfl⟩
  rw [← hw4] at s4 k4 hb4 ⊢
  rw [← hq4] at s4 k4 ⊢
  have HB4 := Lib.hid hb4
  have HS4 := Lib.hid s4
  have HK4 := Lib.hid k4
  have HG4 : Hid (w4.heap[b]? = some (.cells #[.int .i64 (n : Int), .int .i64 20, .int .i64 6, .int .i64 256] 27 (0, 0)) ∧ w4.heap[b + 1]? = some (.cells #[.int .u32 0, .slice none 0 0, .int .i64 0, .int .i64 0, .int .i64 0] 31 (0, 0)) ∧ w4.heap[hbk]? = some (.cells #[.int .u8 2, .int .u32 (ep : Int), .int .u32 (ba : Int), .int .u16 (ix : Int), .int .u16 (ct : Int), .int .u32 (bl : Int), .int .u32 (mo : Int)] 66 (0, 0))) := Lib.hid ⟨(hb4.block _ (Array.getElem?_eq_some_iff.1 G3.out.1).1).trans G3.out.1, (hb4.block _ (Array.getElem?_eq_some_iff.1 G3.out.2.1).1).trans G3.out.2.1, (hb4.block _ (Array.getElem?_eq_some_iff.1 G3.out.2.2).1).trans G3.out.2.2⟩
  have HR4 := Lib.hid (rowI_below HR3.out hb4)
  clear hw4 hq4 s4 k4 hb4 G3
  obtain ⟨z0, z1, z2, z3, z4⟩ := five_at HS4.out
  obtain ⟨k0, k1, k2, k3⟩ := mfour_at HK4.out
  obtain ⟨y0', y1', y2', y3'⟩ := mfour_at HG4.out.1
  have hh1 := (hdr_cells (h := ⟨2, ep, ba, ix, ct, bl, mo⟩) HG4.out.2.2).2.1
  change w4.cell? ⟨hbk, 1, none⟩ = some (.int .u32 (ep : Int)) at hh1
  obtain ⟨d0, d1, d2, d3, d4⟩ := five_at HG4.out.2.1
  have df := mfree_at HG4.out.2.1
  have f0 := df 0
  have f1 := df 1
  have f2 := df 2
  have f3 := df 3
  have f4 := df 4
  clear df
  go_wp2_with fail
  all_goals
    refine bodyPost_ret (v := .tuple #[.agg #[.int .u32 0, .slice none 0 0, .int .i64 0, .int .i64 0, .int .i64 0], .int .i64 62]) ?_ rfl ⟨.slice none 0 0, rfl, ownI_nil _ _, ?_⟩
    · simp [results, Try.results9, go_sem, d0, d1, d2, d3, d4]
    · exact bel_five (bel_trans HB3.out.1 HB4.out) (b + 1) (by have := HBB.out; omega) _ _ _ _ _
set_option maxRecDepth 100000 in
set_option maxHeartbeats 2000000 in
theorem memPar_seq (ep ba ix ct bl mo n : Nat) (a a2 : Option Addr) (cap c2 : Nat) (w : World) (L : List Nat) (sq sp de dn : Nat) (hL : ∀ x ∈ L, x < 256)  (hLm : L.length = n) (hd : sq ≠ ep) (HOP : Hid (∀ x : World, Below w.heap.size w x → Calls Try.prog 24 #[.slice a 256 cap, .slice a2 64 c2] x fun e w' => e = .returned (.tuple #[.agg #[.int .u8 2, .int .u32 (ep : Int), .int .u32 (ba : Int), .int .u16 (ix : Int), .int .u16 (ct : Int), .int .u32 (bl : Int), .int .u32 (mo : Int)], .bool true]) ∧ Below x.heap.size x w')) (HTK : Hid (∀ x : World, Below w.heap.size w x → Calls Try.prog 25 #[.slice a 256 cap] x fun e w' => ∃ cv, e = .returned (.tuple #[.agg #[.int .u32 (sq : Int), cv, .int .i64 (sp : Int), .int .i64 (de : Int), .int .i64 (dn : Int)], .agg #[.int .i64 (n : Int), .int .i64 20, .int .i64 6, .int .i64 256], .bool true]) ∧ OwnI x.heap.size w' cv (intsN L) ∧ Below x.heap.size x w')) : Calls Try.prog 9 #[.agg #[.int .i64 (n : Int), .int .i64 20, .int .i64 6, .int .i64 256], .slice a 256 cap, .slice a2 64 c2] w (MemParRet w 0 [] 0 0 0 62) := by
  have hz : ∀ z ∈ intsN L, -9223372036854775808 ≤ z ∧ z ≤ 9223372036854775807 := by
    intro z hz
    unfold intsN at hz
    rw [List.mem_map] at hz
    obtain ⟨y, hy, rfl⟩ := hz
    have := hL y hy
    omega
  have hil : (intsN L).length = n := by unfold intsN; rw [List.length_map, hLm]
  have HZ := Lib.hid (And.intro hz hil)
  clear hL hz hil
  have tn : ((n : Int) != (n : Int)) = false := by simp
  have tm : ((sq : Int) != (ep : Int)) = true := by simp; omega
  clear hd hLm
  go_enter Try.func9, Try.ntmps9
  go_upto_region 1 with fail
  obtain ⟨w0, hw0⟩ : ∃ x, x = (w.alloc (.cells #[.int .i64 (n : Int), .int .i64 20, .int .i64 6, .int .i64 256] 27)).alloc (.cells #[.int .u32 0, .slice none 0 0, .int .i64 0, .int .i64 0, .int .i64 0] 31) := ⟨_, rfl⟩
  obtain ⟨b, hb⟩ : ∃ x, x = w.heap.size := ⟨_, rfl⟩
  have g0 : w0.heap[b]? = some (.cells #[.int .i64 (n : Int), .int .i64 20, .int .i64 6, .int .i64 256] 27 (0, 0)) := by
    rw [hw0, hb, heap_alloc_oldm (by simp)]; exact heap_alloc_new w _
  have r0 : w0.heap[b + 1]? = some (.cells #[.int .u32 0, .slice none 0 0, .int .i64 0, .int .i64 0, .int .i64 0] 31 (0, 0)) := by
    have := heap_alloc_new (w.alloc (.cells #[.int .i64 (n : Int), .int .i64 20, .int .i64 6, .int .i64 256] 27)) (.cells #[.int .u32 0, .slice none 0 0, .int .i64 0, .int .i64 0, .int .i64 0] 31)
    rw [hw0, hb]; simpa using this
  have HB0 : Hid (Below w.heap.size w w0) := Lib.hid (by rw [hw0]; exact bel_alloc (bel_alloc (Below.refl _ w) _) _)
  rw [← hw0, ← hb]
  have HBB := Lib.hid hb
  have G0 := Lib.hid (And.intro g0 r0)
  clear hw0 hb g0 r0
  go_wp2_with fail
  ((with_reducible refine (HOP.out _ HB0.out).mono ?_))
  rintro e w1 ⟨rfl, hb1⟩
  have G1 : Hid (w1.heap[b]? = some (.cells #[.int .i64 (n : Int), .int .i64 20, .int .i64 6, .int .i64 256] 27 (0, 0)) ∧ w1.heap[b + 1]? = some (.cells #[.int .u32 0, .slice none 0 0, .int .i64 0, .int .i64 0, .int .i64 0] 31 (0, 0))) := Lib.hid ⟨(hb1.block _ (Array.getElem?_eq_some_iff.1 G0.out.1).1).trans G0.out.1, (hb1.block _ (Array.getElem?_eq_some_iff.1 G0.out.2).1).trans G0.out.2⟩
  have HB1 : Hid (Below w.heap.size w w1) := Lib.hid (bel_trans HB0.out hb1)
  clear hb1 G0 HB0 HOP
  go_upto_region 4 with fail
  have h2 := heap_alloc_new w1 (.cells #[.int .u8 2, .int .u32 (ep : Int), .int .u32 (ba : Int), .int .u16 (ix : Int), .int .u16 (ct : Int), .int .u32 (bl : Int), .int .u32 (mo : Int)] 66)
  have hb2 := bel_alloc (Below.refl w1.heap.size w1) (.cells #[.int .u8 2, .int .u32 (ep : Int), .int .u32 (ba : Int), .int .u16 (ix : Int), .int .u16 (ct : Int), .int .u32 (bl : Int), .int .u32 (mo : Int)] 66)
  obtain ⟨w2, hw2⟩ : ∃ x, x = w1.alloc (.cells #[.int .u8 2, .int .u32 (ep : Int), .int .u32 (ba : Int), .int .u16 (ix : Int), .int .u16 (ct : Int), .int .u32 (bl : Int), .int .u32 (mo : Int)] 66) := ⟨_, rfl⟩
  obtain ⟨hbk, hhb⟩ : ∃ x, x = w1.heap.size := ⟨_, rfl⟩
  rw [← hw2] at h2 hb2 ⊢
  rw [← hhb] at h2 ⊢
  have H2 := Lib.hid h2
  have G2 : Hid (w2.heap[b]? = some (.cells #[.int .i64 (n : Int), .int .i64 20, .int .i64 6, .int .i64 256] 27 (0, 0)) ∧ w2.heap[b + 1]? = some (.cells #[.int .u32 0, .slice none 0 0, .int .i64 0, .int .i64 0, .int .i64 0] 31 (0, 0))) := Lib.hid ⟨(hb2.block _ (Array.getElem?_eq_some_iff.1 G1.out.1).1).trans G1.out.1, (hb2.block _ (Array.getElem?_eq_some_iff.1 G1.out.2).1).trans G1.out.2⟩
  have HB2 : Hid (Below w.heap.size w w2) := Lib.hid (bel_trans HB1.out hb2)
  clear h2 hb2 hw2 hhb G1 HB1
  have hh0 := (hdr_cells (h := ⟨2, ep, ba, ix, ct, bl, mo⟩) H2.out).1
  change w2.cell? ⟨hbk, 0, none⟩ = some (.int .u8 2) at hh0
  go_wp2_with fail
  ((with_reducible refine (HTK.out _ HB2.out).mono ?_))
  rintro e w3 ⟨cv, rfl, ho3, hb3⟩
  obtain ⟨va, vc, rfl, hrow3, _⟩ := ownI_row ho3 HZ.out.1
  rw [HZ.out.2] at hrow3 ⊢
  have HR3 := Lib.hid hrow3
  have HO3 := Lib.hid ho3
  have G3 : Hid (w3.heap[b]? = some (.cells #[.int .i64 (n : Int), .int .i64 20, .int .i64 6, .int .i64 256] 27 (0, 0)) ∧ w3.heap[b + 1]? = some (.cells #[.int .u32 0, .slice none 0 0, .int .i64 0, .int .i64 0, .int .i64 0] 31 (0, 0)) ∧ w3.heap[hbk]? = some (.cells #[.int .u8 2, .int .u32 (ep : Int), .int .u32 (ba : Int), .int .u16 (ix : Int), .int .u16 (ct : Int), .int .u32 (bl : Int), .int .u32 (mo : Int)] 66 (0, 0))) := Lib.hid ⟨(hb3.block _ (Array.getElem?_eq_some_iff.1 G2.out.1).1).trans G2.out.1, (hb3.block _ (Array.getElem?_eq_some_iff.1 G2.out.2).1).trans G2.out.2, (hb3.block _ (Array.getElem?_eq_some_iff.1 H2.out).1).trans H2.out⟩
  have HB3 : Hid (Below w.heap.size w w3 ∧ w.heap.size ≤ w2.heap.size ∧ b + 1 < w2.heap.size) := Lib.hid ⟨bel_trans HB2.out hb3, HB2.out.size, (Array.getElem?_eq_some_iff.1 G2.out.2).1⟩
  clear ho3 hrow3 hb3 G2 H2 HB2 HTK hh0
  go_upto_region 5 with fail
  have s4 : ((w3.alloc (.cells #[.int .u32 (sq : Int), .slice va n vc, .int .i64 (sp : Int), .int .i64 (de : Int), .int .i64 (dn : Int)] 31)).alloc (.cells #[.int .i64 (n : Int), .int .i64 20, .int .i64 6, .int .i64 256] 27)).heap[w3.heap.size]? = some (.cells #[.int .u32 (sq : Int), .slice va n vc, .int .i64 (sp : Int), .int .i64 (de : Int), .int .i64 (dn : Int)] 31 (0, 0)) := by
    rw [heap_alloc_oldm (by simp)]; exact heap_alloc_new w3 _
  have k4 : ((w3.alloc (.cells #[.int .u32 (sq : Int), .slice va n vc, .int .i64 (sp : Int), .int .i64 (de : Int), .int .i64 (dn : Int)] 31)).alloc (.cells #[.int .i64 (n : Int), .int .i64 20, .int .i64 6, .int .i64 256] 27)).heap[w3.heap.size + 1]? = some (.cells #[.int .i64 (n : Int), .int .i64 20, .int .i64 6, .int .i64 256] 27 (0, 0)) := by
    have := heap_alloc_new (w3.alloc (.cells #[.int .u32 (sq : Int), .slice va n vc, .int .i64 (sp : Int), .int .i64 (de : Int), .int .i64 (dn : Int)] 31)) (.cells #[.int .i64 (n : Int), .int .i64 20, .int .i64 6, .int .i64 256] 27)
    simpa using this
  have hb4 := bel_alloc (bel_alloc (Below.refl w3.heap.size w3) (.cells #[.int .u32 (sq : Int), .slice va n vc, .int .i64 (sp : Int), .int .i64 (de : Int), .int .i64 (dn : Int)] 31)) (.cells #[.int .i64 (n : Int), .int .i64 20, .int .i64 6, .int .i64 256] 27)
  obtain ⟨w4, hw4⟩ : ∃ x, x = (w3.alloc (.cells #[.int .u32 (sq : Int), .slice va n vc, .int .i64 (sp : Int), .int .i64 (de : Int), .int .i64 (dn : Int)] 31)).alloc (.cells #[.int .i64 (n : Int), .int .i64 20, .int .i64 6, .int .i64 256] 27) := ⟨_, rfl⟩
  obtain ⟨q, hq4⟩ : ∃ x, x = w3.heap.size := ⟨_, rfl⟩
  rw [← hw4] at s4 k4 hb4 ⊢
  rw [← hq4] at s4 k4 ⊢
  have HB4 := Lib.hid hb4
  have HS4 := Lib.hid s4
  have HK4 := Lib.hid k4
  have HG4 : Hid (w4.heap[b]? = some (.cells #[.int .i64 (n : Int), .int .i64 20, .int .i64 6, .int .i64 256] 27 (0, 0)) ∧ w4.heap[b + 1]? = some (.cells #[.int .u32 0, .slice none 0 0, .int .i64 0, .int .i64 0, .int .i64 0] 31 (0, 0)) ∧ w4.heap[hbk]? = some (.cells #[.int .u8 2, .int .u32 (ep : Int), .int .u32 (ba : Int), .int .u16 (ix : Int), .int .u16 (ct : Int), .int .u32 (bl : Int), .int .u32 (mo : Int)] 66 (0, 0))) := Lib.hid ⟨(hb4.block _ (Array.getElem?_eq_some_iff.1 G3.out.1).1).trans G3.out.1, (hb4.block _ (Array.getElem?_eq_some_iff.1 G3.out.2.1).1).trans G3.out.2.1, (hb4.block _ (Array.getElem?_eq_some_iff.1 G3.out.2.2).1).trans G3.out.2.2⟩
  have HR4 := Lib.hid (rowI_below HR3.out hb4)
  clear hw4 hq4 s4 k4 hb4 G3
  obtain ⟨z0, z1, z2, z3, z4⟩ := five_at HS4.out
  obtain ⟨k0, k1, k2, k3⟩ := mfour_at HK4.out
  obtain ⟨y0', y1', y2', y3'⟩ := mfour_at HG4.out.1
  have hh1 := (hdr_cells (h := ⟨2, ep, ba, ix, ct, bl, mo⟩) HG4.out.2.2).2.1
  change w4.cell? ⟨hbk, 1, none⟩ = some (.int .u32 (ep : Int)) at hh1
  obtain ⟨d0, d1, d2, d3, d4⟩ := five_at HG4.out.2.1
  have df := mfree_at HG4.out.2.1
  have f0 := df 0
  have f1 := df 1
  have f2 := df 2
  have f3 := df 3
  have f4 := df 4
  clear df
  go_wp2_with fail
  all_goals
    refine bodyPost_ret (v := .tuple #[.agg #[.int .u32 0, .slice none 0 0, .int .i64 0, .int .i64 0, .int .i64 0], .int .i64 62]) ?_ rfl ⟨.slice none 0 0, rfl, ownI_nil _ _, ?_⟩
    · simp [results, Try.results9, go_sem, d0, d1, d2, d3, d4]
    · exact bel_five (bel_trans HB3.out.1 HB4.out) (b + 1) (by have := HBB.out; omega) _ _ _ _ _
set_option maxRecDepth 100000 in
set_option maxHeartbeats 2000000 in
theorem memPar_form (ba ix ct bl mo n : Nat) (a a2 : Option Addr) (cap c2 : Nat) (w : World) (L : List Nat) (sq sp de dn : Nat) (hL : ∀ x ∈ L, x < 256) (hLm : L.length = n) (HOP : Hid (∀ x : World, Below w.heap.size w x → Calls Try.prog 24 #[.slice a 256 cap, .slice a2 64 c2] x fun e w' => e = .returned (.tuple #[.agg #[.int .u8 2, .int .u32 (sq : Int), .int .u32 (ba : Int), .int .u16 (ix : Int), .int .u16 (ct : Int), .int .u32 (bl : Int), .int .u32 (mo : Int)], .bool true]) ∧ Below x.heap.size x w')) (HTK : Hid (∀ x : World, Below w.heap.size w x → Calls Try.prog 25 #[.slice a 256 cap] x fun e w' => ∃ cv, e = .returned (.tuple #[.agg #[.int .u32 (sq : Int), cv, .int .i64 (sp : Int), .int .i64 (de : Int), .int .i64 (dn : Int)], .agg #[.int .i64 (n : Int), .int .i64 20, .int .i64 6, .int .i64 256], .bool true]) ∧ OwnI x.heap.size w' cv (intsN L) ∧ Below x.heap.size x w')) (HCK : Hid (∀ (x : World) (va : Option Addr) (vc : Nat), RowI x va n vc (intsN L) → Calls Try.prog 12 #[.agg #[.int .u32 (sq : Int), .slice va n vc, .int .i64 (sp : Int), .int .i64 (de : Int), .int .i64 (dn : Int)], .agg #[.int .i64 (n : Int), .int .i64 20, .int .i64 6, .int .i64 256]] x fun e w' => e = .returned (.int .i64 62) ∧ Below x.heap.size x w')) : Calls Try.prog 9 #[.agg #[.int .i64 (n : Int), .int .i64 20, .int .i64 6, .int .i64 256], .slice a 256 cap, .slice a2 64 c2] w (MemParRet w 0 [] 0 0 0 62) := by
  have hz : ∀ z ∈ intsN L, -9223372036854775808 ≤ z ∧ z ≤ 9223372036854775807 := by
    intro z hz
    unfold intsN at hz
    rw [List.mem_map] at hz
    obtain ⟨y, hy, rfl⟩ := hz
    have := hL y hy
    omega
  have hil : (intsN L).length = n := by unfold intsN; rw [List.length_map, hLm]
  have HZ := Lib.hid (And.intro hz hil)
  clear hL hz hil
  clear hLm
  go_enter Try.func9, Try.ntmps9
  go_upto_region 1 with fail
  obtain ⟨w0, hw0⟩ : ∃ x, x = (w.alloc (.cells #[.int .i64 (n : Int), .int .i64 20, .int .i64 6, .int .i64 256] 27)).alloc (.cells #[.int .u32 0, .slice none 0 0, .int .i64 0, .int .i64 0, .int .i64 0] 31) := ⟨_, rfl⟩
  obtain ⟨b, hb⟩ : ∃ x, x = w.heap.size := ⟨_, rfl⟩
  have g0 : w0.heap[b]? = some (.cells #[.int .i64 (n : Int), .int .i64 20, .int .i64 6, .int .i64 256] 27 (0, 0)) := by
    rw [hw0, hb, heap_alloc_oldm (by simp)]; exact heap_alloc_new w _
  have r0 : w0.heap[b + 1]? = some (.cells #[.int .u32 0, .slice none 0 0, .int .i64 0, .int .i64 0, .int .i64 0] 31 (0, 0)) := by
    have := heap_alloc_new (w.alloc (.cells #[.int .i64 (n : Int), .int .i64 20, .int .i64 6, .int .i64 256] 27)) (.cells #[.int .u32 0, .slice none 0 0, .int .i64 0, .int .i64 0, .int .i64 0] 31)
    rw [hw0, hb]; simpa using this
  have HB0 : Hid (Below w.heap.size w w0) := Lib.hid (by rw [hw0]; exact bel_alloc (bel_alloc (Below.refl _ w) _) _)
  rw [← hw0, ← hb]
  have HBB := Lib.hid hb
  have G0 := Lib.hid (And.intro g0 r0)
  clear hw0 hb g0 r0
  go_wp2_with fail
  ((with_reducible refine (HOP.out _ HB0.out).mono ?_))
  rintro e w1 ⟨rfl, hb1⟩
  have G1 : Hid (w1.heap[b]? = some (.cells #[.int .i64 (n : Int), .int .i64 20, .int .i64 6, .int .i64 256] 27 (0, 0)) ∧ w1.heap[b + 1]? = some (.cells #[.int .u32 0, .slice none 0 0, .int .i64 0, .int .i64 0, .int .i64 0] 31 (0, 0))) := Lib.hid ⟨(hb1.block _ (Array.getElem?_eq_some_iff.1 G0.out.1).1).trans G0.out.1, (hb1.block _ (Array.getElem?_eq_some_iff.1 G0.out.2).1).trans G0.out.2⟩
  have HB1 : Hid (Below w.heap.size w w1) := Lib.hid (bel_trans HB0.out hb1)
  clear hb1 G0 HB0 HOP
  go_upto_region 4 with fail
  have h2 := heap_alloc_new w1 (.cells #[.int .u8 2, .int .u32 (sq : Int), .int .u32 (ba : Int), .int .u16 (ix : Int), .int .u16 (ct : Int), .int .u32 (bl : Int), .int .u32 (mo : Int)] 66)
  have hb2 := bel_alloc (Below.refl w1.heap.size w1) (.cells #[.int .u8 2, .int .u32 (sq : Int), .int .u32 (ba : Int), .int .u16 (ix : Int), .int .u16 (ct : Int), .int .u32 (bl : Int), .int .u32 (mo : Int)] 66)
  obtain ⟨w2, hw2⟩ : ∃ x, x = w1.alloc (.cells #[.int .u8 2, .int .u32 (sq : Int), .int .u32 (ba : Int), .int .u16 (ix : Int), .int .u16 (ct : Int), .int .u32 (bl : Int), .int .u32 (mo : Int)] 66) := ⟨_, rfl⟩
  obtain ⟨hbk, hhb⟩ : ∃ x, x = w1.heap.size := ⟨_, rfl⟩
  rw [← hw2] at h2 hb2 ⊢
  rw [← hhb] at h2 ⊢
  have H2 := Lib.hid h2
  have G2 : Hid (w2.heap[b]? = some (.cells #[.int .i64 (n : Int), .int .i64 20, .int .i64 6, .int .i64 256] 27 (0, 0)) ∧ w2.heap[b + 1]? = some (.cells #[.int .u32 0, .slice none 0 0, .int .i64 0, .int .i64 0, .int .i64 0] 31 (0, 0))) := Lib.hid ⟨(hb2.block _ (Array.getElem?_eq_some_iff.1 G1.out.1).1).trans G1.out.1, (hb2.block _ (Array.getElem?_eq_some_iff.1 G1.out.2).1).trans G1.out.2⟩
  have HB2 : Hid (Below w.heap.size w w2) := Lib.hid (bel_trans HB1.out hb2)
  clear h2 hb2 hw2 hhb G1 HB1
  have hh0 := (hdr_cells (h := ⟨2, sq, ba, ix, ct, bl, mo⟩) H2.out).1
  change w2.cell? ⟨hbk, 0, none⟩ = some (.int .u8 2) at hh0
  go_wp2_with fail
  ((with_reducible refine (HTK.out _ HB2.out).mono ?_))
  rintro e w3 ⟨cv, rfl, ho3, hb3⟩
  obtain ⟨va, vc, rfl, hrow3, _⟩ := ownI_row ho3 HZ.out.1
  rw [HZ.out.2] at hrow3 ⊢
  have HR3 := Lib.hid hrow3
  have HO3 := Lib.hid ho3
  have G3 : Hid (w3.heap[b]? = some (.cells #[.int .i64 (n : Int), .int .i64 20, .int .i64 6, .int .i64 256] 27 (0, 0)) ∧ w3.heap[b + 1]? = some (.cells #[.int .u32 0, .slice none 0 0, .int .i64 0, .int .i64 0, .int .i64 0] 31 (0, 0)) ∧ w3.heap[hbk]? = some (.cells #[.int .u8 2, .int .u32 (sq : Int), .int .u32 (ba : Int), .int .u16 (ix : Int), .int .u16 (ct : Int), .int .u32 (bl : Int), .int .u32 (mo : Int)] 66 (0, 0))) := Lib.hid ⟨(hb3.block _ (Array.getElem?_eq_some_iff.1 G2.out.1).1).trans G2.out.1, (hb3.block _ (Array.getElem?_eq_some_iff.1 G2.out.2).1).trans G2.out.2, (hb3.block _ (Array.getElem?_eq_some_iff.1 H2.out).1).trans H2.out⟩
  have HB3 : Hid (Below w.heap.size w w3 ∧ w.heap.size ≤ w2.heap.size ∧ b + 1 < w2.heap.size) := Lib.hid ⟨bel_trans HB2.out hb3, HB2.out.size, (Array.getElem?_eq_some_iff.1 G2.out.2).1⟩
  clear ho3 hrow3 hb3 G2 H2 HB2 HTK hh0
  go_upto_region 5 with fail
  have s4 : ((w3.alloc (.cells #[.int .u32 (sq : Int), .slice va n vc, .int .i64 (sp : Int), .int .i64 (de : Int), .int .i64 (dn : Int)] 31)).alloc (.cells #[.int .i64 (n : Int), .int .i64 20, .int .i64 6, .int .i64 256] 27)).heap[w3.heap.size]? = some (.cells #[.int .u32 (sq : Int), .slice va n vc, .int .i64 (sp : Int), .int .i64 (de : Int), .int .i64 (dn : Int)] 31 (0, 0)) := by
    rw [heap_alloc_oldm (by simp)]; exact heap_alloc_new w3 _
  have k4 : ((w3.alloc (.cells #[.int .u32 (sq : Int), .slice va n vc, .int .i64 (sp : Int), .int .i64 (de : Int), .int .i64 (dn : Int)] 31)).alloc (.cells #[.int .i64 (n : Int), .int .i64 20, .int .i64 6, .int .i64 256] 27)).heap[w3.heap.size + 1]? = some (.cells #[.int .i64 (n : Int), .int .i64 20, .int .i64 6, .int .i64 256] 27 (0, 0)) := by
    have := heap_alloc_new (w3.alloc (.cells #[.int .u32 (sq : Int), .slice va n vc, .int .i64 (sp : Int), .int .i64 (de : Int), .int .i64 (dn : Int)] 31)) (.cells #[.int .i64 (n : Int), .int .i64 20, .int .i64 6, .int .i64 256] 27)
    simpa using this
  have hb4 := bel_alloc (bel_alloc (Below.refl w3.heap.size w3) (.cells #[.int .u32 (sq : Int), .slice va n vc, .int .i64 (sp : Int), .int .i64 (de : Int), .int .i64 (dn : Int)] 31)) (.cells #[.int .i64 (n : Int), .int .i64 20, .int .i64 6, .int .i64 256] 27)
  obtain ⟨w4, hw4⟩ : ∃ x, x = (w3.alloc (.cells #[.int .u32 (sq : Int), .slice va n vc, .int .i64 (sp : Int), .int .i64 (de : Int), .int .i64 (dn : Int)] 31)).alloc (.cells #[.int .i64 (n : Int), .int .i64 20, .int .i64 6, .int .i64 256] 27) := ⟨_, rfl⟩
  obtain ⟨q, hq4⟩ : ∃ x, x = w3.heap.size := ⟨_, rfl⟩
  rw [← hw4] at s4 k4 hb4 ⊢
  rw [← hq4] at s4 k4 ⊢
  have HB4 := Lib.hid hb4
  have HS4 := Lib.hid s4
  have HK4 := Lib.hid k4
  have HG4 : Hid (w4.heap[b]? = some (.cells #[.int .i64 (n : Int), .int .i64 20, .int .i64 6, .int .i64 256] 27 (0, 0)) ∧ w4.heap[b + 1]? = some (.cells #[.int .u32 0, .slice none 0 0, .int .i64 0, .int .i64 0, .int .i64 0] 31 (0, 0)) ∧ w4.heap[hbk]? = some (.cells #[.int .u8 2, .int .u32 (sq : Int), .int .u32 (ba : Int), .int .u16 (ix : Int), .int .u16 (ct : Int), .int .u32 (bl : Int), .int .u32 (mo : Int)] 66 (0, 0))) := Lib.hid ⟨(hb4.block _ (Array.getElem?_eq_some_iff.1 G3.out.1).1).trans G3.out.1, (hb4.block _ (Array.getElem?_eq_some_iff.1 G3.out.2.1).1).trans G3.out.2.1, (hb4.block _ (Array.getElem?_eq_some_iff.1 G3.out.2.2).1).trans G3.out.2.2⟩
  have HR4 := Lib.hid (rowI_below HR3.out hb4)
  clear hw4 hq4 s4 k4 hb4 G3
  obtain ⟨z0, z1, z2, z3, z4⟩ := five_at HS4.out
  obtain ⟨k0, k1, k2, k3⟩ := mfour_at HK4.out
  obtain ⟨y0', y1', y2', y3'⟩ := mfour_at HG4.out.1
  have hh1 := (hdr_cells (h := ⟨2, sq, ba, ix, ct, bl, mo⟩) HG4.out.2.2).2.1
  change w4.cell? ⟨hbk, 1, none⟩ = some (.int .u32 (sq : Int)) at hh1
  have tn : ((n : Int) != (n : Int)) = false := by simp
  have tq : ((sq : Int) != (sq : Int)) = false := by simp
  go_wp2_with fail
  ((with_reducible refine (HCK.out _ va vc HR4.out).mono ?_))
  rintro e w5 ⟨rfl, hb5⟩
  have s5 := (hb5.block _ (Array.getElem?_eq_some_iff.1 HS4.out).1).trans HS4.out
  have r5 := (hb5.block _ (Array.getElem?_eq_some_iff.1 HG4.out.2.1).1).trans HG4.out.2.1
  have HB5 := Lib.hid hb5
  clear hb5 z0 z1 z2 z3 z4 k0 k1 k2 k3 y0' y1' y2' y3' hh1 tn tq HCK
  obtain ⟨d0, d1, d2, d3, d4⟩ := five_at r5
  have df := mfree_at r5
  have f0 := df 0
  have f1 := df 1
  have f2 := df 2
  have f3 := df 3
  have f4 := df 4
  clear df
  go_wp2_with fail
  all_goals
    refine bodyPost_ret (v := .tuple #[.agg #[.int .u32 0, .slice none 0 0, .int .i64 0, .int .i64 0, .int .i64 0], .int .i64 62]) ?_ rfl ⟨.slice none 0 0, rfl, ownI_nil _ _, ?_⟩
    · simp [results, Try.results9, go_sem, d0, d1, d2, d3, d4]
    · exact bel_five (bel_trans (bel_trans HB3.out.1 HB4.out) HB5.out) (b + 1) (by have := HBB.out; omega) _ _ _ _ _
set_option maxRecDepth 100000 in
set_option maxHeartbeats 2000000 in
theorem memPar_ok (ba ix ct bl mo n : Nat) (a a2 : Option Addr) (cap c2 : Nat) (w : World) (L : List Nat) (sq sp de dn : Nat) (hL : ∀ x ∈ L, x < 256) (hLm : L.length = n) (HOP : Hid (∀ x : World, Below w.heap.size w x → Calls Try.prog 24 #[.slice a 256 cap, .slice a2 64 c2] x fun e w' => e = .returned (.tuple #[.agg #[.int .u8 2, .int .u32 (sq : Int), .int .u32 (ba : Int), .int .u16 (ix : Int), .int .u16 (ct : Int), .int .u32 (bl : Int), .int .u32 (mo : Int)], .bool true]) ∧ Below x.heap.size x w')) (HTK : Hid (∀ x : World, Below w.heap.size w x → Calls Try.prog 25 #[.slice a 256 cap] x fun e w' => ∃ cv, e = .returned (.tuple #[.agg #[.int .u32 (sq : Int), cv, .int .i64 (sp : Int), .int .i64 (de : Int), .int .i64 (dn : Int)], .agg #[.int .i64 (n : Int), .int .i64 20, .int .i64 6, .int .i64 256], .bool true]) ∧ OwnI x.heap.size w' cv (intsN L) ∧ Below x.heap.size x w')) (HCK : Hid (∀ (x : World) (va : Option Addr) (vc : Nat), RowI x va n vc (intsN L) → Calls Try.prog 12 #[.agg #[.int .u32 (sq : Int), .slice va n vc, .int .i64 (sp : Int), .int .i64 (de : Int), .int .i64 (dn : Int)], .agg #[.int .i64 (n : Int), .int .i64 20, .int .i64 6, .int .i64 256]] x fun e w' => e = .returned (.int .i64 0) ∧ Below x.heap.size x w')) : Calls Try.prog 9 #[.agg #[.int .i64 (n : Int), .int .i64 20, .int .i64 6, .int .i64 256], .slice a 256 cap, .slice a2 64 c2] w (MemParRet w sq L sp de dn 0) := by
  have hz : ∀ z ∈ intsN L, -9223372036854775808 ≤ z ∧ z ≤ 9223372036854775807 := by
    intro z hz
    unfold intsN at hz
    rw [List.mem_map] at hz
    obtain ⟨y, hy, rfl⟩ := hz
    have := hL y hy
    omega
  have hil : (intsN L).length = n := by unfold intsN; rw [List.length_map, hLm]
  have HZ := Lib.hid (And.intro hz hil)
  clear hL hz hil
  clear hLm
  go_enter Try.func9, Try.ntmps9
  go_upto_region 1 with fail
  obtain ⟨w0, hw0⟩ : ∃ x, x = (w.alloc (.cells #[.int .i64 (n : Int), .int .i64 20, .int .i64 6, .int .i64 256] 27)).alloc (.cells #[.int .u32 0, .slice none 0 0, .int .i64 0, .int .i64 0, .int .i64 0] 31) := ⟨_, rfl⟩
  obtain ⟨b, hb⟩ : ∃ x, x = w.heap.size := ⟨_, rfl⟩
  have g0 : w0.heap[b]? = some (.cells #[.int .i64 (n : Int), .int .i64 20, .int .i64 6, .int .i64 256] 27 (0, 0)) := by
    rw [hw0, hb, heap_alloc_oldm (by simp)]; exact heap_alloc_new w _
  have r0 : w0.heap[b + 1]? = some (.cells #[.int .u32 0, .slice none 0 0, .int .i64 0, .int .i64 0, .int .i64 0] 31 (0, 0)) := by
    have := heap_alloc_new (w.alloc (.cells #[.int .i64 (n : Int), .int .i64 20, .int .i64 6, .int .i64 256] 27)) (.cells #[.int .u32 0, .slice none 0 0, .int .i64 0, .int .i64 0, .int .i64 0] 31)
    rw [hw0, hb]; simpa using this
  have HB0 : Hid (Below w.heap.size w w0) := Lib.hid (by rw [hw0]; exact bel_alloc (bel_alloc (Below.refl _ w) _) _)
  rw [← hw0, ← hb]
  have HBB := Lib.hid hb
  have G0 := Lib.hid (And.intro g0 r0)
  clear hw0 hb g0 r0
  go_wp2_with fail
  ((with_reducible refine (HOP.out _ HB0.out).mono ?_))
  rintro e w1 ⟨rfl, hb1⟩
  have G1 : Hid (w1.heap[b]? = some (.cells #[.int .i64 (n : Int), .int .i64 20, .int .i64 6, .int .i64 256] 27 (0, 0)) ∧ w1.heap[b + 1]? = some (.cells #[.int .u32 0, .slice none 0 0, .int .i64 0, .int .i64 0, .int .i64 0] 31 (0, 0))) := Lib.hid ⟨(hb1.block _ (Array.getElem?_eq_some_iff.1 G0.out.1).1).trans G0.out.1, (hb1.block _ (Array.getElem?_eq_some_iff.1 G0.out.2).1).trans G0.out.2⟩
  have HB1 : Hid (Below w.heap.size w w1) := Lib.hid (bel_trans HB0.out hb1)
  clear hb1 G0 HB0 HOP
  go_upto_region 4 with fail
  have h2 := heap_alloc_new w1 (.cells #[.int .u8 2, .int .u32 (sq : Int), .int .u32 (ba : Int), .int .u16 (ix : Int), .int .u16 (ct : Int), .int .u32 (bl : Int), .int .u32 (mo : Int)] 66)
  have hb2 := bel_alloc (Below.refl w1.heap.size w1) (.cells #[.int .u8 2, .int .u32 (sq : Int), .int .u32 (ba : Int), .int .u16 (ix : Int), .int .u16 (ct : Int), .int .u32 (bl : Int), .int .u32 (mo : Int)] 66)
  obtain ⟨w2, hw2⟩ : ∃ x, x = w1.alloc (.cells #[.int .u8 2, .int .u32 (sq : Int), .int .u32 (ba : Int), .int .u16 (ix : Int), .int .u16 (ct : Int), .int .u32 (bl : Int), .int .u32 (mo : Int)] 66) := ⟨_, rfl⟩
  obtain ⟨hbk, hhb⟩ : ∃ x, x = w1.heap.size := ⟨_, rfl⟩
  rw [← hw2] at h2 hb2 ⊢
  rw [← hhb] at h2 ⊢
  have H2 := Lib.hid h2
  have G2 : Hid (w2.heap[b]? = some (.cells #[.int .i64 (n : Int), .int .i64 20, .int .i64 6, .int .i64 256] 27 (0, 0)) ∧ w2.heap[b + 1]? = some (.cells #[.int .u32 0, .slice none 0 0, .int .i64 0, .int .i64 0, .int .i64 0] 31 (0, 0))) := Lib.hid ⟨(hb2.block _ (Array.getElem?_eq_some_iff.1 G1.out.1).1).trans G1.out.1, (hb2.block _ (Array.getElem?_eq_some_iff.1 G1.out.2).1).trans G1.out.2⟩
  have HB2 : Hid (Below w.heap.size w w2) := Lib.hid (bel_trans HB1.out hb2)
  clear h2 hb2 hw2 hhb G1 HB1
  have hh0 := (hdr_cells (h := ⟨2, sq, ba, ix, ct, bl, mo⟩) H2.out).1
  change w2.cell? ⟨hbk, 0, none⟩ = some (.int .u8 2) at hh0
  go_wp2_with fail
  ((with_reducible refine (HTK.out _ HB2.out).mono ?_))
  rintro e w3 ⟨cv, rfl, ho3, hb3⟩
  obtain ⟨va, vc, rfl, hrow3, _⟩ := ownI_row ho3 HZ.out.1
  rw [HZ.out.2] at hrow3 ⊢
  have HR3 := Lib.hid hrow3
  have HO3 := Lib.hid ho3
  have G3 : Hid (w3.heap[b]? = some (.cells #[.int .i64 (n : Int), .int .i64 20, .int .i64 6, .int .i64 256] 27 (0, 0)) ∧ w3.heap[b + 1]? = some (.cells #[.int .u32 0, .slice none 0 0, .int .i64 0, .int .i64 0, .int .i64 0] 31 (0, 0)) ∧ w3.heap[hbk]? = some (.cells #[.int .u8 2, .int .u32 (sq : Int), .int .u32 (ba : Int), .int .u16 (ix : Int), .int .u16 (ct : Int), .int .u32 (bl : Int), .int .u32 (mo : Int)] 66 (0, 0))) := Lib.hid ⟨(hb3.block _ (Array.getElem?_eq_some_iff.1 G2.out.1).1).trans G2.out.1, (hb3.block _ (Array.getElem?_eq_some_iff.1 G2.out.2).1).trans G2.out.2, (hb3.block _ (Array.getElem?_eq_some_iff.1 H2.out).1).trans H2.out⟩
  have HB3 : Hid (Below w.heap.size w w3 ∧ w.heap.size ≤ w2.heap.size ∧ b + 1 < w2.heap.size) := Lib.hid ⟨bel_trans HB2.out hb3, HB2.out.size, (Array.getElem?_eq_some_iff.1 G2.out.2).1⟩
  clear ho3 hrow3 hb3 G2 H2 HB2 HTK hh0
  go_upto_region 5 with fail
  have s4 : ((w3.alloc (.cells #[.int .u32 (sq : Int), .slice va n vc, .int .i64 (sp : Int), .int .i64 (de : Int), .int .i64 (dn : Int)] 31)).alloc (.cells #[.int .i64 (n : Int), .int .i64 20, .int .i64 6, .int .i64 256] 27)).heap[w3.heap.size]? = some (.cells #[.int .u32 (sq : Int), .slice va n vc, .int .i64 (sp : Int), .int .i64 (de : Int), .int .i64 (dn : Int)] 31 (0, 0)) := by
    rw [heap_alloc_oldm (by simp)]; exact heap_alloc_new w3 _
  have k4 : ((w3.alloc (.cells #[.int .u32 (sq : Int), .slice va n vc, .int .i64 (sp : Int), .int .i64 (de : Int), .int .i64 (dn : Int)] 31)).alloc (.cells #[.int .i64 (n : Int), .int .i64 20, .int .i64 6, .int .i64 256] 27)).heap[w3.heap.size + 1]? = some (.cells #[.int .i64 (n : Int), .int .i64 20, .int .i64 6, .int .i64 256] 27 (0, 0)) := by
    have := heap_alloc_new (w3.alloc (.cells #[.int .u32 (sq : Int), .slice va n vc, .int .i64 (sp : Int), .int .i64 (de : Int), .int .i64 (dn : Int)] 31)) (.cells #[.int .i64 (n : Int), .int .i64 20, .int .i64 6, .int .i64 256] 27)
    simpa using this
  have hb4 := bel_alloc (bel_alloc (Below.refl w3.heap.size w3) (.cells #[.int .u32 (sq : Int), .slice va n vc, .int .i64 (sp : Int), .int .i64 (de : Int), .int .i64 (dn : Int)] 31)) (.cells #[.int .i64 (n : Int), .int .i64 20, .int .i64 6, .int .i64 256] 27)
  obtain ⟨w4, hw4⟩ : ∃ x, x = (w3.alloc (.cells #[.int .u32 (sq : Int), .slice va n vc, .int .i64 (sp : Int), .int .i64 (de : Int), .int .i64 (dn : Int)] 31)).alloc (.cells #[.int .i64 (n : Int), .int .i64 20, .int .i64 6, .int .i64 256] 27) := ⟨_, rfl⟩
  obtain ⟨q, hq4⟩ : ∃ x, x = w3.heap.size := ⟨_, rfl⟩
  rw [← hw4] at s4 k4 hb4 ⊢
  rw [← hq4] at s4 k4 ⊢
  have HB4 := Lib.hid hb4
  have HS4 := Lib.hid s4
  have HK4 := Lib.hid k4
  have HG4 : Hid (w4.heap[b]? = some (.cells #[.int .i64 (n : Int), .int .i64 20, .int .i64 6, .int .i64 256] 27 (0, 0)) ∧ w4.heap[b + 1]? = some (.cells #[.int .u32 0, .slice none 0 0, .int .i64 0, .int .i64 0, .int .i64 0] 31 (0, 0)) ∧ w4.heap[hbk]? = some (.cells #[.int .u8 2, .int .u32 (sq : Int), .int .u32 (ba : Int), .int .u16 (ix : Int), .int .u16 (ct : Int), .int .u32 (bl : Int), .int .u32 (mo : Int)] 66 (0, 0))) := Lib.hid ⟨(hb4.block _ (Array.getElem?_eq_some_iff.1 G3.out.1).1).trans G3.out.1, (hb4.block _ (Array.getElem?_eq_some_iff.1 G3.out.2.1).1).trans G3.out.2.1, (hb4.block _ (Array.getElem?_eq_some_iff.1 G3.out.2.2).1).trans G3.out.2.2⟩
  have HR4 := Lib.hid (rowI_below HR3.out hb4)
  clear hw4 hq4 s4 k4 hb4 G3
  obtain ⟨z0, z1, z2, z3, z4⟩ := five_at HS4.out
  obtain ⟨k0, k1, k2, k3⟩ := mfour_at HK4.out
  obtain ⟨y0', y1', y2', y3'⟩ := mfour_at HG4.out.1
  have hh1 := (hdr_cells (h := ⟨2, sq, ba, ix, ct, bl, mo⟩) HG4.out.2.2).2.1
  change w4.cell? ⟨hbk, 1, none⟩ = some (.int .u32 (sq : Int)) at hh1
  have tn : ((n : Int) != (n : Int)) = false := by simp
  have tq : ((sq : Int) != (sq : Int)) = false := by simp
  go_wp2_with fail
  ((with_reducible refine (HCK.out _ va vc HR4.out).mono ?_))
  rintro e w5 ⟨rfl, hb5⟩
  have s5 := (hb5.block _ (Array.getElem?_eq_some_iff.1 HS4.out).1).trans HS4.out
  have r5 := (hb5.block _ (Array.getElem?_eq_some_iff.1 HG4.out.2.1).1).trans HG4.out.2.1
  have HB5 := Lib.hid hb5
  clear hb5 z0 z1 z2 z3 z4 k0 k1 k2 k3 y0' y1' y2' y3' hh1 tn tq HCK
  obtain ⟨z0, z1, z2, z3, z4⟩ := five_at s5
  obtain ⟨d0, d1, d2, d3, d4⟩ := five_at r5
  have df := mfree_at r5
  have f0 := df 0
  have f1 := df 1
  have f2 := df 2
  have f3 := df 3
  have f4 := df 4
  clear df
  go_wp2_with fail
  refine bodyPost_ret (v := .tuple #[.agg #[.int .u32 (sq : Int), .slice va n vc, .int .i64 (sp : Int), .int .i64 (de : Int), .int .i64 (dn : Int)], .int .i64 0]) ?_ rfl ⟨.slice va n vc, rfl, ?_, ?_⟩
  · simp [results, Try.results9, go_sem, d0, d1, d2, d3, d4]
  · have h1 : OwnI w2.heap.size w5 (.slice va n vc) (intsN L) := by
      have := ownI_below (ownI_below HO3.out HB4.out) HB5.out
      rw [HZ.out.2] at this
      exact this
    exact ownI_mono (ownsRow_setCell_below (a := ⟨b + 1, 4, none⟩) (ownsRow_setCell_below (a := ⟨b + 1, 3, none⟩) (ownsRow_setCell_below (a := ⟨b + 1, 2, none⟩) (ownsRow_setCell_below (a := ⟨b + 1, 1, none⟩) (ownsRow_setCell_below (a := ⟨b + 1, 0, none⟩) h1 HB3.out.2.2 (.int .u32 (sq : Int))) HB3.out.2.2 (.slice va n vc)) HB3.out.2.2 (.int .i64 (sp : Int))) HB3.out.2.2 (.int .i64 (de : Int))) HB3.out.2.2 (.int .i64 (dn : Int))) HB3.out.2.1
  · have h2 : Below w.heap.size w w5 := bel_trans (bel_trans HB3.out.1 HB4.out) HB5.out
    exact (Below.setCell (p := ⟨b + 1, 4, none⟩) (Below.setCell (p := ⟨b + 1, 3, none⟩) (Below.setCell (p := ⟨b + 1, 2, none⟩) (Below.setCell (p := ⟨b + 1, 1, none⟩) (Below.setCell (p := ⟨b + 1, 0, none⟩) h2 (by show w.heap.size ≤ b + 1; have := HBB.out; omega) (.int .u32 (sq : Int))) (by show w.heap.size ≤ b + 1; have := HBB.out; omega) (.slice va n vc)) (by show w.heap.size ≤ b + 1; have := HBB.out; omega) (.int .i64 (sp : Int))) (by show w.heap.size ≤ b + 1; have := HBB.out; omega) (.int .i64 (de : Int))) (by show w.heap.size ≤ b + 1; have := HBB.out; omega) (.int .i64 (dn : Int)))
end Go.Proofs.Ytdljihemnfpkaaa
