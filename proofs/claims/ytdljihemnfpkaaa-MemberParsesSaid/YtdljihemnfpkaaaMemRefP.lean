/- gabionref12.Parse of any bytes. -/
import Derived.Test.YtdljihemnfpkaaaMemRefC
import Derived.Test.YtdljihemnfpkaaaMemParB
import Derived.Test.YtdljihemnfpkaaaEnds
import Derived.Test.YtdljihemnfpkaaaWd
namespace Go.Proofs.Ytdljihemnfpkaaa
open Go.RowKit Go.Deep

theorem wrapq (q : Int) (h0 : 0 ≤ q) (h1 : q < 1000) : wrap64 q = q ∧ IntKind.i64.wrap q = q := by
  constructor
  · exact IntWalk.wrap64_in _ (by omega)
  · rw [IntKind.wrap_i64]; omega
theorem intsN_inR {L : List Nat} (h : ∀ x ∈ L, x < 256) : ∀ z ∈ intsN L, -9223372036854775808 ≤ z ∧ z ≤ 9223372036854775807 := by
  intro z hz
  unfold intsN at hz
  rw [List.mem_map] at hz
  obtain ⟨y, hy, rfl⟩ := hz
  have := h y hy
  omega
theorem tst (y c : Nat) (h : y ≠ c) : ((y : Int) != (c : Int)) = true := by simp; omega
theorem tsf (y c : Nat) (h : y = c) : ((y : Int) != (c : Int)) = false := by simp [h]
theorem mk6 (x : Nat) (h : x < 256) : IntKind.i64.wrap (x : Int) = (x : Int) := by rw [IntKind.wrap_i64]; omega
theorem mkw (x : Nat) (h : x < 1000) : wrap64 (x : Int) = (x : Int) ∧ IntKind.i64.wrap (x : Int) = (x : Int) := wrapq (x : Int) (by omega) (by omega)
set_option maxHeartbeats 400000 in
theorem refInt_any (a : Option Addr) (len cap : Nat) (bs : List Nat) (at_ n : Nat) (w : World) (hr : Row w a len bs) (hl : at_ + n ≤ len) (hlen : len ≤ 1000) (hn : n ≤ 4) :
    Calls Try.prog 35 #[.slice a len cap, .int .i64 (at_ : Int), .int .i64 (n : Int)] w fun e w' => e = .returned (.int .i64 ((leVal ((bs.drop at_).take n) : Nat) : Int)) ∧ w' = w := by
  obtain ⟨v, hv⟩ : ∃ v, leVal ((bs.drop at_).take n) = v := ⟨_, rfl⟩
  have hvl : v < 4294967296 := by
    rw [← hv]
    have h1 := leVal_lt ((bs.drop at_).take n) (fun y hy => hr.2.1 y (List.mem_of_mem_drop (List.mem_of_mem_take hy)))
    have h2 : 256 ^ ((bs.drop at_).take n).length ≤ 256 ^ 4 := Nat.pow_le_pow_right (by decide) (by rw [List.length_take]; omega)
    omega
  have hw : IntKind.i64.wrap (v : Int) = (v : Int) := by rw [IntKind.wrap_i64]; omega
  have HN := Lib.hid (refNum_any a len cap bs at_ n w hr hl hlen hn)
  rw [hv] at HN ⊢
  clear hv hr
  go_enter Try.func35, Try.ntmps35
  go_wp2_with fail
  ((with_reducible refine HN.out.mono ?_))
  rintro e w1 ⟨rfl, rfl⟩
  go_wp2
  go_ret
  exact ⟨rfl, rfl⟩
theorem refInt2 (a : Option Addr) (cap : Nat) (bs : List Nat) (at_ : Nat) (w : World) (hr : Row w a 256 bs) (hl : at_ + 2 ≤ 256) :
    Calls Try.prog 35 #[.slice a 256 cap, .int .i64 (at_ : Int), .int .i64 2] w fun e w' => e = .returned (.int .i64 ((leVal ((bs.drop at_).take 2) : Nat) : Int)) ∧ w' = w := refInt_any a 256 cap bs at_ 2 w hr hl (by omega) (by omega)
def RefParRet (w : World) (sq : Nat) (L : List Nat) (sp de dn : Nat) (code : Int) (e : Ending) (w' : World) : Prop :=
  ∃ cv, e = .returned (.tuple #[.agg #[.int .i64 (sq : Int), cv, .int .i64 (sp : Int), .int .i64 (de : Int), .int .i64 (dn : Int)], .int .i64 code]) ∧ OwnI w.heap.size w' cv (intsN L) ∧ Below w.heap.size w w'
set_option maxRecDepth 100000 in
set_option maxHeartbeats 16000000 in
theorem refPar_closed (ki ep ba ix ct bl mo n : Nat) (a a2 : Option Addr) (cap c2 : Nat) (w : World) (HOP : Hid (∀ x : World, Below w.heap.size w x → Calls Try.prog 33 #[.slice a 256 cap, .slice a2 64 c2] x fun e w' => e = .returned (.tuple #[.agg #[.int .i64 (ki : Int), .int .i64 (ep : Int), .int .i64 (ba : Int), .int .i64 (ix : Int), .int .i64 (ct : Int), .int .i64 (bl : Int), .int .i64 (mo : Int)], .bool false]) ∧ Below x.heap.size x w')) : Calls Try.prog 16 #[.agg #[.int .i64 (n : Int), .int .i64 20, .int .i64 6, .int .i64 256], .slice a 256 cap, .slice a2 64 c2] w (RefParRet w 0 [] 0 0 0 63) := by
  go_enter Try.func16, Try.ntmps16
  go_upto_region 1 with fail
  obtain ⟨w0, hw0⟩ : ∃ x, x = (w.alloc (.cells #[.int .i64 (n : Int), .int .i64 20, .int .i64 6, .int .i64 256] 27)).alloc (.cells #[.int .i64 0, .slice none 0 0, .int .i64 0, .int .i64 0, .int .i64 0] 42) := ⟨_, rfl⟩
  obtain ⟨b, hb⟩ : ∃ x, x = w.heap.size := ⟨_, rfl⟩
  obtain ⟨g0, r0, hbq, _⟩ := geoBox_new w #[.int .i64 (n : Int), .int .i64 20, .int .i64 6, .int .i64 256] #[.int .i64 0, .slice none 0 0, .int .i64 0, .int .i64 0, .int .i64 0] 27 42
  rw [← hw0, ← hb] at g0 r0
  rw [← hw0] at hbq
  rw [← hw0, ← hb]
  have HB0 : Hid (Below w.heap.size w w0) := Lib.hid hbq
  have HBB := Lib.hid hb
  have G0 := Lib.hid (And.intro g0 r0)
  clear hw0 hb g0 r0 hbq
  go_wp2_with fail
  ((with_reducible refine (HOP.out _ HB0.out).mono ?_))
  rintro e w1 ⟨rfl, hb1⟩
  have G1 : Hid (w1.heap[b]? = some (.cells #[.int .i64 (n : Int), .int .i64 20, .int .i64 6, .int .i64 256] 27 (0, 0)) ∧ w1.heap[b + 1]? = some (.cells #[.int .i64 0, .slice none 0 0, .int .i64 0, .int .i64 0, .int .i64 0] 42 (0, 0))) := Lib.hid ⟨(hb1.block _ (Array.getElem?_eq_some_iff.1 G0.out.1).1).trans G0.out.1, (hb1.block _ (Array.getElem?_eq_some_iff.1 G0.out.2).1).trans G0.out.2⟩
  have HB1 : Hid (Below w.heap.size w w1) := Lib.hid (bel_trans HB0.out hb1)
  clear hb1 G0 HB0 HOP
  go_upto_region 2 with fail
  have h2 := heap_alloc_new w1 (.cells #[.int .i64 (ki : Int), .int .i64 (ep : Int), .int .i64 (ba : Int), .int .i64 (ix : Int), .int .i64 (ct : Int), .int .i64 (bl : Int), .int .i64 (mo : Int)] 77)
  have hb2 := bel_alloc (Below.refl w1.heap.size w1) (.cells #[.int .i64 (ki : Int), .int .i64 (ep : Int), .int .i64 (ba : Int), .int .i64 (ix : Int), .int .i64 (ct : Int), .int .i64 (bl : Int), .int .i64 (mo : Int)] 77)
  obtain ⟨w2, hw2⟩ : ∃ x, x = w1.alloc (.cells #[.int .i64 (ki : Int), .int .i64 (ep : Int), .int .i64 (ba : Int), .int .i64 (ix : Int), .int .i64 (ct : Int), .int .i64 (bl : Int), .int .i64 (mo : Int)] 77) := ⟨_, rfl⟩
  obtain ⟨hbk, hhb⟩ : ∃ x, x = w1.heap.size := ⟨_, rfl⟩
  rw [← hw2] at h2 hb2 ⊢
  rw [← hhb] at h2 ⊢
  have H2 := Lib.hid h2
  have G2 : Hid (w2.heap[b]? = some (.cells #[.int .i64 (n : Int), .int .i64 20, .int .i64 6, .int .i64 256] 27 (0, 0)) ∧ w2.heap[b + 1]? = some (.cells #[.int .i64 0, .slice none 0 0, .int .i64 0, .int .i64 0, .int .i64 0] 42 (0, 0))) := Lib.hid ⟨(hb2.block _ (Array.getElem?_eq_some_iff.1 G1.out.1).1).trans G1.out.1, (hb2.block _ (Array.getElem?_eq_some_iff.1 G1.out.2).1).trans G1.out.2⟩
  have HB2 : Hid (Below w.heap.size w w2) := Lib.hid (bel_trans HB1.out hb2)
  clear h2 hb2 hw2 hhb G1 HB1
  obtain ⟨d0, d1, d2, d3, d4⟩ := five_at G2.out.2
  have df := mfree_at G2.out.2
  have f0 := df 0
  have f1 := df 1
  have f2 := df 2
  have f3 := df 3
  have f4 := df 4
  clear df
  go_wp2_with fail
  refine bodyPost_ret (v := .tuple #[.agg #[.int .i64 0, .slice none 0 0, .int .i64 0, .int .i64 0, .int .i64 0], .int .i64 63]) ?_ rfl ⟨.slice none 0 0, rfl, ownI_nil _ _, ?_⟩
  · simp [results, Try.results16, go_sem, d0, d1, d2, d3, d4]
  · exact bel_five HB2.out (b + 1) (by have := HBB.out; omega) _ _ _ _ _
set_option maxRecDepth 100000 in
set_option maxHeartbeats 16000000 in
theorem refPar_kind (ki ep ba ix ct bl mo n : Nat) (a a2 : Option Addr) (cap c2 : Nat) (w : World) (hk : ki ≠ 2) (HOP : Hid (∀ x : World, Below w.heap.size w x → Calls Try.prog 33 #[.slice a 256 cap, .slice a2 64 c2] x fun e w' => e = .returned (.tuple #[.agg #[.int .i64 (ki : Int), .int .i64 (ep : Int), .int .i64 (ba : Int), .int .i64 (ix : Int), .int .i64 (ct : Int), .int .i64 (bl : Int), .int .i64 (mo : Int)], .bool true]) ∧ Below x.heap.size x w')) : Calls Try.prog 16 #[.agg #[.int .i64 (n : Int), .int .i64 20, .int .i64 6, .int .i64 256], .slice a 256 cap, .slice a2 64 c2] w (RefParRet w 0 [] 0 0 0 63) := by
  have t2 : ((ki : Int) != 2) = true := by simp; omega
  clear hk
  go_enter Try.func16, Try.ntmps16
  go_upto_region 1 with fail
  obtain ⟨w0, hw0⟩ : ∃ x, x = (w.alloc (.cells #[.int .i64 (n : Int), .int .i64 20, .int .i64 6, .int .i64 256] 27)).alloc (.cells #[.int .i64 0, .slice none 0 0, .int .i64 0, .int .i64 0, .int .i64 0] 42) := ⟨_, rfl⟩
  obtain ⟨b, hb⟩ : ∃ x, x = w.heap.size := ⟨_, rfl⟩
  obtain ⟨g0, r0, hbq, _⟩ := geoBox_new w #[.int .i64 (n : Int), .int .i64 20, .int .i64 6, .int .i64 256] #[.int .i64 0, .slice none 0 0, .int .i64 0, .int .i64 0, .int .i64 0] 27 42
  rw [← hw0, ← hb] at g0 r0
  rw [← hw0] at hbq
  rw [← hw0, ← hb]
  have HB0 : Hid (Below w.heap.size w w0) := Lib.hid hbq
  have HBB := Lib.hid hb
  have G0 := Lib.hid (And.intro g0 r0)
  clear hw0 hb g0 r0 hbq
  go_wp2_with fail
  ((with_reducible refine (HOP.out _ HB0.out).mono ?_))
  rintro e w1 ⟨rfl, hb1⟩
  have G1 : Hid (w1.heap[b]? = some (.cells #[.int .i64 (n : Int), .int .i64 20, .int .i64 6, .int .i64 256] 27 (0, 0)) ∧ w1.heap[b + 1]? = some (.cells #[.int .i64 0, .slice none 0 0, .int .i64 0, .int .i64 0, .int .i64 0] 42 (0, 0))) := Lib.hid ⟨(hb1.block _ (Array.getElem?_eq_some_iff.1 G0.out.1).1).trans G0.out.1, (hb1.block _ (Array.getElem?_eq_some_iff.1 G0.out.2).1).trans G0.out.2⟩
  have HB1 : Hid (Below w.heap.size w w1) := Lib.hid (bel_trans HB0.out hb1)
  clear hb1 G0 HB0 HOP
  go_upto_region 2 with fail
  have h2 := heap_alloc_new w1 (.cells #[.int .i64 (ki : Int), .int .i64 (ep : Int), .int .i64 (ba : Int), .int .i64 (ix : Int), .int .i64 (ct : Int), .int .i64 (bl : Int), .int .i64 (mo : Int)] 77)
  have hb2 := bel_alloc (Below.refl w1.heap.size w1) (.cells #[.int .i64 (ki : Int), .int .i64 (ep : Int), .int .i64 (ba : Int), .int .i64 (ix : Int), .int .i64 (ct : Int), .int .i64 (bl : Int), .int .i64 (mo : Int)] 77)
  obtain ⟨w2, hw2⟩ : ∃ x, x = w1.alloc (.cells #[.int .i64 (ki : Int), .int .i64 (ep : Int), .int .i64 (ba : Int), .int .i64 (ix : Int), .int .i64 (ct : Int), .int .i64 (bl : Int), .int .i64 (mo : Int)] 77) := ⟨_, rfl⟩
  obtain ⟨hbk, hhb⟩ : ∃ x, x = w1.heap.size := ⟨_, rfl⟩
  rw [← hw2] at h2 hb2 ⊢
  rw [← hhb] at h2 ⊢
  have H2 := Lib.hid h2
  have G2 : Hid (w2.heap[b]? = some (.cells #[.int .i64 (n : Int), .int .i64 20, .int .i64 6, .int .i64 256] 27 (0, 0)) ∧ w2.heap[b + 1]? = some (.cells #[.int .i64 0, .slice none 0 0, .int .i64 0, .int .i64 0, .int .i64 0] 42 (0, 0))) := Lib.hid ⟨(hb2.block _ (Array.getElem?_eq_some_iff.1 G1.out.1).1).trans G1.out.1, (hb2.block _ (Array.getElem?_eq_some_iff.1 G1.out.2).1).trans G1.out.2⟩
  have HB2 : Hid (Below w.heap.size w w2) := Lib.hid (bel_trans HB1.out hb2)
  clear h2 hb2 hw2 hhb G1 HB1
  have hh0 := (wide_cells (h := ⟨ki, ep, ba, ix, ct, bl, mo⟩) H2.out).1
  change w2.cell? ⟨hbk, 0, none⟩ = some (.int .i64 (ki : Int)) at hh0
  obtain ⟨d0, d1, d2, d3, d4⟩ := five_at G2.out.2
  have df := mfree_at G2.out.2
  have f0 := df 0
  have f1 := df 1
  have f2 := df 2
  have f3 := df 3
  have f4 := df 4
  clear df
  go_wp2_with fail
  refine bodyPost_ret (v := .tuple #[.agg #[.int .i64 0, .slice none 0 0, .int .i64 0, .int .i64 0, .int .i64 0], .int .i64 63]) ?_ rfl ⟨.slice none 0 0, rfl, ownI_nil _ _, ?_⟩
  · simp [results, Try.results16, go_sem, d0, d1, d2, d3, d4]
  · exact bel_five HB2.out (b + 1) (by have := HBB.out; omega) _ _ _ _ _
set_option maxRecDepth 100000 in
set_option maxHeartbeats 16000000 in
theorem refPar_out (ep ba ix ct bl mo n : Nat) (a2 : Option Addr) (cap c2 : Nat) (w : World) (da off : Nat) (D : List Nat) (hD : Row w (some ⟨da, off, none⟩) 256 D) (nn : Nat) (hnn : nn = D.getD 4 0) (hn2 : nn < 256) (hl : 256 < 14 + nn) (HOP : Hid (∀ x : World, Below w.heap.size w x → Calls Try.prog 33 #[.slice (some ⟨da, off, none⟩) 256 cap, .slice a2 64 c2] x fun e w' => e = .returned (.tuple #[.agg #[.int .i64 2, .int .i64 (ep : Int), .int .i64 (ba : Int), .int .i64 (ix : Int), .int .i64 (ct : Int), .int .i64 (bl : Int), .int .i64 (mo : Int)], .bool true]) ∧ Below x.heap.size x w')) : Calls Try.prog 16 #[.agg #[.int .i64 (n : Int), .int .i64 20, .int .i64 6, .int .i64 256], .slice (some ⟨da, off, none⟩) 256 cap, .slice a2 64 c2] w (RefParRet w 0 [] 0 0 0 62) := by
  have t1 : decide ((256 : Int) < 14 + (nn : Int)) = true := by simp; omega
  have t1' : decide (256 < 14 + nn) = true := by simp; omega
  go_enter Try.func16, Try.ntmps16
  go_upto_region 1 with fail
  obtain ⟨w0, hw0⟩ : ∃ x, x = (w.alloc (.cells #[.int .i64 (n : Int), .int .i64 20, .int .i64 6, .int .i64 256] 27)).alloc (.cells #[.int .i64 0, .slice none 0 0, .int .i64 0, .int .i64 0, .int .i64 0] 42) := ⟨_, rfl⟩
  obtain ⟨b, hb⟩ : ∃ x, x = w.heap.size := ⟨_, rfl⟩
  obtain ⟨g0, r0, hbq, _⟩ := geoBox_new w #[.int .i64 (n : Int), .int .i64 20, .int .i64 6, .int .i64 256] #[.int .i64 0, .slice none 0 0, .int .i64 0, .int .i64 0, .int .i64 0] 27 42
  rw [← hw0, ← hb] at g0 r0
  rw [← hw0] at hbq
  rw [← hw0, ← hb]
  have HB0 : Hid (Below w.heap.size w w0) := Lib.hid hbq
  have HBB := Lib.hid hb
  have G0 := Lib.hid (And.intro g0 r0)
  clear hw0 hb g0 r0 hbq
  go_wp2_with fail
  ((with_reducible refine (HOP.out _ HB0.out).mono ?_))
  rintro e w1 ⟨rfl, hb1⟩
  have G1 : Hid (w1.heap[b]? = some (.cells #[.int .i64 (n : Int), .int .i64 20, .int .i64 6, .int .i64 256] 27 (0, 0)) ∧ w1.heap[b + 1]? = some (.cells #[.int .i64 0, .slice none 0 0, .int .i64 0, .int .i64 0, .int .i64 0] 42 (0, 0))) := Lib.hid ⟨(hb1.block _ (Array.getElem?_eq_some_iff.1 G0.out.1).1).trans G0.out.1, (hb1.block _ (Array.getElem?_eq_some_iff.1 G0.out.2).1).trans G0.out.2⟩
  have HB1 : Hid (Below w.heap.size w w1) := Lib.hid (bel_trans HB0.out hb1)
  clear hb1 G0 HB0 HOP
  go_upto_region 4 with fail
  have h2 := heap_alloc_new w1 (.cells #[.int .i64 2, .int .i64 (ep : Int), .int .i64 (ba : Int), .int .i64 (ix : Int), .int .i64 (ct : Int), .int .i64 (bl : Int), .int .i64 (mo : Int)] 77)
  have hb2 := bel_alloc (Below.refl w1.heap.size w1) (.cells #[.int .i64 2, .int .i64 (ep : Int), .int .i64 (ba : Int), .int .i64 (ix : Int), .int .i64 (ct : Int), .int .i64 (bl : Int), .int .i64 (mo : Int)] 77)
  obtain ⟨w2, hw2⟩ : ∃ x, x = w1.alloc (.cells #[.int .i64 2, .int .i64 (ep : Int), .int .i64 (ba : Int), .int .i64 (ix : Int), .int .i64 (ct : Int), .int .i64 (bl : Int), .int .i64 (mo : Int)] 77) := ⟨_, rfl⟩
  obtain ⟨hbk, hhb⟩ : ∃ x, x = w1.heap.size := ⟨_, rfl⟩
  rw [← hw2] at h2 hb2 ⊢
  rw [← hhb] at h2 ⊢
  have H2 := Lib.hid h2
  have G2 : Hid (w2.heap[b]? = some (.cells #[.int .i64 (n : Int), .int .i64 20, .int .i64 6, .int .i64 256] 27 (0, 0)) ∧ w2.heap[b + 1]? = some (.cells #[.int .i64 0, .slice none 0 0, .int .i64 0, .int .i64 0, .int .i64 0] 42 (0, 0))) := Lib.hid ⟨(hb2.block _ (Array.getElem?_eq_some_iff.1 G1.out.1).1).trans G1.out.1, (hb2.block _ (Array.getElem?_eq_some_iff.1 G1.out.2).1).trans G1.out.2⟩
  have HB2 : Hid (Below w.heap.size w w2) := Lib.hid (bel_trans HB1.out hb2)
  clear h2 hb2 hw2 hhb G1 HB1
  have hc4 : w2.cell? ⟨da, off + 4, none⟩ = some (.int .u8 (nn : Int)) := by
    obtain ⟨b', o', e, hc⟩ := (row_keep hD HB2.out (Nat.le_refl _)).2.2 (by omega)
    cases e
    rw [hc 4 (by omega), hnn]
  have m4 : IntKind.i64.wrap (nn : Int) = (nn : Int) := by rw [IntKind.wrap_i64]; omega
  clear hl hnn hD
  obtain ⟨d0, d1, d2, d3, d4⟩ := five_at G2.out.2
  have df := mfree_at G2.out.2
  have f0 := df 0
  have f1 := df 1
  have f2 := df 2
  have f3 := df 3
  have f4 := df 4
  clear df
  go_wp2_with fail
  refine bodyPost_ret (v := .tuple #[.agg #[.int .i64 0, .slice none 0 0, .int .i64 0, .int .i64 0, .int .i64 0], .int .i64 62]) ?_ rfl ⟨.slice none 0 0, rfl, ownI_nil _ _, ?_⟩
  · simp [results, Try.results16, go_sem, d0, d1, d2, d3, d4]
  · exact bel_five HB2.out (b + 1) (by have := HBB.out; omega) _ _ _ _ _
end Go.Proofs.Ytdljihemnfpkaaa
