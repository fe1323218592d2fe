/- GeomNexts: the walk. -/
import Derived.Test.YtmggjknljbpbgaaGeoNx
import Derived.Test.YtmggjknljbpbgaaGeoS
namespace Go.Proofs.Ytmggjknljbpbgaa
open Go.RowKit Go.Deep

theorem wfn_u32' {x : Int} (h : (Lit.int .u32 x).wf = true) : ∃ n : Nat, x = (n : Int) ∧ n < 4294967296 := by
  have hm : IntKind.u32.min = 0 := by decide
  have hM : IntKind.u32.max = 4294967295 := by decide
  simp [Lit.wf, hm, hM] at h
  exact ⟨x.toNat, by omega, by omega⟩
theorem block_step {x y : World} {B : Nat} {o : Obj} (h : x.heap[B]? = some o) (hb : Below x.heap.size x y) : y.heap[B]? = some o := (hb.block _ (Array.getElem?_eq_some_iff.1 h).1).trans h

/-- Two places' boxes, and what was there ahead of them. -/
def NX (W : World) (a b c d : Int) (bp bq : Nat) (p q r p' q' r' : Int) (x : World) : Prop :=
  GS W W.heap.size a b c d x ∧ x.heap[bp]? = some (.cells #[.int .i64 p, .int .i64 q, .int .i64 r] 33 (0, 0)) ∧ x.heap[bq]? = some (.cells #[.int .i64 p', .int .i64 q', .int .i64 r'] 33 (0, 0)) ∧ W.heap.size < bp ∧ bp < bq
theorem set_blk {x : World} {B o : Nat} {cs : Array Value} {t : TypeId} (v : Value) (h : x.heap[B]? = some (.cells cs t (0, 0))) : (x.setCell ⟨B, o, none⟩ v).heap[B]? = some (.cells (cs.setIfInBounds o v) t (0, 0)) := by
  unfold World.setCell
  simp only
  rw [Array.getElem?_modify, if_pos rfl, h]
  rfl
section
variable {W : World} {a b c d : Int} {bp bq : Nat} {p q r p' q' r' : Int} {x : World}
theorem NX.gs (h : NX W a b c d bp bq p q r p' q' r' x) (o : Nat) (v : Value) : GS W W.heap.size a b c d (x.setCell ⟨bp, o, none⟩ v) := h.1.set (by have := h.2.2.2.1; omega) (by have := h.2.2.2.1; omega) _ _
theorem NX.other (h : NX W a b c d bp bq p q r p' q' r' x) (o : Nat) (v : Value) : (x.setCell ⟨bp, o, none⟩ v).heap[bq]? = some (.cells #[.int .i64 p', .int .i64 q', .int .i64 r'] 33 (0, 0)) :=
  (blk_setCell_other _ _ _ _ (by show bq ≠ bp; have := h.2.2.2.2; omega)).trans h.2.2.1
theorem NX.set0 (h : NX W a b c d bp bq p q r p' q' r' x) (v : Int) : NX W a b c d bp bq v q r p' q' r' (x.setCell ⟨bp, 0, none⟩ (.int .i64 v)) := ⟨h.gs _ _, set_blk _ h.2.1, h.other _ _, h.2.2.2⟩
theorem NX.set1 (h : NX W a b c d bp bq p q r p' q' r' x) (v : Int) : NX W a b c d bp bq p v r p' q' r' (x.setCell ⟨bp, 1, none⟩ (.int .i64 v)) := ⟨h.gs _ _, set_blk _ h.2.1, h.other _ _, h.2.2.2⟩
theorem NX.set2 (h : NX W a b c d bp bq p q r p' q' r' x) (v : Int) : NX W a b c d bp bq p q v p' q' r' (x.setCell ⟨bp, 2, none⟩ (.int .i64 v)) := ⟨h.gs _ _, set_blk _ h.2.1, h.other _ _, h.2.2.2⟩
end

set_option maxHeartbeats 1600000 in
theorem nexts_badGeo (a b c d : Int) (n : Nat) (w : World) (hg : ¬ GoodG a b c d) :
    Calls Try.prog 8 #[.agg #[.int .i64 a, .int .i64 b, .int .i64 c, .int .i64 d], .int .u32 (n : Int)] w fun e w' => e = .returned (.bool true) ∧ Below w.heap.size w w' := by
  have HS := Lib.hid (gs_new w a b c d)
  have HPl := Lib.hid placed_any
  have HC := Lib.hid fun x : World => check_bad a b c d x hg
  clear hg
  go_enter Try.func8, Try.ntmps8
  obtain ⟨c0, c1, c2, c3, _⟩ := HS.out
  go_wp2_with fail
  ((with_reducible refine (HC.out _).mono ?_))
  rintro e w0 ⟨rfl, hb⟩
  have HS0 := Lib.hid (HS.out.step hb)
  clear hb c0 c1 c2 c3
  go_wp2_with fail
  ((with_reducible refine (HPl.out _).mono ?_))
  rintro e w1 ⟨rfl, hb⟩
  have HS1 := Lib.hid (HS0.out.step hb)
  clear hb
  go_wp2
  go_ret
  exact ⟨rfl, HS1.out.2.2.2.2⟩
set_option maxHeartbeats 1600000 in
theorem nexts_zero (a b c d : Int) (n : Nat) (w : World) (hg : GoodG a b c d) (hn : n = 0) :
    Calls Try.prog 8 #[.agg #[.int .i64 a, .int .i64 b, .int .i64 c, .int .i64 d], .int .u32 (n : Int)] w fun e w' => e = .returned (.bool true) ∧ Below w.heap.size w w' := by
  have HS := Lib.hid (gs_new w a b c d)
  have HPl := Lib.hid placed_any
  have HC := Lib.hid fun x : World => check_good a b c d x hg
  have k1 : ((n : Int) == 0) = true := by simp; omega
  have k2 : (n == 0) = true := by simp; omega
  clear hg hn
  go_enter Try.func8, Try.ntmps8
  obtain ⟨c0, c1, c2, c3, _⟩ := HS.out
  go_wp2_with fail
  ((with_reducible refine (HC.out _).mono ?_))
  rintro e w0 ⟨rfl, hb⟩
  have HS0 := Lib.hid (HS.out.step hb)
  clear hb c0 c1 c2 c3
  go_wp2_with fail
  ((with_reducible refine (HPl.out _).mono ?_))
  rintro e w1 ⟨rfl, hb⟩
  have HS1 := Lib.hid (HS0.out.step hb)
  clear hb
  go_wp2
  go_ret
  exact ⟨rfl, HS1.out.2.2.2.2⟩
set_option maxHeartbeats 1600000 in
theorem nexts_great (a b c d : Int) (n : Nat) (w : World) (hg : GoodG a b c d) (hn : 1000000 < n) :
    Calls Try.prog 8 #[.agg #[.int .i64 a, .int .i64 b, .int .i64 c, .int .i64 d], .int .u32 (n : Int)] w fun e w' => e = .returned (.bool true) ∧ Below w.heap.size w w' := by
  have HS := Lib.hid (gs_new w a b c d)
  have HPl := Lib.hid placed_any
  have HC := Lib.hid fun x : World => check_good a b c d x hg
  have k1 : ((n : Int) == 0) = false := by simp; omega
  have k2 : decide (1000000 < (n : Int)) = true := by simp; omega
  clear hg hn
  go_enter Try.func8, Try.ntmps8
  obtain ⟨c0, c1, c2, c3, _⟩ := HS.out
  go_wp2_with fail
  ((with_reducible refine (HC.out _).mono ?_))
  rintro e w0 ⟨rfl, hb⟩
  have HS0 := Lib.hid (HS.out.step hb)
  clear hb c0 c1 c2 c3
  go_wp2_with fail
  ((with_reducible refine (HPl.out _).mono ?_))
  rintro e w1 ⟨rfl, hb⟩
  have HS1 := Lib.hid (HS0.out.step hb)
  clear hb
  go_wp2
  go_ret
  exact ⟨rfl, HS1.out.2.2.2.2⟩
set_option maxRecDepth 100000 in
set_option maxHeartbeats 3200000 in
theorem nexts_ok (a b c d : Int) (i : Nat) (w : World) (hg : GoodG a b c d) (hi : i < 1000000) (hv : (i : Int) + 1 < (b - 5) * (c * (a - 1))) :
    Calls Try.prog 8 #[.agg #[.int .i64 a, .int .i64 b, .int .i64 c, .int .i64 d], .int .u32 ((i : Int) + 1)] w fun e w' => e = .returned (.bool true) ∧ Below w.heap.size w w' := by
  have HS := Lib.hid (gs_new w a b c d)
  have HPl := Lib.hid placed_any
  have HC := Lib.hid fun x : World => check_good a b c d x hg
  have k1 : ((i : Int) + 1 == 0) = false := by simp; omega
  have k2 : decide (1000000 < (i : Int) + 1) = false := by simp; omega
  have HA1 := Lib.hid fun x : World => at_ok a b c d i x hg (by omega)
  have HA2 := Lib.hid fun x : World => at_ok a b c d (i + 1) x hg (by omega)
  rw [show (((i + 1 : Nat) : Int)) + 1 = (i : Int) + 1 + 1 by omega] at HA2
  have HN := Lib.hid (at_next a c i hg.1 hg.2.2.2.2.1)
  obtain ⟨st, sl, sg, rw', F⟩ := atF a c i hg.1 hg.2.1 hg.2.2.2.2.1 hg.2.2.2.2.2.1 (by omega)
  obtain ⟨st2, sl2, sg2, rw2, F2⟩ := atF a c (i + 1) hg.1 hg.2.1 hg.2.2.2.2.1 hg.2.2.2.2.2.1 (by omega)
  rw [← F.a2, ← F.a3, ← F.a4] at HA1 HN
  rw [← F2.a2, ← F2.a3, ← F2.a4] at HA2 HN
  have HF := Lib.hid F
  clear F F2
  have g1 := hg.1
  have g2 := hg.2.1
  have g5 := hg.2.2.2.2.1
  have g6 := hg.2.2.2.2.2.1
  clear hg hv
  go_enter Try.func8, Try.ntmps8
  obtain ⟨c0, c1, c2, c3, _⟩ := HS.out
  go_wp2_with fail
  ((with_reducible refine (HC.out _).mono ?_))
  rintro e w0 ⟨rfl, hb⟩
  have HS0 := Lib.hid (HS.out.step hb)
  clear hb c0 c1 c2 c3
  obtain ⟨c0, c1, c2, c3, _⟩ := HS0.out
  go_wp2_with fail
  ((with_reducible refine (HA1.out _).mono ?_))
  rintro e w1 ⟨rfl, hb⟩
  have HS1 := Lib.hid ((HS0.out.step hb).step (bel_alloc (Below.refl _ w1) (.cells #[.int .i64 sg, .int .i64 rw', .int .i64 sl] 33)))
  have hb1 := (HS0.out.step hb).1
  have HP1 := Lib.hid (heap_alloc_new w1 (.cells #[.int .i64 sg, .int .i64 rw', .int .i64 sl] 33))
  clear hb c0 c1 c2 c3
  obtain ⟨bp, hbp⟩ : ∃ bp, bp = w1.heap.size := ⟨_, rfl⟩
  have HBP : Hid (w.heap.size < bp) := Lib.hid (by rw [hbp]; exact World.block_lt_of_cell? w1 _ hb1)
  go_upto_region 4 with fail
  rw [← hbp] at HP1 ⊢
  obtain ⟨w1', hw1⟩ : ∃ x, x = w1.alloc (.cells #[.int .i64 sg, .int .i64 rw', .int .i64 sl] 33) := ⟨_, rfl⟩
  rw [← hw1] at HP1 HS1 ⊢
  clear hw1 hbp hb1
  obtain ⟨c0, c1, c2, c3, _⟩ := HS1.out
  go_wp2_with fail
  ((with_reducible refine (HA2.out _).mono ?_))
  rintro e w2 ⟨rfl, hb⟩
  have HP2 := Lib.hid (block_step (block_step HP1.out hb) (bel_alloc (Below.refl _ w2) (.cells #[.int .i64 sg2, .int .i64 rw2, .int .i64 sl2] 33)))
  have HS2 := Lib.hid ((HS1.out.step hb).step (bel_alloc (Below.refl _ w2) (.cells #[.int .i64 sg2, .int .i64 rw2, .int .i64 sl2] 33)))
  have HQ2 := Lib.hid (heap_alloc_new w2 (.cells #[.int .i64 sg2, .int .i64 rw2, .int .i64 sl2] 33))
  have hpl := (Array.getElem?_eq_some_iff.1 (block_step HP1.out hb)).1
  clear hb c0 c1 c2 c3
  obtain ⟨bq, hbq⟩ : ∃ bq, bq = w2.heap.size := ⟨_, rfl⟩
  have HBQ : Hid (bp < bq) := Lib.hid (by rw [hbq]; exact hpl)
  go_upto_region 5 with fail
  rw [← hbq] at HQ2 ⊢
  obtain ⟨w2', hw2⟩ : ∃ x, x = w2.alloc (.cells #[.int .i64 sg2, .int .i64 rw2, .int .i64 sl2] 33) := ⟨_, rfl⟩
  rw [← hw2] at HP2 HS2 HQ2 ⊢
  clear hw2 hbq hpl
  go_wp2_with fail
  ((with_reducible refine (HPl.out _).mono ?_))
  rintro e w3 ⟨rfl, hb⟩
  have HP3 := Lib.hid (block_step HP2.out hb)
  have HQ3 := Lib.hid (block_step HQ2.out hb)
  have HS3 := Lib.hid (HS2.out.step hb)
  clear hb
  have X0 : Hid (NX w a b c d bp bq sg rw' sl sg2 rw2 sl2 w3) := Lib.hid ⟨HS3.out, HP3.out, HQ3.out, HBP.out, HBQ.out⟩
  obtain ⟨b2, b2'⟩ := HF.out.b2
  obtain ⟨b3, b3'⟩ := HF.out.b3
  obtain ⟨b4, b4'⟩ := HF.out.b4
  have HEQ := Lib.hid eql_place
  clear HP3 HQ3 HS3 HP2 HQ2 HS2 HP1 HS1 HS0 HBP HBQ HS HPl HC HA1 HA2
  by_cases h1 : sl + 1 = a - 1
  · obtain ⟨rfl, n2, n3⟩ := HN.out.2 h1
    have t1 : (sl + 1 == a - 1) = true := by simp; exact h1
    by_cases h2 : rw' + 1 = c
    · obtain ⟨rfl, rfl⟩ := n3 h2
      have t2 : (rw' + 1 == c) = true := by simp; exact h2
      have he := HEQ.out (sg + 1) 0 0
      clear h1 h2 n2 n3 HN
      obtain ⟨c0, c1, c2, c3, _⟩ := X0.out.1
      obtain ⟨⟨p0, p1, p2⟩, z0, z1, z2⟩ := three_at X0.out.2.1
      obtain ⟨⟨q0, q1, q2⟩, _⟩ := three_at X0.out.2.2.1
      go_upto_region 8 with fail
      clear c0 c1 c2 c3 p0 p1 p2 z0 z1 z2 q0 q1 q2
      have X1 := Lib.hid (X0.out.set2 (sl + 1))
      obtain ⟨wv1, hx⟩ : ∃ v, v = (w3).setCell ⟨bp, 2, none⟩ (.int .i64 (sl + 1)) := ⟨_, rfl⟩
      rw [← hx] at X1 ⊢
      clear hx
      obtain ⟨c0, c1, c2, c3, _⟩ := X1.out.1
      obtain ⟨⟨p0, p1, p2⟩, z0, z1, z2⟩ := three_at X1.out.2.1
      obtain ⟨⟨q0, q1, q2⟩, _⟩ := three_at X1.out.2.2.1
      go_upto_region 10 with fail
      clear c0 c1 c2 c3 p0 p1 p2 z0 z1 z2 q0 q1 q2
      have X2 := Lib.hid (X1.out.set2 (0))
      obtain ⟨wv2, hx⟩ : ∃ v, v = (wv1).setCell ⟨bp, 2, none⟩ (.int .i64 (0)) := ⟨_, rfl⟩
      rw [← hx] at X2 ⊢
      clear hx
      obtain ⟨c0, c1, c2, c3, _⟩ := X2.out.1
      obtain ⟨⟨p0, p1, p2⟩, z0, z1, z2⟩ := three_at X2.out.2.1
      obtain ⟨⟨q0, q1, q2⟩, _⟩ := three_at X2.out.2.2.1
      go_upto_region 11 with fail
      clear c0 c1 c2 c3 p0 p1 p2 z0 z1 z2 q0 q1 q2
      have X3 := Lib.hid (X2.out.set1 (rw' + 1))
      obtain ⟨wv3, hx⟩ : ∃ v, v = (wv2).setCell ⟨bp, 1, none⟩ (.int .i64 (rw' + 1)) := ⟨_, rfl⟩
      rw [← hx] at X3 ⊢
      clear hx
      obtain ⟨c0, c1, c2, c3, _⟩ := X3.out.1
      obtain ⟨⟨p0, p1, p2⟩, z0, z1, z2⟩ := three_at X3.out.2.1
      obtain ⟨⟨q0, q1, q2⟩, _⟩ := three_at X3.out.2.2.1
      go_upto_region 13 with fail
      clear c0 c1 c2 c3 p0 p1 p2 z0 z1 z2 q0 q1 q2
      have X4 := Lib.hid (X3.out.set1 (0))
      obtain ⟨wv4, hx⟩ : ∃ v, v = (wv3).setCell ⟨bp, 1, none⟩ (.int .i64 (0)) := ⟨_, rfl⟩
      rw [← hx] at X4 ⊢
      clear hx
      obtain ⟨c0, c1, c2, c3, _⟩ := X4.out.1
      obtain ⟨⟨p0, p1, p2⟩, z0, z1, z2⟩ := three_at X4.out.2.1
      obtain ⟨⟨q0, q1, q2⟩, _⟩ := three_at X4.out.2.2.1
      go_upto_region 14 with fail
      clear c0 c1 c2 c3 p0 p1 p2 z0 z1 z2 q0 q1 q2
      have X5 := Lib.hid (X4.out.set0 (sg + 1))
      obtain ⟨wv5, hx⟩ : ∃ v, v = (wv4).setCell ⟨bp, 0, none⟩ (.int .i64 (sg + 1)) := ⟨_, rfl⟩
      rw [← hx] at X5 ⊢
      clear hx
      obtain ⟨c0, c1, c2, c3, _⟩ := X5.out.1
      obtain ⟨⟨p0, p1, p2⟩, z0, z1, z2⟩ := three_at X5.out.2.1
      obtain ⟨⟨q0, q1, q2⟩, _⟩ := three_at X5.out.2.2.1
      go_wp2
      go_ret
      exact ⟨rfl, X5.out.1.2.2.2.2⟩
    · obtain ⟨rfl, rfl⟩ := n2 h2
      have t2 : (rw' + 1 == c) = false := by simp; exact h2
      have he := HEQ.out sg2 (rw' + 1) 0
      clear h1 h2 n2 n3 HN
      obtain ⟨c0, c1, c2, c3, _⟩ := X0.out.1
      obtain ⟨⟨p0, p1, p2⟩, z0, z1, z2⟩ := three_at X0.out.2.1
      obtain ⟨⟨q0, q1, q2⟩, _⟩ := three_at X0.out.2.2.1
      go_upto_region 8 with fail
      clear c0 c1 c2 c3 p0 p1 p2 z0 z1 z2 q0 q1 q2
      have X1 := Lib.hid (X0.out.set2 (sl + 1))
      obtain ⟨wv1, hx⟩ : ∃ v, v = (w3).setCell ⟨bp, 2, none⟩ (.int .i64 (sl + 1)) := ⟨_, rfl⟩
      rw [← hx] at X1 ⊢
      clear hx
      obtain ⟨c0, c1, c2, c3, _⟩ := X1.out.1
      obtain ⟨⟨p0, p1, p2⟩, z0, z1, z2⟩ := three_at X1.out.2.1
      obtain ⟨⟨q0, q1, q2⟩, _⟩ := three_at X1.out.2.2.1
      go_upto_region 10 with fail
      clear c0 c1 c2 c3 p0 p1 p2 z0 z1 z2 q0 q1 q2
      have X2 := Lib.hid (X1.out.set2 (0))
      obtain ⟨wv2, hx⟩ : ∃ v, v = (wv1).setCell ⟨bp, 2, none⟩ (.int .i64 (0)) := ⟨_, rfl⟩
      rw [← hx] at X2 ⊢
      clear hx
      obtain ⟨c0, c1, c2, c3, _⟩ := X2.out.1
      obtain ⟨⟨p0, p1, p2⟩, z0, z1, z2⟩ := three_at X2.out.2.1
      obtain ⟨⟨q0, q1, q2⟩, _⟩ := three_at X2.out.2.2.1
      go_upto_region 11 with fail
      clear c0 c1 c2 c3 p0 p1 p2 z0 z1 z2 q0 q1 q2
      have X3 := Lib.hid (X2.out.set1 (rw' + 1))
      obtain ⟨wv3, hx⟩ : ∃ v, v = (wv2).setCell ⟨bp, 1, none⟩ (.int .i64 (rw' + 1)) := ⟨_, rfl⟩
      rw [← hx] at X3 ⊢
      clear hx
      obtain ⟨c0, c1, c2, c3, _⟩ := X3.out.1
      obtain ⟨⟨p0, p1, p2⟩, z0, z1, z2⟩ := three_at X3.out.2.1
      obtain ⟨⟨q0, q1, q2⟩, _⟩ := three_at X3.out.2.2.1
      go_wp2
      go_ret
      exact ⟨rfl, X3.out.1.2.2.2.2⟩
  · obtain ⟨rfl, rfl, rfl⟩ := HN.out.1 h1
    have t1 : (sl + 1 == a - 1) = false := by simp; exact h1
    have t2 : (rw2 == c) = false := by simp; omega
    have he := HEQ.out sg2 rw2 (sl + 1)
    clear h1 HN
    obtain ⟨c0, c1, c2, c3, _⟩ := X0.out.1
    obtain ⟨⟨p0, p1, p2⟩, z0, z1, z2⟩ := three_at X0.out.2.1
    obtain ⟨⟨q0, q1, q2⟩, _⟩ := three_at X0.out.2.2.1
    go_upto_region 8 with fail
    clear c0 c1 c2 c3 p0 p1 p2 z0 z1 z2 q0 q1 q2
    have X1 := Lib.hid (X0.out.set2 (sl + 1))
    obtain ⟨wv1, hx⟩ : ∃ v, v = (w3).setCell ⟨bp, 2, none⟩ (.int .i64 (sl + 1)) := ⟨_, rfl⟩
    rw [← hx] at X1 ⊢
    clear hx
    obtain ⟨c0, c1, c2, c3, _⟩ := X1.out.1
    obtain ⟨⟨p0, p1, p2⟩, z0, z1, z2⟩ := three_at X1.out.2.1
    obtain ⟨⟨q0, q1, q2⟩, _⟩ := three_at X1.out.2.2.1
    go_wp2
    go_ret
    exact ⟨rfl, X1.out.1.2.2.2.2⟩
set_option maxRecDepth 100000 in
set_option maxHeartbeats 3200000 in
theorem nexts_last (a b c d : Int) (i : Nat) (w : World) (hg : GoodG a b c d) (hi : i < 1000000) (hv : (i : Int) + 1 = (b - 5) * (c * (a - 1))) :
    Calls Try.prog 8 #[.agg #[.int .i64 a, .int .i64 b, .int .i64 c, .int .i64 d], .int .u32 ((i : Int) + 1)] w fun e w' => e = .returned (.bool true) ∧ Below w.heap.size w w' := by
  have HS := Lib.hid (gs_new w a b c d)
  have HPl := Lib.hid placed_any
  have HC := Lib.hid fun x : World => check_good a b c d x hg
  have k1 : ((i : Int) + 1 == 0) = false := by simp; omega
  have k2 : decide (1000000 < (i : Int) + 1) = false := by simp; omega
  have HA1 := Lib.hid fun x : World => at_ok a b c d i x hg (by omega)
  have HA2 := Lib.hid fun x : World => at_over a b c d (i + 1 + 1) x hg (by omega) (by omega)
  rw [show (((i + 1 + 1 : Nat) : Int)) = (i : Int) + 1 + 1 by omega] at HA2
  clear hg hv
  go_enter Try.func8, Try.ntmps8
  obtain ⟨c0, c1, c2, c3, _⟩ := HS.out
  go_wp2_with fail
  ((with_reducible refine (HC.out _).mono ?_))
  rintro e w0 ⟨rfl, hb⟩
  have HS0 := Lib.hid (HS.out.step hb)
  clear hb c0 c1 c2 c3
  obtain ⟨c0, c1, c2, c3, _⟩ := HS0.out
  go_wp2_with fail
  ((with_reducible refine (HA1.out _).mono ?_))
  rintro e w1 ⟨rfl, hb⟩
  have HS1 := Lib.hid ((HS0.out.step hb).step (bel_alloc (Below.refl _ w1) (.cells #[.int .i64 (AtSeg a c i), .int .i64 (AtRow a c i), .int .i64 (AtSlot a i)] 33)))
  have hb1 := (HS0.out.step hb).1
  have HP1 := Lib.hid (heap_alloc_new w1 (.cells #[.int .i64 (AtSeg a c i), .int .i64 (AtRow a c i), .int .i64 (AtSlot a i)] 33))
  clear hb c0 c1 c2 c3
  obtain ⟨bp, hbp⟩ : ∃ bp, bp = w1.heap.size := ⟨_, rfl⟩
  have HBP : Hid (w.heap.size < bp) := Lib.hid (by rw [hbp]; exact World.block_lt_of_cell? w1 _ hb1)
  go_upto_region 4 with fail
  rw [← hbp] at HP1 ⊢
  obtain ⟨w1', hw1⟩ : ∃ x, x = w1.alloc (.cells #[.int .i64 (AtSeg a c i), .int .i64 (AtRow a c i), .int .i64 (AtSlot a i)] 33) := ⟨_, rfl⟩
  rw [← hw1] at HP1 HS1 ⊢
  clear hw1 hbp hb1
  obtain ⟨c0, c1, c2, c3, _⟩ := HS1.out
  go_wp2_with fail
  ((with_reducible refine (HA2.out _).mono ?_))
  rintro e w2 ⟨rfl, hb⟩
  have HP2 := Lib.hid (block_step (block_step HP1.out hb) (bel_alloc (Below.refl _ w2) (.cells #[.int .i64 0, .int .i64 0, .int .i64 0] 33)))
  have HS2 := Lib.hid ((HS1.out.step hb).step (bel_alloc (Below.refl _ w2) (.cells #[.int .i64 0, .int .i64 0, .int .i64 0] 33)))
  have HQ2 := Lib.hid (heap_alloc_new w2 (.cells #[.int .i64 0, .int .i64 0, .int .i64 0] 33))
  have hpl := (Array.getElem?_eq_some_iff.1 (block_step HP1.out hb)).1
  clear hb c0 c1 c2 c3
  obtain ⟨bq, hbq⟩ : ∃ bq, bq = w2.heap.size := ⟨_, rfl⟩
  have HBQ : Hid (bp < bq) := Lib.hid (by rw [hbq]; exact hpl)
  go_upto_region 5 with fail
  rw [← hbq] at HQ2 ⊢
  obtain ⟨w2', hw2⟩ : ∃ x, x = w2.alloc (.cells #[.int .i64 0, .int .i64 0, .int .i64 0] 33) := ⟨_, rfl⟩
  rw [← hw2] at HP2 HS2 HQ2 ⊢
  clear hw2 hbq hpl
  go_wp2_with fail
  ((with_reducible refine (HPl.out _).mono ?_))
  rintro e w3 ⟨rfl, hb⟩
  have HP3 := Lib.hid (block_step HP2.out hb)
  have HQ3 := Lib.hid (block_step HQ2.out hb)
  have HS3 := Lib.hid (HS2.out.step hb)
  clear hb
  clear HP3 HQ3 HP2 HQ2 HP1
  go_wp2_with fail
  ((with_reducible refine (HPl.out _).mono ?_))
  rintro e w4 ⟨rfl, hb⟩
  have HS4 := Lib.hid (HS3.out.step hb)
  clear hb
  go_wp2
  go_ret
  exact ⟨rfl, HS4.out.2.2.2.2⟩
set_option maxRecDepth 100000 in
set_option maxHeartbeats 3200000 in
theorem nexts_far (a b c d : Int) (i : Nat) (w : World) (hg : GoodG a b c d) (hi : i < 1000000) (hv : (b - 5) * (c * (a - 1)) < (i : Int) + 1) :
    Calls Try.prog 8 #[.agg #[.int .i64 a, .int .i64 b, .int .i64 c, .int .i64 d], .int .u32 ((i : Int) + 1)] w fun e w' => e = .returned (.bool true) ∧ Below w.heap.size w w' := by
  have HS := Lib.hid (gs_new w a b c d)
  have HPl := Lib.hid placed_any
  have HC := Lib.hid fun x : World => check_good a b c d x hg
  have k1 : ((i : Int) + 1 == 0) = false := by simp; omega
  have k2 : decide (1000000 < (i : Int) + 1) = false := by simp; omega
  have HA1 := Lib.hid fun x : World => at_over a b c d (i + 1) x hg (by omega) (by omega)
  rw [show (((i + 1 : Nat) : Int)) = (i : Int) + 1 by omega] at HA1
  have HA2 := Lib.hid fun x : World => at_over a b c d (i + 1 + 1) x hg (by omega) (by omega)
  rw [show (((i + 1 + 1 : Nat) : Int)) = (i : Int) + 1 + 1 by omega] at HA2
  clear hg hv
  go_enter Try.func8, Try.ntmps8
  obtain ⟨c0, c1, c2, c3, _⟩ := HS.out
  go_wp2_with fail
  ((with_reducible refine (HC.out _).mono ?_))
  rintro e w0 ⟨rfl, hb⟩
  have HS0 := Lib.hid (HS.out.step hb)
  clear hb c0 c1 c2 c3
  obtain ⟨c0, c1, c2, c3, _⟩ := HS0.out
  go_wp2_with fail
  ((with_reducible refine (HA1.out _).mono ?_))
  rintro e w1 ⟨rfl, hb⟩
  have HS1 := Lib.hid ((HS0.out.step hb).step (bel_alloc (Below.refl _ w1) (.cells #[.int .i64 0, .int .i64 0, .int .i64 0] 33)))
  have hb1 := (HS0.out.step hb).1
  have HP1 := Lib.hid (heap_alloc_new w1 (.cells #[.int .i64 0, .int .i64 0, .int .i64 0] 33))
  clear hb c0 c1 c2 c3
  obtain ⟨bp, hbp⟩ : ∃ bp, bp = w1.heap.size := ⟨_, rfl⟩
  have HBP : Hid (w.heap.size < bp) := Lib.hid (by rw [hbp]; exact World.block_lt_of_cell? w1 _ hb1)
  go_upto_region 4 with fail
  rw [← hbp] at HP1 ⊢
  obtain ⟨w1', hw1⟩ : ∃ x, x = w1.alloc (.cells #[.int .i64 0, .int .i64 0, .int .i64 0] 33) := ⟨_, rfl⟩
  rw [← hw1] at HP1 HS1 ⊢
  clear hw1 hbp hb1
  obtain ⟨c0, c1, c2, c3, _⟩ := HS1.out
  go_wp2_with fail
  ((with_reducible refine (HA2.out _).mono ?_))
  rintro e w2 ⟨rfl, hb⟩
  have HP2 := Lib.hid (block_step (block_step HP1.out hb) (bel_alloc (Below.refl _ w2) (.cells #[.int .i64 0, .int .i64 0, .int .i64 0] 33)))
  have HS2 := Lib.hid ((HS1.out.step hb).step (bel_alloc (Below.refl _ w2) (.cells #[.int .i64 0, .int .i64 0, .int .i64 0] 33)))
  have HQ2 := Lib.hid (heap_alloc_new w2 (.cells #[.int .i64 0, .int .i64 0, .int .i64 0] 33))
  have hpl := (Array.getElem?_eq_some_iff.1 (block_step HP1.out hb)).1
  clear hb c0 c1 c2 c3
  obtain ⟨bq, hbq⟩ : ∃ bq, bq = w2.heap.size := ⟨_, rfl⟩
  have HBQ : Hid (bp < bq) := Lib.hid (by rw [hbq]; exact hpl)
  go_upto_region 5 with fail
  rw [← hbq] at HQ2 ⊢
  obtain ⟨w2', hw2⟩ : ∃ x, x = w2.alloc (.cells #[.int .i64 0, .int .i64 0, .int .i64 0] 33) := ⟨_, rfl⟩
  rw [← hw2] at HP2 HS2 HQ2 ⊢
  clear hw2 hbq hpl
  go_wp2_with fail
  ((with_reducible refine (HPl.out _).mono ?_))
  rintro e w3 ⟨rfl, hb⟩
  have HP3 := Lib.hid (block_step HP2.out hb)
  have HQ3 := Lib.hid (block_step HQ2.out hb)
  have HS3 := Lib.hid (HS2.out.step hb)
  clear hb
  clear HP3 HQ3 HP2 HQ2 HP1
  go_wp2_with fail
  ((with_reducible refine (HPl.out _).mono ?_))
  rintro e w4 ⟨rfl, hb⟩
  have HS4 := Lib.hid (HS3.out.step hb)
  clear hb
  go_wp2
  go_ret
  exact ⟨rfl, HS4.out.2.2.2.2⟩
theorem geomNexts_walk (a b c d x : Int) (w : World) (_ : In64x4 a b c d) (hx : (Lit.int .u32 x).wf = true) :
    Calls Try.prog 8 #[.agg #[.int .i64 a, .int .i64 b, .int .i64 c, .int .i64 d], .int .u32 x] w fun e w' => e = .returned (.bool true) ∧ Below w.heap.size w w' := by
  obtain ⟨n, rfl, _⟩ := wfn_u32' hx
  by_cases hg : GoodG a b c d
  case neg => exact nexts_badGeo a b c d n w hg
  by_cases h0 : n = 0
  · exact nexts_zero a b c d n w hg h0
  by_cases h1 : 1000000 < n
  · exact nexts_great a b c d n w hg h1
  obtain ⟨i, rfl⟩ : ∃ i, n = i + 1 := ⟨n - 1, by omega⟩
  rw [show (((i + 1 : Nat) : Int)) = (i : Int) + 1 by omega]
  rcases Int.lt_trichotomy ((i : Int) + 1) ((b - 5) * (c * (a - 1))) with h | h | h
  · exact nexts_ok a b c d i w hg (by omega) h
  · exact nexts_last a b c d i w hg (by omega) h
  · exact nexts_far a b c d i w hg (by omega) h

end Go.Proofs.Ytmggjknljbpbgaa
