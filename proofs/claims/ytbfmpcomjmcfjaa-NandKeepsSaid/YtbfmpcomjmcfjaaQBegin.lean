/- gabionref04: comes, begin, where nothing comes. -/
import Derived.Test.YtbfmpcomjmcfjaaQNewWalk
import Derived.BigQuiet
namespace Go.Proofs.Ytbfmpcomjmcfjaa
open Go.RowKit Go.Deep

theorem bel_drewQ (w : World) (n : Nat) : Below w.heap.size w (w.drewN n) := ⟨rfl, rfl, rfl, Nat.le_refl _, fun _ _ => rfl⟩
section
variable {B : Nat} {tag : Nat → Option QT} {L : QL} {S : NS} {w : World}
set_option maxRecDepth 100000 in
set_option maxHeartbeats 1600000 in
theorem comes_nil (h : QA B tag L S w) (hev : L.ev = .slice none 0 0) : Calls Try.prog 159 #[.pointer (some ⟨L.pa, 0, none⟩)] w fun e w' => e = .returned evZero ∧ Below w.heap.size w w' := by
  have c6 := h.c .ev
  rw [hev] at c6
  have hpa := h.lt .ev
  clear h hev
  go_enter Try.func159, Try.ntmps159
  go_wp2_with fail
  go_loop [3] (fun i => i = .int .i64 0) (fun _ => 0)
  case atStart => rfl
  case round =>
    subst hrel
    go_wp2
    refine bodyPost_ret (v := evZero) ?_ rfl ⟨rfl, bel_alloc (Below.refl _ w) _⟩
    simp [results, Try.results159, go_sem, evZero]
/-- What begin ends with. -/
def QBRet (B : Nat) (tag : Nat → Option QT) (L : QL) (S : NS) (w : World) (n : Int) (e : Ending) (w' : World) : Prop :=
  e = .returned (.tuple #[evZero, .int .i64 n]) ∧ QA B tag L S w' ∧ Kept (ownQ tag) w w'
set_option maxHeartbeats 800000 in
theorem qbegin_off (h : QA B tag L S w) (hoff : S.off = true) (c d : Int) : Calls Try.prog 138 #[.pointer (some ⟨L.pa, 0, none⟩), .int .i64 c, .int .i64 d] w (QBRet B tag L S w 72) := by
  have c8 := h.c .off
  rw [hoff] at c8
  have hpa := h.lt .off
  have R : Hid (∀ w', Below w.heap.size w w' → QA B tag L S w' ∧ Kept (ownQ tag) w w') := Lib.hid fun w' hb => ⟨h.below hb, Kept.of_below hb⟩
  clear h hoff
  go_enter Try.func138, Try.ntmps138
  go_wp2
  refine bodyPost_ret (v := .tuple #[evZero, .int .i64 72]) ?_ rfl ⟨rfl, R.out _ (bel_alloc (Below.refl _ w) _)⟩
  simp [results, Try.results138, go_sem, evZero]
set_option maxHeartbeats 1600000 in
theorem qbegin_none (h : QA B tag L S w) (hoff : S.off = false) (c d : Int) (hc : NoAt S c d) : Calls Try.prog 138 #[.pointer (some ⟨L.pa, 0, none⟩), .int .i64 c, .int .i64 d] w (QBRet B tag L S w 34) := by
  have c8 := h.c .off
  rw [hoff] at c8
  have c0 := h.c .g0
  have c1 := h.c .g1
  have hpa := h.lt .off
  have R : Hid (∀ w', Below w.heap.size w w' → QA B tag L S w' ∧ Kept (ownQ tag) w w') := Lib.hid fun w' hb => ⟨h.below hb, Kept.of_below hb⟩
  unfold NoAt at hc
  clear h hoff
  by_cases h1 : c < 0
  · have k1 : decide (c < 0) = true := decide_eq_true h1
    clear hc h1
    go_enter Try.func138, Try.ntmps138
    go_wp2
    refine bodyPost_ret (v := .tuple #[evZero, .int .i64 34]) ?_ rfl ⟨rfl, R.out _ (bel_alloc (Below.refl _ w) _)⟩
    simp [results, Try.results138, go_sem, evZero]
  · have k1 : decide (c < 0) = false := decide_eq_false h1
    by_cases h2 : (S.g0 : Int) < c
    · have k2 : decide ((S.g0 : Int) < c) = true := decide_eq_true h2
      clear hc h1 h2
      go_enter Try.func138, Try.ntmps138
      go_wp2
      refine bodyPost_ret (v := .tuple #[evZero, .int .i64 34]) ?_ rfl ⟨rfl, R.out _ (bel_alloc (Below.refl _ w) _)⟩
      simp [results, Try.results138, go_sem, evZero]
    · have k2 : decide ((S.g0 : Int) < c) = false := decide_eq_false h2
      by_cases h3 : d < 0
      · have k3 : decide (d < 0) = true := decide_eq_true h3
        clear hc h1 h2 h3
        go_enter Try.func138, Try.ntmps138
        go_wp2
        refine bodyPost_ret (v := .tuple #[evZero, .int .i64 34]) ?_ rfl ⟨rfl, R.out _ (bel_alloc (Below.refl _ w) _)⟩
        simp [results, Try.results138, go_sem, evZero]
      · have k3 : decide (d < 0) = false := decide_eq_false h3
        have k4 : decide ((S.g1 : Int) ≤ d) = true := decide_eq_true (by omega)
        clear hc h1 h2 h3
        go_enter Try.func138, Try.ntmps138
        go_wp2
        refine bodyPost_ret (v := .tuple #[evZero, .int .i64 34]) ?_ rfl ⟨rfl, R.out _ (bel_alloc (Below.refl _ w) _)⟩
        simp [results, Try.results138, go_sem, evZero]
set_option maxRecDepth 100000 in
set_option maxHeartbeats 3200000 in
theorem qbegin_in (h : QA B tag L S w) (hev : L.ev = .slice none 0 0) (i j : Nat) (hi : i ≤ S.g0) (hj : j < S.g1) (hoff : S.off = false) (hops : S.ops < 1000000000000) (n : Int) (hn : n = if S.dead i = true then 71 else 0) : Calls Try.prog 138 #[.pointer (some ⟨L.pa, 0, none⟩), .int .i64 (i : Int), .int .i64 (j : Int)] w (QBRet B tag L (S.setOps (S.ops + 1)) w n) := by
  have h1 := h.setOps (S.ops + 1)
  have k1 : Kept (ownQ tag) w (w.setCell ⟨L.pa, 7, none⟩ (.int .i64 ((S.ops + 1 : Nat) : Int))) := keptQ_set h.tpa _
  rw [show ((S.ops + 1 : Nat) : Int) = (S.ops : Int) + 1 by omega] at h1 k1
  obtain ⟨W1, hW1⟩ : ∃ W1, W1 = w.setCell ⟨L.pa, 7, none⟩ (.int .i64 ((S.ops : Int) + 1)) := ⟨_, rfl⟩
  have z1 : W1.heap.size = w.heap.size := by rw [hW1]; simp
  rw [← hW1] at h1 k1
  have c8 := h.c .off
  rw [hoff] at c8
  have c0 := h.c .g0
  have c1 := h.c .g1
  have c7 := h.c .ops
  have f7 := h.f .ops
  have hpa := h.lt .off
  have d1 : decide ((i : Int) < 0) = false := by simp
  have d2 : decide (S.g0 < i) = false := by simp; omega
  have d3 : decide ((j : Int) < 0) = false := by simp
  have d4 : decide (S.g1 ≤ j) = false := by simp; omega
  have H2 := h1.below (bel_alloc (Below.refl _ W1) (.cells #[.int .i64 0, .int .i64 0, .int .i64 0, .slice none 0 0] 153))
  have K2 : Kept (ownQ tag) w (W1.alloc (.cells #[.int .i64 0, .int .i64 0, .int .i64 0, .slice none 0 0] 153)) := k1.trans (Kept.of_below (F := ownQ tag) (bel_alloc (Below.refl _ W1) _)) (fun _ _ h => h)
  have E2 := heap_alloc_new W1 (.cells #[.int .i64 0, .int .i64 0, .int .i64 0, .slice none 0 0] 153)
  rw [z1] at E2
  have z2 : (W1.alloc (.cells #[.int .i64 0, .int .i64 0, .int .i64 0, .slice none 0 0] 153)).heap.size = w.heap.size + 1 := by simp [z1]
  have HT : Hid (∀ k, w.heap.size ≤ k → ¬ ownQ tag k) := Lib.hid fun k hk => h.notOwn hk
  have HI := Lib.hid hi
  obtain ⟨W2, hW2⟩ : ∃ W2, W2 = W1.alloc (.cells #[.int .i64 0, .int .i64 0, .int .i64 0, .slice none 0 0] 153) := ⟨_, rfl⟩
  rw [← hW2] at H2 K2 E2 z2
  rw [hW1] at hW2
  have HW2 := Lib.hid hW2
  have HCM := Lib.hid (comes_nil H2 hev)
  have HH := Lib.hid H2
  have HK := Lib.hid K2
  have HE := Lib.hid E2
  have HZ := Lib.hid z2
  have HN := Lib.hid hn
  clear h h1 k1 hW1 z1 H2 K2 E2 z2 hW2 hi hj hoff hn
  go_enter Try.func138, Try.ntmps138
  go_wp2_with fail
  rw [← HW2.out]
  ((with_reducible refine HCM.out.mono ?_))
  rintro e w3 ⟨rfl, hb3⟩
  unfold evZero
  have e3 := (hb3.block w.heap.size (by rw [HZ.out]; omega)).trans HE.out
  have hb4 : Below w3.heap.size w3 (w3.alloc (.cells #[.int .i64 0, .int .i64 0, .int .i64 0, .slice none 0 0] 153)) := bel_alloc (Below.refl _ w3) _
  have hz3 := hb3.size
  have hzz : w.heap.size < w3.heap.size := by rw [HZ.out] at hz3; omega
  have hb24 : Below W2.heap.size W2 (w3.alloc (.cells #[.int .i64 0, .int .i64 0, .int .i64 0, .slice none 0 0] 153)) := hb3.trans (hb4.mono hz3)
  have h4 := HH.out.below hb24
  have k4 : Kept (ownQ tag) w (w3.alloc (.cells #[.int .i64 0, .int .i64 0, .int .i64 0, .slice none 0 0] 153)) := HK.out.trans (Kept.of_below (F := ownQ tag) hb24) (fun _ _ h => h)
  have e4 := (hb4.block w.heap.size hzz).trans e3
  have n4 := heap_alloc_new w3 (.cells #[.int .i64 0, .int .i64 0, .int .i64 0, .slice none 0 0] 153)
  obtain ⟨q, hq⟩ : ∃ q, q = w3.heap.size := ⟨_, rfl⟩
  rw [← hq] at n4 hzz
  have HNE : Hid (w.heap.size < q) := Lib.hid hzz
  obtain ⟨W4, hW4⟩ : ∃ W4, W4 = w3.alloc (.cells #[.int .i64 0, .int .i64 0, .int .i64 0, .slice none 0 0] 153) := ⟨_, rfl⟩
  rw [← hW4] at h4 k4 e4 n4
  have HW4 := Lib.hid hW4
  have HQ := Lib.hid hq
  have H4 := Lib.hid h4
  have K4 := Lib.hid k4
  have E4 := Lib.hid e4
  have N4 := Lib.hid n4
  clear h4 k4 e4 n4 hW4 hq e3 hb3 hb4 hb24 hz3 hzz c0 c1 c7 f7 c8 HCM HH HK HE HW2
  go_upto_region 7 with fail
  rw [← HW4.out, ← HQ.out]
  obtain ⟨x0, x1, x2, x3⟩ := four_cells N4.out
  go_quiet (fail)
  obtain ⟨W5, hW5⟩ : ∃ W5, W5 = W4.drewN nq := ⟨_, rfl⟩
  have h5 : QA B tag L (S.setOps (S.ops + 1)) W5 := by rw [hW5]; exact H4.out.below (bel_drewQ W4 nq)
  have k5 : Kept (ownQ tag) w W5 := by rw [hW5]; exact K4.out.trans (Kept.of_below (F := ownQ tag) (bel_drewQ W4 nq)) (fun _ _ h => h)
  have e5 : W5.heap[w.heap.size]? = some (.cells #[.int .i64 0, .int .i64 0, .int .i64 0, .slice none 0 0] 153 (0, 0)) := by rw [hW5]; exact E4.out
  have n5 : W5.heap[q]? = some (.cells #[.int .i64 0, .int .i64 0, .int .i64 0, .slice none 0 0] 153 (0, 0)) := by rw [hW5]; exact N4.out
  rw [← hW5]
  clear hW5 x0 x1 x2 x3
  obtain ⟨x0, x1, x2, x3⟩ := four_cells n5
  obtain ⟨y0, y1, y2, y3⟩ := four_cells e5
  have y4 := four_free e5
  have g5 := h5.c .gone
  have gd := h5.c (.dead i HI.out)
  have d6 : i < S.g0 + 1 := by have := HI.out; omega
  have g5' : W5.cell? ⟨L.pa, 5, none⟩ = some (.slice (some ⟨L.gb, 0, none⟩) (S.g0 + 1) L.gcap) := g5
  have H5 := Lib.hid h5
  have K5 := Lib.hid k5
  have RES : Hid (∀ v0 v1 v2 v3 : Value, QA B tag L (S.setOps (S.ops + 1)) ((((W5.setCell ⟨w.heap.size, 0, none⟩ v0).setCell ⟨w.heap.size, 1, none⟩ v1).setCell ⟨w.heap.size, 2, none⟩ v2).setCell ⟨w.heap.size, 3, none⟩ v3) ∧ Kept (ownQ tag) w ((((W5.setCell ⟨w.heap.size, 0, none⟩ v0).setCell ⟨w.heap.size, 1, none⟩ v1).setCell ⟨w.heap.size, 2, none⟩ v2).setCell ⟨w.heap.size, 3, none⟩ v3)) := Lib.hid fun v0 v1 v2 v3 => by
    have one : ∀ (W : World) (k : Nat) (v : Value), QA B tag L (S.setOps (S.ops + 1)) W → Kept (ownQ tag) w W → QA B tag L (S.setOps (S.ops + 1)) (W.setCell ⟨w.heap.size, k, none⟩ v) ∧ Kept (ownQ tag) w (W.setCell ⟨w.heap.size, k, none⟩ v) := fun W k v hn hk =>
      ⟨hn.keep (by simp) fun b t ht => heap_setCell_other W _ b v (fun e => by subst e; exact HT.out _ (Nat.le_refl _) (ownQ_tag ht)), hk.set _ _ (.inr (Nat.le_refl _))⟩
    have a0 := one W5 0 v0 h5 k5
    have a1 := one _ 1 v1 a0.1 a0.2
    have a2 := one _ 2 v2 a1.1 a1.2
    exact one _ 3 v3 a2.1 a2.2
  clear h5 k5 e5 n5 g5
  cases hde : S.dead i with
  | false =>
    have gd' : W5.cell? ⟨L.gb, i, none⟩ = some (.bool false) := by rw [← hde]; exact gd
    have HNN : Hid (n = 0) := Lib.hid (by rw [HN.out, hde]; rfl)
    clear gd hde
    go_wp2
    refine bodyPost_ret (v := .tuple #[evZero, .int .i64 0]) ?_ rfl ?_
    · simp [results, Try.results138, go_sem, y0, y1, y2, y3, evZero]
    · rw [HNN.out]; exact ⟨rfl, RES.out _ _ _ _⟩
  | true =>
    have gd' : W5.cell? ⟨L.gb, i, none⟩ = some (.bool true) := by rw [← hde]; exact gd
    have HNN : Hid (n = 71) := Lib.hid (by rw [HN.out, hde]; rfl)
    clear gd hde
    go_wp2
    refine bodyPost_ret (v := .tuple #[evZero, .int .i64 71]) ?_ rfl ?_
    · simp [results, Try.results138, go_sem, y0, y1, y2, y3, evZero]
    · rw [HNN.out]; exact ⟨rfl, RES.out _ _ _ _⟩
end

end Go.Proofs.Ytbfmpcomjmcfjaa
