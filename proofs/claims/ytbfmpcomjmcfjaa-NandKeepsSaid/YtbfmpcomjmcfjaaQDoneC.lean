/- gabionlaw04.done, kind 5: a chip dies. -/
import Derived.Test.YtbfmpcomjmcfjaaQDoneB
import Derived.BigQuiet
import Derived.StillTailTactics
namespace Go.Proofs.Ytbfmpcomjmcfjaa
open Go.RowKit Go.Deep
section
variable {w0 w : World} {pa pq k ci cj : Nat} {bs : List Nat} {sd : Nat → Option Obj}
theorem J.kill (h : J w0 pa pq k ci cj bs sd w) (ch : Int) (hne : (ci : Int) ≠ ch) :
    Calls Try.prog 35 #[.pointer (some ⟨pa, 0, none⟩), .int .i64 ch] w fun e w' => e = .returned (.tuple #[]) ∧ J w0 pa pq k ci cj bs sd w' := by
  obtain ⟨B, tag, L, S, B2, tag2, L2, S2, rfl, rfl, h1⟩ := h
  by_cases hc : ch < 0 ∨ (S.g0 : Int) < ch
  · refine (kill_out h1.na ch hc).mono ?_
    rintro e w' ⟨rfl, rfl⟩
    exact ⟨rfl, _, _, _, _, _, _, _, _, rfl, rfl, h1⟩
  · obtain ⟨c, rfl⟩ : ∃ c : Nat, ch = (c : Int) := ⟨ch.toNat, by omega⟩
    refine (kill_in h1.na c (by omega)).mono ?_
    rintro e w' ⟨rfl, h2, hk⟩
    exact ⟨rfl, B, tag, L, S.kill c, B2, tag2, L2, S2, rfl, rfl, ⟨h2, h1.qa.aside hk (fun x o t => h1.dis x t o), h1.ev, h1.dis, ⟨h1.ki.quiet, h1.ki.off, h1.ki.ops, h1.ki.bad, h1.ki.er, h1.ki.g⟩, h1.kq, h1.pg, by
      have : (S.kill c).dead ci = S.dead ci := by simp only [NS.kill]; rw [if_neg (by omega)]
      rw [this]; exact h1.dd, h1.b1, h1.b2, h1.na.behind hk h1.bel h1.b1, fun x o hx => ⟨(hk.block x (h1.lt hx) (h1.side x o hx).2.1).trans (h1.side x o hx).1, (h1.side x o hx).2⟩⟩⟩
/-- The reference's list of the dead. -/
theorem J.gone (h : J w0 pa pq k ci cj bs sd w) : ∃ gb cap, pq < w.heap.size ∧ gb < w.heap.size ∧ w.cell? ⟨pq, 0, none⟩ = some (.int .i64 4) ∧ w.cell? ⟨pq, 5, none⟩ = some (.slice (some ⟨gb, 0, none⟩) 5 cap) ∧
    ∀ w', Below w.heap.size w w' → ∀ c : Nat, c ≤ 4 → (∃ v, w'.cell? ⟨gb, c, none⟩ = some v) ∧ w'.frozen? ⟨gb, c, none⟩ = false ∧ J w0 pa pq k ci cj bs sd (w'.setCell ⟨gb, c, none⟩ (.bool true)) := by
  obtain ⟨B, tag, L, S, B2, tag2, L2, S2, rfl, rfl, h1⟩ := h
  have c0 := h1.qa.c .g0
  have c5 := h1.qa.c .gone
  have g0 := h1.kq.g.1
  rw [g0] at c0 c5
  refine ⟨L2.gb, L2.gcap, h1.qa.lt .off, (h1.qa.range _ _ h1.qa.tgb).2, c0, c5, fun w' hb c hc => ?_⟩
  have h1 := h1.below hb
  refine ⟨⟨_, h1.qa.c (.dead c (by omega))⟩, h1.qa.f (.dead c (by omega)), ?_⟩
  have hk : Kept (ownQ tag2) w' (w'.setCell ⟨L2.gb, c, none⟩ (.bool true)) := keptQ_set h1.qa.tgb _
  exact ⟨B, tag, L, S, B2, tag2, L2, S2.kill c, rfl, rfl, ⟨h1.na.aside hk (fun x o t => h1.dis x o t), h1.qa.kill c (by omega), h1.ev, h1.dis, h1.ki, ⟨h1.kq.quiet, h1.kq.off, h1.kq.ops, h1.kq.bad, h1.kq.er, h1.kq.g⟩, h1.pg, h1.dd, h1.b1, h1.b2, h1.qa.behind hk h1.bel h1.b2, fun x o hx => ⟨(hk.block x (h1.lt hx) (h1.side x o hx).2.2).trans (h1.side x o hx).1, (h1.side x o hx).2⟩⟩⟩
set_option maxRecDepth 100000 in
set_option maxHeartbeats 3200000 in
theorem done_kill (h : J w0 pa pq k ci cj bs sd w) (ch bl pg : Int) (dt : Int) (sh : Bool) (hne : (ci : Int) ≠ ch) :
    Calls Try.prog 22 #[.pointer (some ⟨pa, 0, none⟩), .pointer (some ⟨pq, 0, none⟩), .agg #[.int .i64 5, .int .i64 ch, .int .i64 bl, .int .i64 pg, .int .u8 dt, .bool sh]] w (DRet w0 pa pq k ci cj bs sd) := by
  have HSD : Hid (sd w.heap.size = none) := Lib.hid h.fresh
  have HW := Lib.hid (h.alloc (.cells #[.int .i64 5, .int .i64 ch, .int .i64 bl, .int .i64 pg, .int .u8 dt, .bool sh] 43))
  clear h
  go_enter Try.func22, Try.ntmps22
  go_wp2_with fail
  ((with_reducible refine (HW.out.kill ch hne).mono ?_))
  rintro e w1 ⟨rfl, h1⟩
  obtain ⟨k0, k1, k2, k3, k4, k5⟩ := six_cells (h1.at (x := w.heap.size) (by unfold sideWith; rw [if_pos rfl])).1
  have lb := (h1.at (x := w.heap.size) (by unfold sideWith; rw [if_pos rfl])).2
  obtain ⟨gb, cap, l1, l2, c0, c5, hset⟩ := h1.gone
  have H1 := Lib.hid h1
  have HS := Lib.hid hset
  clear h1 hset
  by_cases hneg : ch < 0
  · have q1 : decide (0 ≤ ch) = false := by simp; omega
    clear hneg
    go_wp2_with (go_quiet (fail))
    go_ret
    exact ⟨⟨_, rfl⟩, (H1.out.drop (fun x o q => sideWith_up HSD.out q)).below (bel_drewQ _ _)⟩
  · obtain ⟨c, rfl⟩ : ∃ c : Nat, ch = (c : Int) := ⟨ch.toNat, by omega⟩
    by_cases hbig : 4 < c
    · have q1 : decide ((0 : Int) ≤ (c : Int)) = true := by simp
      have q2 : decide ((c : Int) ≤ 4) = false := by simp; omega
      clear hneg hbig
      go_wp2_with (go_quiet (fail))
      go_ret
      exact ⟨⟨_, rfl⟩, (H1.out.drop (fun x o q => sideWith_up HSD.out q)).below (bel_drewQ _ _)⟩
    · have q1 : decide ((0 : Int) ≤ (c : Int)) = true := by simp
      have q2 : decide ((c : Int) ≤ 4) = true := by simp; omega
      have h5 : c < 5 := by omega
      have HC : Hid (c ≤ 4) := Lib.hid (by omega)
      clear hneg hbig
      go_wp2_with (go_quiet (fail))
      obtain ⟨w2, hw2, m1, m5, hb2⟩ : ∃ w2, w1.drewN nq = w2 ∧ w2.cell? ⟨w.heap.size, 1, none⟩ = some (.int .i64 (c : Int)) ∧ w2.cell? ⟨pq, 5, none⟩ = some (.slice (some ⟨gb, 0, none⟩) 5 cap) ∧ Below w1.heap.size w1 w2 :=
        ⟨_, rfl, ((bel_drewQ w1 nq).cell (p := ⟨w.heap.size, 1, none⟩) lb).trans k1, ((bel_drewQ w1 nq).cell (p := ⟨pq, 5, none⟩) l1).trans c5, bel_drewQ w1 nq⟩
      rw [hw2]
      clear hw2 k0 k1 k2 k3 k4 k5 c0 c5
      obtain ⟨⟨v, hv⟩, hf, hj⟩ := HS.out w2.drew hb2.drew c HC.out
      have HJ := Lib.hid hj
      clear hj
      have i0 : (0 : Int) ≤ (c : Int) := by omega
      have i2 : (c : Int) < 5 := by omega
      go_still_tail 7, (by kernel_rfl)
      change wpList _ _ _ _ _ w2.drew
      go_wp2
      go_ret
      exact ⟨⟨_, rfl⟩, HJ.out.drop (fun x o q => sideWith_up HSD.out q)⟩
end
end Go.Proofs.Ytbfmpcomjmcfjaa
