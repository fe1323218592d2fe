/- NandKeeps: the walk. -/
import Derived.Test.YtbfmpcomjmcfjaaQDoneE
import Derived.Test.YtbfmpcomjmcfjaaQNewWalk
import Derived.BigQuiet
namespace Go.Proofs.Ytbfmpcomjmcfjaa
open Go.RowKit Go.Deep
theorem ownB_keep {B : Nat} {w w' : World} {g n cap : Nat} {l : List Nat} (h : OwnB B w g n cap l) (hb : Below w.heap.size w w') : OwnB B w' g n cap l := by
  obtain ⟨h1, h2⟩ := h
  exact ⟨own_up h1 hb, h2⟩
theorem ownB_row {B : Nat} {w : World} {g n cap : Nat} {l : List Nat} (h : OwnB B w g n cap l) : Row w (some ⟨g, 0, none⟩) n l ∧ g < w.heap.size ∧ B ≤ g ∧ l.length = n ∧ True := by
  obtain ⟨a, c, e, hr, _⟩ := row_of_own h.1
  simp only [Value.slice.injEq] at e
  obtain ⟨rfl, e2, rfl⟩ := e
  rw [← e2] at hr
  have := own_base h.1 g rfl
  exact ⟨hr, this.2, this.1, h.2, trivial⟩
theorem ownB_aside {B : Nat} {w : World} {g g2 n cap : Nat} {l : List Nat} (h : OwnB B w g n cap l) (hne : g2 ≠ g) (o : Nat) (v : Value) : OwnB B (w.setCell ⟨g2, o, none⟩ v) g n cap l := by
  obtain ⟨⟨⟨h1, h3⟩, h4⟩, h2⟩ := h
  refine ⟨⟨⟨h1, ?_⟩, h4⟩, h2⟩
  rcases h3 with q | ⟨g', cap', cur, e, hb, hh, hr⟩
  · exact .inl q
  · simp only [Value.slice.injEq, Option.some.injEq] at e
    obtain ⟨e1, e2, rfl⟩ := e
    obtain rfl : g = g' := by cases e1; rfl
    exact .inr ⟨g, _, cur, by rw [h2], hb, (heap_setCell_other w _ g v (fun e => hne e.symm)).trans hh, hr⟩
theorem take_app {ds os : List Nat} {n : Nat} (h : ds.length = n) : (ds ++ os).take n = ds := by subst h; simp
theorem drop_app {ds os : List Nat} {n : Nat} (h : ds.length = n) : (ds ++ os).drop n = os := by subst h; simp
theorem J.bel {w0 w : World} {pa pq k ci cj : Nat} {bs : List Nat} {sd : Nat → Option Obj} (h : J w0 pa pq k ci cj bs sd w) : Below w0.heap.size w0 w := by
  obtain ⟨_, _, _, _, _, _, _, _, _, _, h1⟩ := h
  exact h1.bel
set_option maxRecDepth 100000 in
set_option maxHeartbeats 6400000 in
theorem nandKeeps_walk (chip block : Int) (c : Nat) (hc : c < 256) (a : Option Addr) (len cap : Nat) (ops : Nat → OpV) (w : World) (hin : RowO w a len ops) :
    Calls Try.prog 7 #[.agg #[.int .i64 chip, .int .i64 block, .int .u8 (c : Int), .slice a len cap]] w fun e w' => e = .returned (.bool true) ∧ Below w.heap.size w w' := by
  have hcm : (len : Int) ≤ 9223372036854775807 := by have := hin.1; unfold maxLen at this; omega
  have HIN := Lib.hid hin
  clear hin
  have hb0 : Below w.heap.size w (w.alloc (.cells #[.int .i64 chip, .int .i64 block, .int .u8 (c : Int), .slice a len cap] 79)) := bel_alloc (Below.refl _ w) _
  have HB0 := Lib.hid hb0
  clear hb0
  go_enter Try.func7, Try.ntmps7
  go_wp2_with (go_quiet (fail))
  obtain ⟨W1, hW1⟩ : ∃ W1, (w.alloc (.cells #[.int .i64 chip, .int .i64 block, .int .u8 (c : Int), .slice a len cap] 79)).drewN nq = W1 := ⟨_, rfl⟩
  have HB1 : Hid (Below w.heap.size w W1) := Lib.hid (by rw [← hW1]; exact HB0.out.trans ((bel_drewQ _ nq).mono HB0.out.size))
  rw [hW1]
  clear hW1 HB0
  refine (begun_any W1).mono ?_
  rintro e w1 ⟨rfl, hb1⟩
  by_cases hl : 80 < len
  · have d1 : decide ((80 : Int) < (len : Int)) = true := decide_eq_true (by omega)
    go_wp2_with fail
    refine (begun_any w1).mono ?_
    rintro e w2 ⟨rfl, hb2⟩
    have HB := Lib.hid (HB1.out.trans ((hb1.trans (hb2.mono hb1.size)).mono HB1.out.size))
    clear hb1 hb2
    go_wp2
    go_ret
    exact ⟨rfl, HB.out⟩
  · have d1 : decide ((80 : Int) < (len : Int)) = false := decide_eq_false (by omega)
    have HL : Hid (len ≤ 80) := Lib.hid (by omega)
    clear hl
    go_wp2_with fail
    refine (shape_any 1 w1).mono ?_
    rintro e w2 ⟨⟨r, _, _, hr1, rfl⟩, hb2⟩
    obtain rfl := hr1 rfl
    have hb02 := HB1.out.trans ((hb1.trans (hb2.mono hb1.size)).mono HB1.out.size)
    go_wp2_with fail
    refine (new_plain 1 (by omega) w2).mono ?_
    rintro e w3 ⟨tag, L, rfl, hn3, hb3⟩
    have HB03 := Lib.hid (hb02.trans (hb3.mono hb02.size))
    have HW2 := Lib.hid hb02.size
    obtain ⟨S, hS⟩ : ∃ S, S = NS.fresh (3 + 1) 16 4 256 (fun _ => NE.zero) := ⟨_, rfl⟩
    rw [← hS] at hn3
    have HS := Lib.hid hS
    have HN3 := Lib.hid hn3
    obtain ⟨ri, hri, hri5⟩ : ∃ r : Nat, wrap64 ((IntKind.u64.wrap chip).tmod 5) = (r : Int) ∧ r < 5 := atM chip 5 (by omega)
    obtain ⟨rj, hrj, hrj16⟩ : ∃ r : Nat, wrap64 ((IntKind.u64.wrap block).tmod 16) = (r : Int) ∧ r < 16 := atM block 16 (by omega)
    have HRI : Hid (ri < 5 ∧ rj < 16) := Lib.hid ⟨hri5, hrj16⟩
    have HRA := Lib.hid hri
    have HRB := Lib.hid hrj
    clear hS hb1 hb2 hb02 hb3 hr1 hn3 hri5 hrj16 hri hrj
    go_wp2_with fail
    rw [HRA.out, HRB.out]
    refine (zeros_any 256 w3 (by omega)).mono ?_
    intro e w4 h4
    obtain ⟨sv4, rfl, ho4, hb4⟩ := h4
    obtain ⟨g1, c1, rfl, hg1, _, hob4, _⟩ := ownB_of ho4 (by simp)
    rw [List.length_replicate] at hob4 ⊢
    have HOB4 := Lib.hid hob4
    have HG1 := Lib.hid hg1
    have HB4 := Lib.hid hb4
    clear ho4 hob4 hg1 hb4
    go_wp2_with fail
    refine (zeros_any 64 w4 (by omega)).mono ?_
    intro e w5 h5
    obtain ⟨sv5, rfl, ho5, hb5⟩ := h5
    obtain ⟨g2, c2, rfl, hg2, _, hob5, _⟩ := ownB_of ho5 (by simp)
    rw [List.length_replicate] at hob5 ⊢
    have hg1l : g1 < w4.heap.size := (own_base HOB4.out.1 g1 rfl).2
    have hob45 : OwnB w3.heap.size w5 g1 256 c1 (List.replicate 256 0) := ownB_keep HOB4.out hb5
    have d9 := ownB_cell hob45 9 (by omega)
    have f9 := ownB_frozen hob45 9
    have d3 := ownB_cell hob5 3 (by omega)
    have f3 := ownB_frozen hob5 3
    have hne : g2 ≠ g1 := by omega
    have hs1 := ownB_set hob45 9 c hc
    have hs2 := ownB_aside (g2 := g2) hs1 hne 3 (.int .u8 (c : Int))
    have hs3 := ownB_set (ownB_aside (g2 := g1) hob5 (fun e => hne e.symm) 9 (.int .u8 (c : Int))) 3 c hc
    obtain ⟨ds, hds⟩ : ∃ ds, (List.replicate 256 0).set 9 c = ds := ⟨_, rfl⟩
    obtain ⟨os, hos⟩ : ∃ os, (List.replicate 64 0).set 3 c = os := ⟨_, rfl⟩
    rw [hds] at hs2
    rw [hos] at hs3
    have H1 := Lib.hid hs2
    have H2 := Lib.hid hs3
    have HG2 := Lib.hid hg2
    have HB5 := Lib.hid hb5
    clear ho5 hob5 hob45 hs1 hs2 hs3 hds hos hg2 hb5 HOB4
    go_wp2_with fail
    obtain ⟨W6, hW6⟩ : ∃ W6, (w5.setCell ⟨g1, 9, none⟩ (.int .u8 (c : Int))).setCell ⟨g2, 3, none⟩ (.int .u8 (c : Int)) = W6 := ⟨_, rfl⟩
    have hb36 : Below w3.heap.size w3 W6 := by
      rw [← hW6]
      exact ((HB4.out.trans (HB5.out.mono HB4.out.size)).setCell HG1.out _).setCell (Nat.le_trans HB4.out.size HG2.out) _
    rw [hW6] at H1 H2 ⊢
    obtain ⟨q1, q2, q3, q4, q5⟩ := ownB_row H1.out
    obtain ⟨p1, p2, p3, p4, p5⟩ := ownB_row H2.out
    have hq : Quiet S := by rw [HS.out]; exact quiet_fresh _ _ _ _
    have ht := hq.tick
    have hp := program_ok (HN3.out.below hb36) ri rj (by rw [HS.out]; have := HRI.out.1; show ri ≤ 4; omega) (by rw [HS.out]; exact HRI.out.2) (by rw [HS.out]; rfl) (by rw [HS.out]; show 0 < _; omega) (by rw [ht, HS.out]; rfl) (by rw [hq.ki]; decide) (some ⟨g1, 0, none⟩) 256 c1 (some ⟨g2, 0, none⟩) 64 c2 0 (by rw [ht, HS.out]; show 0 < 4; omega) (by rw [ht, HS.out]; rfl) rfl (by rw [ht, HS.out]; rfl) (by rw [ht, HS.out]; rfl) (by rw [hq.ki]; decide) ds os q1 (fun q => by cases q) p1 (fun q => by cases q) (fun x hx => by cases hx; exact HN3.out.notOwn HG1.out) (fun x hx => by cases hx; exact HN3.out.notOwn (Nat.le_trans HB4.out.size HG2.out))
    rw [show ((0 : Nat) : Int) = 0 from rfl, ht] at hp
    have HQ := Lib.hid hq
    have HQ1 := Lib.hid (And.intro q1 (And.intro q2 q3))
    have HP1 := Lib.hid (And.intro p1 (And.intro p2 p3))
    have HW36 := Lib.hid hb36
    clear hW6 hb36 hq ht q1 q2 q3 q4 q5 p1 p2 p3 p4 p5 d9 f9 d3 f3
    refine hp.mono ?_
    rintro e w7 ⟨rfl, tag', h7, hg7, hk7⟩
    have HN7 := Lib.hid h7
    have HG7 := Lib.hid hg7
    have HK7 := Lib.hid hk7
    clear hp h7 hg7 hk7
    go_wp2_with fail
    have hqn : Calls Try.prog 21 #[.int .i64 4, .int .i64 16, .int .i64 4, .int .i64 256, .slice none 0 0, .slice none 0 0] w7 (QNewRet 4 16 4 256 (fun _ => NE.zero) (.slice none 0 0) w7) := qnew_any 4 16 4 256 none 0 0 (fun _ => NE.zero) w7 (good_shape (r := 1) (by omega))
    refine hqn.mono ?_
    rintro e w8 ⟨tag2, L2, rfl, hev, h8, hb8⟩
    have HEV := Lib.hid hev
    have HST : Hid (∃ sd o1 o2, sd g1 = some o1 ∧ sd g2 = some o2 ∧ J w L.pa L2.pa 1 ri rj (ds ++ os) sd w8 ∧ Row w8 (some ⟨g1, 0, none⟩) 256 ds ∧ Row w8 (some ⟨g2, 0, none⟩) 64 os) := by
      refine Lib.hid ?_
      have e1 : ¬ ownT tag g1 := HN3.out.notOwn HG1.out
      have e2 : ¬ ownT tag g2 := HN3.out.notOwn (Nat.le_trans HB4.out.size HG2.out)
      have hs67 := HK7.out.size
      have r1 := row_kept HQ1.out.1 HK7.out (fun x hx => by cases hx; exact e1)
      have r2 := row_kept HP1.out.1 HK7.out (fun x hx => by cases hx; exact e2)
      have l1 := HQ1.out.2.1
      have l2 := HP1.out.2.1
      have z8 := hb8.size
      obtain ⟨o1, h1⟩ : ∃ o1, w8.heap[g1]? = some o1 := ⟨_, Array.getElem?_eq_getElem (by omega)⟩
      obtain ⟨o2, h2⟩ : ∃ o2, w8.heap[g2]? = some o2 := ⟨_, Array.getElem?_eq_getElem (by omega)⟩
      have hqr : ∀ x, ownQ tag2 x → w7.heap.size ≤ x := fun x o => by
        unfold ownQ at o
        cases ht : tag2 x with
        | none => exact absurd ht o
        | some t => exact (h8.range _ _ ht).1
      refine ⟨sideWith (sideWith (fun _ => none) g1 o1) g2 o2, o1, o2, by unfold sideWith; rw [if_neg (fun e => hne e.symm), if_pos rfl], by unfold sideWith; rw [if_pos rfl], ?_, row_keep r1 hb8 (Nat.le_refl _), row_keep r2 hb8 (Nat.le_refl _)⟩
      refine ⟨_, tag', L, _, _, tag2, L2, _, rfl, rfl, HN7.out.below hb8, h8, HEV.out, fun x t o => ?_, ?_, ?_, ?_, ?_, HW2.out, ?_, ?_, fun x o hx => ?_⟩
      · have := hqr x o
        exact HN7.out.notOwn this t
      · rw [HS.out]
        refine ⟨fun _ => rfl, rfl, Nat.le_refl _, fun _ _ => rfl, fun _ _ => Nat.zero_le _, ⟨rfl, rfl, rfl, rfl⟩⟩
      · exact ⟨fun _ => rfl, rfl, Nat.zero_le _, fun _ _ => rfl, fun _ _ => Nat.zero_le _, ⟨rfl, rfl, rfl, rfl⟩⟩
      · simp [NS.setPage, NS.setNext]
      · rw [HS.out]; rfl
      · have := HB03.out.size; have := HW36.out.size; omega
      · have h6 := HB03.out.trans (HW36.out.mono HB03.out.size)
        have h7 := (HN3.out.below HW36.out).behind HK7.out h6 HW2.out
        exact h7.trans (hb8.mono h7.size)
      · have hdn : ∀ g, ¬ ownT tag g → g < W6.heap.size → ¬ ownT tag' g := fun g hg hl t => (HG7.out.down g t).elim hg (fun q => by omega)
        unfold sideWith at hx
        by_cases e : x = g2
        · rw [if_pos e] at hx; cases hx; subst e
          exact ⟨h2, hdn _ e2 l2, fun t => by have := hqr _ t; omega⟩
        · rw [if_neg e] at hx
          by_cases e' : x = g1
          · rw [if_pos e'] at hx; cases hx; subst e'
            exact ⟨h1, hdn _ e1 l1, fun t => by have := hqr _ t; omega⟩
          · rw [if_neg e'] at hx; cases hx
    obtain ⟨sd, o1, o2, s1, s2, hj0, r1, r2⟩ := HST.out
    have HJ0 := Lib.hid hj0
    have HSD := Lib.hid (And.intro s1 s2)
    have HR8 := Lib.hid (And.intro r1 r2)
    clear hev h8 hb8 hqn s1 s2 hj0 r1 r2 HST HN7 HG7 HK7 HN3 HQ1 HP1 HW36 H1 H2 HS HQ
    go_wp2_with fail
    go_loopw [12] (fun i wr => ∃ n : Nat, n ≤ len ∧ i = .int .i64 (n : Int) ∧ J w L.pa L2.pa (1 + 4 * n) ri rj (ds ++ os) sd wr) (fun i _ => len - (intOf i).toNat)
    case atStart => exact ⟨0, Nat.zero_le _, rfl, HJ0.out⟩
    case round =>
      obtain ⟨n, hn, rfl, hj⟩ := hrel
      have HJ := Lib.hid hj
      have HBL := Lib.hid (J.bel hj)
      clear hj
      by_cases hlt : n < len
      · obtain ⟨b, off, rfl, hbl, hcs⟩ := (rowO_below HIN.out HBL.out).2.2 (by omega)
        obtain ⟨k0, k1, k2, k3, k4, k5⟩ := hcs n hlt
        obtain ⟨v, hv⟩ : ∃ v, ops n = v := ⟨_, rfl⟩
        have hdt := HIN.out.2.1 n
        rw [hv] at k0 k1 k2 k3 k4 k5 hdt
        have d2 : decide (n < len) = true := decide_eq_true hlt
        have HK : Hid (1 + 4 * n ≤ 900) := Lib.hid (by have := HL.out; omega)
        have HNN : Hid (n < len) := Lib.hid hlt
        have HDT := Lib.hid hdt
        obtain ⟨ki, ch, bl, pg, dt, sh⟩ := v
        simp only at k0 k1 k2 k3 k4 k5
        clear hv hdt hcs
        by_cases hch : ch = (ri : Int)
        · have e1 : (ch != (ri : Int)) = false := by simpa using hch
          by_cases hbj : bl = (rj : Int)
          · have e2 : (bl != (rj : Int)) = false := by simpa using hbj
            clear hch hbj
            go_wp2
            go_roundw
            case rel => exact ⟨n + 1, by have := HNN.out; omega, by go_num, HJ.out.mono (by omega)⟩
            case measure => have := HNN.out; simp [intOf]; omega
          · have e2 : (bl != (rj : Int)) = true := by simpa using hbj
            by_cases h5 : ki = 5
            · have e3 : (ki != 5) = false := by simpa using h5
              clear hch hbj h5
              go_wp2
              go_roundw
              case rel => exact ⟨n + 1, by have := HNN.out; omega, by go_num, HJ.out.mono (by omega)⟩
              case measure => have := HNN.out; simp [intOf]; omega
            · have e3 : (ki != 5) = true := by simpa using h5
              have HD := Lib.hid (done_any HJ.out HK.out ki ch bl pg dt HDT.out sh (fun q => hbj q.2.symm) (fun q => absurd q h5))
              clear hch hbj h5
              go_wp2_with fail
              refine HD.out.mono ?_
              rintro e w' ⟨⟨bb, rfl⟩, hj'⟩
              rw [show 1 + 4 * n + 4 = 1 + 4 * (n + 1) by omega] at hj'
              have HJ' := Lib.hid hj'
              clear hj'
              go_wp2
              go_roundw
              case rel => exact ⟨n + 1, by have := HNN.out; omega, by go_num, HJ'.out⟩
              case measure => have := HNN.out; simp [intOf]; omega
        · have e1 : (ch != (ri : Int)) = true := by simpa using hch
          have HD := Lib.hid (done_any HJ.out HK.out ki ch bl pg dt HDT.out sh (fun q => hch q.1.symm) (fun _ q => hch q.symm))
          by_cases h5 : ki = 5
          · have e2 : (ki != 5) = false := by simpa using h5
            clear hch h5
            go_wp2_with fail
            refine HD.out.mono ?_
            rintro e w' ⟨⟨bb, rfl⟩, hj'⟩
            rw [show 1 + 4 * n + 4 = 1 + 4 * (n + 1) by omega] at hj'
            have HJ' := Lib.hid hj'
            clear hj'
            go_wp2
            go_roundw
            case rel => exact ⟨n + 1, by have := HNN.out; omega, by go_num, HJ'.out⟩
            case measure => have := HNN.out; simp [intOf]; omega
          · have e2 : (ki != 5) = true := by simpa using h5
            clear hch h5
            go_wp2_with fail
            refine HD.out.mono ?_
            rintro e w' ⟨⟨bb, rfl⟩, hj'⟩
            rw [show 1 + 4 * n + 4 = 1 + 4 * (n + 1) by omega] at hj'
            have HJ' := Lib.hid hj'
            clear hj'
            go_wp2
            go_roundw
            case rel => exact ⟨n + 1, by have := HNN.out; omega, by go_num, HJ'.out⟩
            case measure => have := HNN.out; simp [intOf]; omega
      · obtain rfl : n = len := by omega
        obtain ⟨B, tagR, LR, SR, B2, tagQ, LQ, SQ, eA, eB, hjs⟩ := HJ.out
        have ht := hjs.ki.quiet.tick
        have hrd := read_some hjs.na ri rj (by rw [hjs.ki.g.1]; have := HRI.out.1; omega) (by rw [hjs.ki.g.2.1]; exact HRI.out.2) hjs.ki.off (by have := hjs.ki.ops; have := HL.out; omega) (by rw [ht]; exact hjs.dd) (by rw [hjs.ki.quiet.ki]; decide) 0 (by rw [ht]; show 0 < SR.g2; rw [hjs.ki.g.2.2.1]; omega) (ds ++ os) (by rw [ht]; exact hjs.pg)
        rw [show ((0 : Nat) : Int) = 0 from rfl, ht, show (SR.setOps (SR.ops + 1)).g3 = 256 from hjs.ki.g.2.2.2, eA] at hrd
        have HRD := Lib.hid hrd
        have HJS := Lib.hid hjs
        have d2 : decide ((n : Int) < (n : Int)) = false := by simp
        clear hrd hjs ht hlt
        go_wp2_with fail
        refine HRD.out.mono ?_
        rintro e w9 ⟨a1, x1, a2, x2, rfl, o1', o2', h9, k9⟩
        have hsid1 := HJS.out.side g1 o1 HSD.out.1
        have hsid2 := HJS.out.side g2 o2 HSD.out.2
        have hd1 : Row w9 (some ⟨g1, 0, none⟩) 256 ds := row_same HR8.out.1 (fun _ x hx => by cases hx; exact ((k9.block _ (HJS.out.lt HSD.out.1) hsid1.2.1).trans hsid1.1).trans (HJ0.out.at HSD.out.1).1.symm)
        have hd2 : Row w9 (some ⟨g2, 0, none⟩) 64 os := row_same HR8.out.2 (fun _ x hx => by cases hx; exact ((k9.block _ (HJS.out.lt HSD.out.2) hsid2.2.1).trans hsid2.1).trans (HJ0.out.at HSD.out.2).1.symm)
        rw [take_app hd1.1] at o1'
        rw [drop_app hd1.1] at o2'
        obtain ⟨_, _, e1, r1, _⟩ := row_of_own o1'
        obtain ⟨_, _, e2, r2, _⟩ := row_of_own o2'
        simp only [Value.slice.injEq] at e1 e2
        obtain ⟨rfl, f1, rfl⟩ := e1
        obtain ⟨rfl, f2, rfl⟩ := e2
        rw [← f1] at r1
        rw [← f2] at r2
        have HBE : Hid (Below w.heap.size w w9) := Lib.hid (HJS.out.na.behind k9 HJS.out.bel HJS.out.b1)
        have HM1 := Lib.hid (same_any _ _ 256 x1 256 c1 ds w9 r1 hd1)
        have HM2 := Lib.hid (same_any _ _ 64 x2 64 c2 os w9 r2 hd2)
        clear h9 k9 hsid1 hsid2 hd1 hd2 r1 r2 f1 f2 o1' o2' HRD
        go_wp2_with fail
        refine HM1.out.mono ?_
        rintro e w10 ⟨rfl, rfl⟩
        go_wp2_with fail
        refine HM2.out.mono ?_
        rintro e w11 ⟨rfl, rfl⟩
        go_wp2
        go_ret
        exact ⟨rfl, HBE.out⟩
end Go.Proofs.Ytbfmpcomjmcfjaa
