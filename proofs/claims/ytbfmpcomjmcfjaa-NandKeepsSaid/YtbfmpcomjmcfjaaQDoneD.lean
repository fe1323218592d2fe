/- gabionlaw04.done, kind 2: both program, in whichever order. -/
import Derived.Test.YtbfmpcomjmcfjaaQDoneC
namespace Go.Proofs.Ytbfmpcomjmcfjaa
open Go.RowKit Go.Deep
theorem setQ_lt (l : List Nat) (j x : Nat) (h : ∀ y ∈ l, y < 256) (hx : x < 256) : ∀ y ∈ l.set j x, y < 256 := by
  intro y hy
  rcases List.mem_or_eq_of_mem_set hy with hy | rfl
  · exact h y hy
  · exact hx
/-- Bytes of the call's own at a known place. -/
def OwnB (B : Nat) (w : World) (g n cap : Nat) (l : List Nat) : Prop := Own B w (.slice (some ⟨g, 0, none⟩) n cap) l ∧ l.length = n
theorem ownB_of {B : Nat} {w : World} {sv : Value} {l : List Nat} (h : Own B w sv l) (h0 : 0 < l.length) : ∃ g cap, sv = .slice (some ⟨g, 0, none⟩) l.length cap ∧ B ≤ g ∧ g < w.heap.size ∧ OwnB B w g l.length cap l ∧ l.length ≤ maxLen := by
  have hlt := own_base h
  have h' := h
  rcases h.1.2 with ⟨_, h2⟩ | ⟨g, cap, cur, rfl, hb, _, hc1, hc2, _⟩
  · omega
  · have := hlt g rfl
    exact ⟨g, cap, rfl, hb, this.2, ⟨h', rfl⟩, Nat.le_trans hc1 hc2⟩
theorem ownB_cell {B : Nat} {w : World} {g n cap : Nat} {l : List Nat} (h : OwnB B w g n cap l) (j : Nat) (hj : j < n) : w.cell? ⟨g, j, none⟩ = some (.int .u8 ((l.getD j 0 : Nat) : Int)) := by
  have hl := h.2
  obtain ⟨h1, _⟩ := h
  have h2 := h1.1
  rw [hl] at h2
  rw [h2.cellAt j (by omega), List.getElem?_map, List.getElem?_eq_getElem (by omega), getD_in _ _ (by omega)]
  rfl
theorem ownB_frozen {B : Nat} {w : World} {g n cap : Nat} {l : List Nat} (h : OwnB B w g n cap l) (j : Nat) : w.frozen? ⟨g, j, none⟩ = false := by
  have h2 := h.1.1
  rw [h.2] at h2
  exact h2.frozenAt j
theorem ownB_set {B : Nat} {w : World} {g n cap : Nat} {l : List Nat} (h : OwnB B w g n cap l) (j y : Nat) (hy : y < 256) : OwnB B (w.setCell ⟨g, j, none⟩ (.int .u8 (y : Int))) g n cap (l.set j y) := by
  have h2 := h.1.1
  rw [h.2] at h2
  refine ⟨⟨?_, setQ_lt _ _ _ h.1.2 hy⟩, by rw [List.length_set]; exact h.2⟩
  rw [List.map_set, List.length_set, h.2]
  exact (h2.stored j (u8v y)).1
section
variable {w0 w w' : World} {pa pq k ci cj : Nat} {bs : List Nat} {sd : Nat → Option Obj}
theorem J.adopt (h : J w0 pa pq k ci cj bs sd w) (hb : Below w.heap.size w w') {g : Nat} {o : Obj} (hg : w.heap.size ≤ g) (ho : w'.heap[g]? = some o) : J w0 pa pq k ci cj bs (sideWith sd g o) w' := by
  obtain ⟨_, _, _, _, _, _, _, _, e1, e2, h1⟩ := h
  have h2 := h1.below hb
  refine ⟨_, _, _, _, _, _, _, _, e1, e2, h2.na, h2.qa, h2.ev, h2.dis, h2.ki, h2.kq, h2.pg, h2.dd, h2.b1, h2.b2, h2.bel, fun x o' hx => ?_⟩
  unfold sideWith at hx
  by_cases e : x = g
  · rw [if_pos e] at hx; cases hx
    subst e
    exact ⟨ho, h1.na.notOwn hg, h1.qa.notOwn hg⟩
  · rw [if_neg e] at hx
    exact h2.side x o' hx
theorem J.program (h : J w0 pa pq k ci cj bs sd w) (hk : k ≤ 1000) (c d p : Int) (hne : ¬ ((ci : Int) = c ∧ (cj : Int) = d)) {g n1 c1 g2 c2 : Nat} {ds os : List Nat} {o1 o2 : Obj} (s1 : sd g = some o1) (s2 : sd g2 = some o2) (r1 : Row w (some ⟨g, 0, none⟩) n1 ds) (r2 : Row w (some ⟨g2, 0, none⟩) 64 os) :
    Calls Try.prog 36 #[.pointer (some ⟨pa, 0, none⟩), .int .i64 c, .int .i64 d, .int .i64 p, .slice (some ⟨g, 0, none⟩) n1 c1, .slice (some ⟨g2, 0, none⟩) 64 c2] w fun e w' => (∃ n : Int, e = .returned (.int .i64 n)) ∧ J w0 pa pq (k + 2) ci cj bs sd w' := by
  obtain ⟨B, tag, L, S, B2, tag2, L2, S2, rfl, rfl, h1⟩ := h
  refine (cprogram h1.na h1.ki hk c d p _ n1 c1 _ c2 ds os r1 (fun q => by cases q) r2 (fun q => by cases q) (fun x hx => by cases hx; exact (h1.side g o1 s1).2.1) (fun x hx => by cases hx; exact (h1.side g2 o2 s2).2.1)).mono ?_
  rintro e w' ⟨n, rfl, hc⟩
  obtain ⟨tag', S', h2, _⟩ := h1.arr hc (by omega) hne
  exact ⟨⟨n, rfl⟩, _, _, _, _, _, _, _, _, rfl, rfl, h2.mono (by omega)⟩
theorem J.qprogram (h : J w0 pa pq k ci cj bs sd w) (hk : k ≤ 1000) (c d p : Int) {g n1 c1 g2 c2 : Nat} {ds os : List Nat} {o1 o2 : Obj} (s1 : sd g = some o1) (s2 : sd g2 = some o2) (r1 : Row w (some ⟨g, 0, none⟩) n1 ds) (r2 : Row w (some ⟨g2, 0, none⟩) 64 os) (hlc : n1 ≤ c1) (hcm : c1 ≤ maxLen) :
    Calls Try.prog 78 #[.pointer (some ⟨pq, 0, none⟩), .int .i64 c, .int .i64 d, .int .i64 p, .slice (some ⟨g, 0, none⟩) n1 c1, .slice (some ⟨g2, 0, none⟩) 64 c2] w fun e w' => (∃ n : Int, e = .returned (.int .i64 n)) ∧ J w0 pa pq (k + 2) ci cj bs sd w' := by
  obtain ⟨B, tag, L, S, B2, tag2, L2, S2, rfl, rfl, h1⟩ := h
  refine (cqprogram h1.qa h1.ev h1.kq hk c d p _ n1 c1 _ c2 ds os r1 hlc hcm (fun q => by cases q) r2 (fun q => by cases q) (fun x hx => by cases hx; exact (h1.side g o1 s1).2.2) (fun x hx => by cases hx; exact (h1.side g2 o2 s2).2.2)).mono ?_
  rintro e w' ⟨n, rfl, hc⟩
  obtain ⟨tag', L', S', e1, h2, _⟩ := h1.ref hc (by omega)
  exact ⟨⟨n, rfl⟩, _, _, _, _, _, _, _, _, rfl, e1, h2.mono (by omega)⟩
theorem row_two (w : World) (x y : Nat) (hx : x < 256) (hy : y < 256) : Row (w.alloc (.cells #[.int .u8 (x : Int), .int .u8 (y : Int)] 5)) (some ⟨w.heap.size, 0, none⟩) 2 [x, y] :=
  ⟨rfl, fun z hz => by simp at hz; omega, fun _ => ⟨_, 0, rfl, fun i hi => by
    rw [Nat.zero_add, World.cell?_alloc_new]
    rcases (by omega : i = 0 ∨ i = 1) with rfl | rfl <;> rfl⟩⟩
/-- What the region that programs both wants to know. -/
theorem tail_facts {W0 wr w5 : World} {g c1 g2 c2 : Nat} {l os : List Nat} {bx : Nat} {o : Obj} {sd : Nat → Option Obj} (hj : J w0 pa pq k ci cj bs (sideWith sd bx o) W0) (hb : Below W0.heap.size W0 wr) (hb5 : Below wr.heap.size wr w5) (ho : OwnB W0.heap.size wr g 256 c1 l) {B5 : Nat} (ho5 : OwnB B5 w5 g2 64 c2 os) (hg : W0.heap.size ≤ g) (hg2 : wr.heap.size ≤ g2) (n : Nat) (hn : n ≤ 256) :
    ∃ sdx ds o1 o2, J w0 pa pq k ci cj bs sdx w5 ∧ sdx bx = some o ∧ sdx g = some o1 ∧ sdx g2 = some o2 ∧ (∀ x o', sd x = some o' → sd bx = none → sdx x = some o') ∧ Row w5 (some ⟨g, 0, none⟩) n ds ∧ Row w5 (some ⟨g2, 0, none⟩) 64 os ∧ n ≤ c1 ∧ c1 ≤ maxLen := by
  have hgl := (own_base ho.1 g rfl).2
  have hgl5 := (own_base ho5.1 g2 rfl).2
  have hs5 := hb5.size
  obtain ⟨o1, h1⟩ : ∃ o1, wr.heap[g]? = some o1 := ⟨_, Array.getElem?_eq_getElem hgl⟩
  obtain ⟨o2, h2⟩ : ∃ o2, w5.heap[g2]? = some o2 := ⟨_, Array.getElem?_eq_getElem hgl5⟩
  have j1 := hj.adopt hb hg h1
  have j2 := j1.adopt hb5 hg2 h2
  have hlt := (hj.at (x := bx) (by unfold sideWith; rw [if_pos rfl])).2
  have hbs := hb.size
  obtain ⟨a, c, e, hr, _⟩ := row_of_own ho.1
  simp only [Value.slice.injEq] at e
  obtain ⟨rfl, e2, rfl⟩ := e
  rw [← e2] at hr
  obtain ⟨a5, c5, e5, hr5, _⟩ := row_of_own ho5.1
  simp only [Value.slice.injEq] at e5
  obtain ⟨rfl, e6, rfl⟩ := e5
  rw [← e6] at hr5
  obtain ⟨g', q1, _, _, q2, q3, _⟩ := own_block ho.1 (by rw [ho.2]; omega)
  refine ⟨_, l.take n, o1, o2, j2, ?_, ?_, ?_, fun x o' hx hn' => ?_, row_keep (row_prefix hr n hn) hb5 (Nat.le_refl _), hr5, by omega, q3⟩
  · unfold sideWith; rw [if_neg (by omega), if_neg (by omega), if_pos rfl]
  · unfold sideWith; rw [if_neg (by omega), if_pos rfl]
  · unfold sideWith; rw [if_pos rfl]
  · have hxl := (hj.at (x := x) (sideWith_up hn' hx)).2
    unfold sideWith
    rw [if_neg (by omega), if_neg (by omega), if_neg (fun e => by subst e; rw [hn'] at hx; cases hx)]; exact hx
def E15 (pa pq bx : Nat) (ch bl pg : Int) (g n1 c1 g2 c2 : Nat) (i : Nat) (v : Value) : Prop := match i with
  | 0 => v = .pointer (some ⟨pa, 0, none⟩)
  | 1 => v = .pointer (some ⟨bx, 1, none⟩)
  | 2 => v = .int .i64 ch
  | 3 => v = .pointer (some ⟨bx, 2, none⟩)
  | 4 => v = .int .i64 bl
  | 5 => v = .pointer (some ⟨bx, 3, none⟩)
  | 6 => v = .int .i64 pg
  | 7 => v = .slice (some ⟨g, 0, none⟩) n1 c1
  | 8 => v = .slice (some ⟨g2, 0, none⟩) 64 c2
  | 9 => ∃ n : Int, v = .int .i64 n
  | 10 => v = .pointer (some ⟨pq, 0, none⟩)
  | 11 => v = .pointer (some ⟨bx, 1, none⟩)
  | 12 => v = .int .i64 ch
  | 13 => v = .pointer (some ⟨bx, 2, none⟩)
  | 14 => v = .int .i64 bl
  | 15 => v = .pointer (some ⟨bx, 3, none⟩)
  | 16 => v = .int .i64 pg
  | 17 => v = .slice (some ⟨g, 0, none⟩) n1 c1
  | 18 => v = .slice (some ⟨g2, 0, none⟩) 64 c2
  | 19 => ∃ n : Int, v = .int .i64 n
  | 20 => ∃ b, v = .bool b
  | _ => True
set_option maxRecDepth 100000 in
set_option maxHeartbeats 3200000 in
theorem done_program (h : J w0 pa pq k ci cj bs sd w) (hk : k ≤ 900) (ch bl pg : Int) (dt : Nat) (hdt : dt < 256) (sh : Bool) (hne : ¬ ((ci : Int) = ch ∧ (cj : Int) = bl)) :
    Calls Try.prog 22 #[.pointer (some ⟨pa, 0, none⟩), .pointer (some ⟨pq, 0, none⟩), .agg #[.int .i64 2, .int .i64 ch, .int .i64 bl, .int .i64 pg, .int .u8 (dt : Int), .bool sh]] w (DRet w0 pa pq (k + 4) ci cj bs sd) := by
  have HSD : Hid (sd w.heap.size = none) := Lib.hid h.fresh
  obtain ⟨o, ho⟩ : ∃ o, o = Obj.cells #[.int .i64 2, .int .i64 ch, .int .i64 bl, .int .i64 pg, .int .u8 (dt : Int), .bool sh] 43 := ⟨_, rfl⟩
  have HW : Hid (J w0 pa pq k ci cj bs (sideWith sd w.heap.size o) (w.alloc o)) := Lib.hid (h.alloc o)
  have HO := Lib.hid ho
  clear h ho
  go_enter Try.func22, Try.ntmps22
  go_wp2_with fail
  rw [← HO.out]
  refine (zeros_any 256 (w.alloc o) (by omega)).mono ?_
  intro e w1 h1
  obtain ⟨sv, rfl, ho1, hb1⟩ := h1
  obtain ⟨g, c1, rfl, hg0, hg1, hob, hml⟩ := ownB_of ho1 (by simp)
  rw [List.length_replicate] at hob ⊢
  obtain ⟨W0, hW0⟩ : ∃ W0, W0 = w.alloc o := ⟨_, rfl⟩
  rw [← hW0] at HW hob hb1 hg0
  have HB1 := Lib.hid hb1
  have HOB := Lib.hid hob
  have HG0 := Lib.hid hg0
  have HW0 := Lib.hid hW0
  clear ho1 hb1 hob hg0 hg1 hml hW0
  go_wp2_with fail
  go_loopw [13] (fun i wr => ∃ kk : Nat, kk ≤ 256 ∧ i = .int .i64 (kk : Int) ∧ ∃ l, OwnB W0.heap.size wr g 256 c1 l ∧ Below W0.heap.size W0 wr) (fun i _ => 256 - (intOf i).toNat)
  case atStart => exact ⟨0, by omega, rfl, _, HOB.out, HB1.out⟩
  case round =>
    obtain ⟨kk, hkk, rfl, l, hob, hbel⟩ := hrel
    have hj := HW.out.below hbel
    obtain ⟨m0, m1, m2, m3, m4, m5⟩ := six_cells (by rw [← HO.out]; exact (hj.at (x := w.heap.size) (by unfold sideWith; rw [if_pos rfl])).1)
    have lb := (hj.at (x := w.heap.size) (by unfold sideWith; rw [if_pos rfl])).2
    have HJ := Lib.hid hj
    clear hj
    by_cases hlt : kk < 256
    · have hc := ownB_cell hob kk hlt
      have hf := ownB_frozen hob kk
      have d1 : decide ((kk : Int) < 256) = true := by simp; omega
      have HN : Hid (kk < 256) := Lib.hid hlt
      have HOW := Lib.hid hob
      have HBE := Lib.hid hbel
      clear hob hbel
      have hy : (((dt + kk) % 256 : Nat) : Int) = ((dt : Int) + (kk : Int)) % 256 := by omega
      have HY := Lib.hid hy
      clear hy
      go_wp2
      go_roundw
      case rel =>
        refine ⟨kk + 1, by omega, by go_num, l.set kk ((dt + kk) % 256), ?_, HBE.out.setCell HG0.out _⟩
        rw [← HY.out]
        exact ownB_set HOW.out kk _ (by omega)
      case measure => simp [intOf]; omega
    · obtain rfl : kk = 256 := by omega
      have HOW := Lib.hid hob
      have HBE := Lib.hid hbel
      clear hob hbel hlt
      cases sh
      · have hc1 : 256 ≤ c1 := by obtain ⟨_, q1, _, _, q2, q3, _⟩ := own_block HOW.out.1 (by rw [HOW.out.2]; omega); exact q2
        have hc2 : 255 ≤ c1 := by omega
        go_wp2_with fail
        have HRW : Hid (Row (wr.alloc (.cells #[.int .u8 (dt : Int), .int .u8 7] 5)) (some ⟨wr.heap.size, 0, none⟩) 2 [dt, 7]) := Lib.hid (row_two wr dt 7 hdt (by omega))
        have hb2 : Below wr.heap.size wr (wr.alloc (.cells #[.int .u8 (dt : Int), .int .u8 7] 5)) := bel_alloc (Below.refl _ _) _
        refine (refPad_any _ 2 2 [dt, 7] _ HRW.out (by omega) (by unfold maxLen; omega) (fun q => by cases q) (by omega) 64 (by omega) (by omega)).mono ?_
        intro e w5 h5
        obtain ⟨sv5, rfl, ho5, hb5⟩ := h5
        have hpl : (padTo [dt, 7] 64).length = 64 := by simp [padTo]
        obtain ⟨g2, c2, rfl, hg2, hg3, hob5, hml5⟩ := ownB_of ho5 (by omega)
        rw [hpl] at hob5 ⊢
        obtain ⟨os, hos⟩ : ∃ os, padTo [dt, 7] 64 = os := ⟨_, rfl⟩
        rw [hos] at hob5
        have hbw := HBE.out.trans ((hb2.trans (hb5.mono hb2.size)).mono HBE.out.size)
        have hTAIL := tail_facts HW.out HBE.out (hb2.trans (hb5.mono hb2.size)) HOW.out hob5 HG0.out (Nat.le_trans hb2.size hg2) 256 (by omega)
        obtain ⟨sdx, ds, o1, o2, hjx, x1, x2, x3, hup, r1, r2, y1, y2⟩ := hTAIL
        have HX1 : Hid (sdx w.heap.size = some o) := Lib.hid x1
        have HS : Hid (sdx g = some o1 ∧ sdx g2 = some o2) := Lib.hid (And.intro x2 x3)
        have HC : Hid (256 ≤ c1 ∧ c1 ≤ maxLen) := Lib.hid (And.intro y1 y2)
        have HUP := Lib.hid hup
        have HJX := Lib.hid hjx
        have HB : Hid (∀ Lp w', TwoJ w0 pa pq k ci cj bs sdx 9 19 Lp w' → w'.cell? ⟨w.heap.size, 1, none⟩ = some (.int .i64 ch) ∧ w'.cell? ⟨w.heap.size, 2, none⟩ = some (.int .i64 bl) ∧ w'.cell? ⟨w.heap.size, 3, none⟩ = some (.int .i64 pg)) := Lib.hid fun Lp w' h2 => by
          obtain ⟨c, hj, _⟩ := h2
          have h3 := (hj.at HX1.out).1
          rw [HO.out] at h3
          obtain ⟨k0, k1, k2, k3, k4, k5⟩ := six_cells h3
          exact ⟨k1, k2, k3⟩
        have HR : Hid (∀ Lp w', TwoJ w0 pa pq k ci cj bs sdx 9 19 Lp w' → Row w' (some ⟨g, 0, none⟩) 256 ds ∧ Row w' (some ⟨g2, 0, none⟩) 64 os) := Lib.hid fun Lp w' h2 => by
          obtain ⟨c, hj, _⟩ := h2
          exact ⟨row_same r1 (fun _ x hx => by cases hx; exact (hj.at HS.out.1).1.trans (HJX.out.at HS.out.1).1.symm), row_same r2 (fun _ x hx => by cases hx; exact (hj.at HS.out.2).1.trans (HJX.out.at HS.out.2).1.symm)⟩
        clear hbw hpl ho5 hg2 hg3 hml5 hob5 hos hjx x1 x2 x3 hup r1 r2 y1 y2 hb5 hb2 HRW m0 m1 m2 m3 m4 m5 lb hkk HJ HW HB1 HOB HOW HBE
        go_wp2_with fail
        refine wp_region_inv0 (fun a0 => DI 78 21 (E15 pa pq w.heap.size ch bl pg g 256 c1 g2 c2) (TwoJ w0 pa pq k ci cj bs sdx 9 19) a0) (by kernel_rfl) (by kernel_rfl) ?start ?step ?done
        case start =>
          exact ⟨rfl, rfl, fun _ _ _ => rfl, ⟨0, HJX.out.below ((Below.refl _ _).drew), by omega, fun _ => by omega, fun _ => by omega, fun _ _ => rfl⟩, fun _ _ q => q.elim, fun q => q.elim⟩
        case step =>
          intro Lp a' w' i o' hI ho hL hpre
          match i, ho, hL, hpre with
          | 0, ho, hL, hpre =>
            clear hL
            cases ho
            have q0 : a'.tmps.getD 0 undef = .pointer (some ⟨pa, 0, none⟩) := hI.old 0 (by omega) (by omega)
            refine wpOp_step rfl fun K hK => ?_
            have hK' := hK _ _ (hI.put (by omega) 0 (by omega) (v := .pointer (some ⟨pa, 0, none⟩)) (rfl) (hI.mem.same 0))
            simpa [go_sem, Act.eval, q0] using hK'
          | 1, ho, hL, hpre =>
            clear hL
            cases ho
            have q5 : a'.tmps.getD 5 undef = .pointer (some ⟨w.heap.size, 0, none⟩) := hI.old 5 (by omega) (by omega)
            refine wpOp_step rfl fun K hK => ?_
            have hK' := hK _ _ (hI.put (by omega) 1 (by omega) (v := .pointer (some ⟨w.heap.size, 1, none⟩)) (rfl) (hI.mem.same 1))
            simpa [go_sem, Act.eval, q5] using hK'
          | 2, ho, hL, hpre =>
            clear hL
            cases ho
            have q79 : a'.tmps.getD 79 undef = .pointer (some ⟨w.heap.size, 1, none⟩) := hI.val 1 (by omega) (hpre ⟨1, .data⟩ (by simp) rfl)
            have hc : w'.cell? ⟨w.heap.size, 1, none⟩ = some (.int .i64 ch) := (HB.out _ _ hI.mem).1
            refine wpOp_step rfl fun K hK => ?_
            have hK' := hK _ _ (hI.put (by omega) 2 (by omega) (v := .int .i64 ch) (rfl) (hI.mem.same 2))
            simpa [go_sem, Act.eval, q79, hc] using hK'
          | 3, ho, hL, hpre =>
            clear hL
            cases ho
            have q5 : a'.tmps.getD 5 undef = .pointer (some ⟨w.heap.size, 0, none⟩) := hI.old 5 (by omega) (by omega)
            refine wpOp_step rfl fun K hK => ?_
            have hK' := hK _ _ (hI.put (by omega) 3 (by omega) (v := .pointer (some ⟨w.heap.size, 2, none⟩)) (rfl) (hI.mem.same 3))
            simpa [go_sem, Act.eval, q5] using hK'
          | 4, ho, hL, hpre =>
            clear hL
            cases ho
            have q81 : a'.tmps.getD 81 undef = .pointer (some ⟨w.heap.size, 2, none⟩) := hI.val 3 (by omega) (hpre ⟨3, .data⟩ (by simp) rfl)
            have hc : w'.cell? ⟨w.heap.size, 2, none⟩ = some (.int .i64 bl) := (HB.out _ _ hI.mem).2.1
            refine wpOp_step rfl fun K hK => ?_
            have hK' := hK _ _ (hI.put (by omega) 4 (by omega) (v := .int .i64 bl) (rfl) (hI.mem.same 4))
            simpa [go_sem, Act.eval, q81, hc] using hK'
          | 5, ho, hL, hpre =>
            clear hL
            cases ho
            have q5 : a'.tmps.getD 5 undef = .pointer (some ⟨w.heap.size, 0, none⟩) := hI.old 5 (by omega) (by omega)
            refine wpOp_step rfl fun K hK => ?_
            have hK' := hK _ _ (hI.put (by omega) 5 (by omega) (v := .pointer (some ⟨w.heap.size, 3, none⟩)) (rfl) (hI.mem.same 5))
            simpa [go_sem, Act.eval, q5] using hK'
          | 6, ho, hL, hpre =>
            clear hL
            cases ho
            have q83 : a'.tmps.getD 83 undef = .pointer (some ⟨w.heap.size, 3, none⟩) := hI.val 5 (by omega) (hpre ⟨5, .data⟩ (by simp) rfl)
            have hc : w'.cell? ⟨w.heap.size, 3, none⟩ = some (.int .i64 pg) := (HB.out _ _ hI.mem).2.2
            refine wpOp_step rfl fun K hK => ?_
            have hK' := hK _ _ (hI.put (by omega) 6 (by omega) (v := .int .i64 pg) (rfl) (hI.mem.same 6))
            simpa [go_sem, Act.eval, q83, hc] using hK'
          | 7, ho, hL, hpre =>
            clear hL
            cases ho
            have q12 : a'.tmps.getD 12 undef = .slice (some ⟨g, 0, none⟩) 256 c1 := hI.old 12 (by omega) (by omega)
            refine wpOp_step rfl fun K hK => ?_
            have hK' := hK _ _ (hI.put (by omega) 7 (by omega) (v := .slice (some ⟨g, 0, none⟩) 256 c1) (rfl) (hI.mem.same 7))
            simpa [go_sem, Act.eval, q12] using hK'
          | 8, ho, hL, hpre =>
            clear hL
            cases ho
            have q14 : a'.tmps.getD 14 undef = .slice (some ⟨g2, 0, none⟩) 64 c2 := hI.old 14 (by omega) (by omega)
            refine wpOp_step rfl fun K hK => ?_
            have hK' := hK _ _ (hI.put (by omega) 8 (by omega) (v := .slice (some ⟨g2, 0, none⟩) 64 c2) (rfl) (hI.mem.same 8))
            simpa [go_sem, Act.eval, q14] using hK'
          | 9, ho, hL, hpre =>
            cases ho
            have q78 : a'.tmps.getD 78 undef = .pointer (some ⟨pa, 0, none⟩) := hI.val 0 (by omega) (hpre ⟨0, .data⟩ (by simp) rfl)
            have q80 : a'.tmps.getD 80 undef = .int .i64 ch := hI.val 2 (by omega) (hpre ⟨2, .data⟩ (by simp) rfl)
            have q82 : a'.tmps.getD 82 undef = .int .i64 bl := hI.val 4 (by omega) (hpre ⟨4, .data⟩ (by simp) rfl)
            have q84 : a'.tmps.getD 84 undef = .int .i64 pg := hI.val 6 (by omega) (hpre ⟨6, .data⟩ (by simp) rfl)
            have q85 : a'.tmps.getD 85 undef = .slice (some ⟨g, 0, none⟩) 256 c1 := hI.val 7 (by omega) (hpre ⟨7, .data⟩ (by simp) rfl)
            have q86 : a'.tmps.getD 86 undef = .slice (some ⟨g2, 0, none⟩) 64 c2 := hI.val 8 (by omega) (hpre ⟨8, .data⟩ (by simp) rfl)
            obtain ⟨c, hj, hc2, hnx⟩ := hI.mem.begin (i := 9) (by omega) hL (by omega)
            refine wpOp_step rfl fun K hK => ?_
            have hcc := hj.program (c1 := c1) (c2 := c2) (by omega) ch bl pg hne HS.out.1 HS.out.2 (HR.out _ _ hI.mem).1 (HR.out _ _ hI.mem).2
            simp [go_sem, Act.eval, q78, q80, q82, q84, q85, q86]
            refine hcc.mono ?_
            rintro e w2 ⟨⟨n, rfl⟩, h2⟩
            exact hK _ _ (hI.put (by omega) 9 (by omega) (v := .int .i64 n) ⟨n, rfl⟩ (hnx w2 h2))
          | 10, ho, hL, hpre =>
            clear hL
            cases ho
            have q1 : a'.tmps.getD 1 undef = .pointer (some ⟨pq, 0, none⟩) := hI.old 1 (by omega) (by omega)
            refine wpOp_step rfl fun K hK => ?_
            have hK' := hK _ _ (hI.put (by omega) 10 (by omega) (v := .pointer (some ⟨pq, 0, none⟩)) (rfl) (hI.mem.same 10))
            simpa [go_sem, Act.eval, q1] using hK'
          | 11, ho, hL, hpre =>
            clear hL
            cases ho
            have q5 : a'.tmps.getD 5 undef = .pointer (some ⟨w.heap.size, 0, none⟩) := hI.old 5 (by omega) (by omega)
            refine wpOp_step rfl fun K hK => ?_
            have hK' := hK _ _ (hI.put (by omega) 11 (by omega) (v := .pointer (some ⟨w.heap.size, 1, none⟩)) (rfl) (hI.mem.same 11))
            simpa [go_sem, Act.eval, q5] using hK'
          | 12, ho, hL, hpre =>
            clear hL
            cases ho
            have q89 : a'.tmps.getD 89 undef = .pointer (some ⟨w.heap.size, 1, none⟩) := hI.val 11 (by omega) (hpre ⟨11, .data⟩ (by simp) rfl)
            have hc : w'.cell? ⟨w.heap.size, 1, none⟩ = some (.int .i64 ch) := (HB.out _ _ hI.mem).1
            refine wpOp_step rfl fun K hK => ?_
            have hK' := hK _ _ (hI.put (by omega) 12 (by omega) (v := .int .i64 ch) (rfl) (hI.mem.same 12))
            simpa [go_sem, Act.eval, q89, hc] using hK'
          | 13, ho, hL, hpre =>
            clear hL
            cases ho
            have q5 : a'.tmps.getD 5 undef = .pointer (some ⟨w.heap.size, 0, none⟩) := hI.old 5 (by omega) (by omega)
            refine wpOp_step rfl fun K hK => ?_
            have hK' := hK _ _ (hI.put (by omega) 13 (by omega) (v := .pointer (some ⟨w.heap.size, 2, none⟩)) (rfl) (hI.mem.same 13))
            simpa [go_sem, Act.eval, q5] using hK'
          | 14, ho, hL, hpre =>
            clear hL
            cases ho
            have q91 : a'.tmps.getD 91 undef = .pointer (some ⟨w.heap.size, 2, none⟩) := hI.val 13 (by omega) (hpre ⟨13, .data⟩ (by simp) rfl)
            have hc : w'.cell? ⟨w.heap.size, 2, none⟩ = some (.int .i64 bl) := (HB.out _ _ hI.mem).2.1
            refine wpOp_step rfl fun K hK => ?_
            have hK' := hK _ _ (hI.put (by omega) 14 (by omega) (v := .int .i64 bl) (rfl) (hI.mem.same 14))
            simpa [go_sem, Act.eval, q91, hc] using hK'
          | 15, ho, hL, hpre =>
            clear hL
            cases ho
            have q5 : a'.tmps.getD 5 undef = .pointer (some ⟨w.heap.size, 0, none⟩) := hI.old 5 (by omega) (by omega)
            refine wpOp_step rfl fun K hK => ?_
            have hK' := hK _ _ (hI.put (by omega) 15 (by omega) (v := .pointer (some ⟨w.heap.size, 3, none⟩)) (rfl) (hI.mem.same 15))
            simpa [go_sem, Act.eval, q5] using hK'
          | 16, ho, hL, hpre =>
            clear hL
            cases ho
            have q93 : a'.tmps.getD 93 undef = .pointer (some ⟨w.heap.size, 3, none⟩) := hI.val 15 (by omega) (hpre ⟨15, .data⟩ (by simp) rfl)
            have hc : w'.cell? ⟨w.heap.size, 3, none⟩ = some (.int .i64 pg) := (HB.out _ _ hI.mem).2.2
            refine wpOp_step rfl fun K hK => ?_
            have hK' := hK _ _ (hI.put (by omega) 16 (by omega) (v := .int .i64 pg) (rfl) (hI.mem.same 16))
            simpa [go_sem, Act.eval, q93, hc] using hK'
          | 17, ho, hL, hpre =>
            clear hL
            cases ho
            have q12 : a'.tmps.getD 12 undef = .slice (some ⟨g, 0, none⟩) 256 c1 := hI.old 12 (by omega) (by omega)
            refine wpOp_step rfl fun K hK => ?_
            have hK' := hK _ _ (hI.put (by omega) 17 (by omega) (v := .slice (some ⟨g, 0, none⟩) 256 c1) (rfl) (hI.mem.same 17))
            simpa [go_sem, Act.eval, q12] using hK'
          | 18, ho, hL, hpre =>
            clear hL
            cases ho
            have q14 : a'.tmps.getD 14 undef = .slice (some ⟨g2, 0, none⟩) 64 c2 := hI.old 14 (by omega) (by omega)
            refine wpOp_step rfl fun K hK => ?_
            have hK' := hK _ _ (hI.put (by omega) 18 (by omega) (v := .slice (some ⟨g2, 0, none⟩) 64 c2) (rfl) (hI.mem.same 18))
            simpa [go_sem, Act.eval, q14] using hK'
          | 19, ho, hL, hpre =>
            cases ho
            have q88 : a'.tmps.getD 88 undef = .pointer (some ⟨pq, 0, none⟩) := hI.val 10 (by omega) (hpre ⟨10, .data⟩ (by simp) rfl)
            have q90 : a'.tmps.getD 90 undef = .int .i64 ch := hI.val 12 (by omega) (hpre ⟨12, .data⟩ (by simp) rfl)
            have q92 : a'.tmps.getD 92 undef = .int .i64 bl := hI.val 14 (by omega) (hpre ⟨14, .data⟩ (by simp) rfl)
            have q94 : a'.tmps.getD 94 undef = .int .i64 pg := hI.val 16 (by omega) (hpre ⟨16, .data⟩ (by simp) rfl)
            have q95 : a'.tmps.getD 95 undef = .slice (some ⟨g, 0, none⟩) 256 c1 := hI.val 17 (by omega) (hpre ⟨17, .data⟩ (by simp) rfl)
            have q96 : a'.tmps.getD 96 undef = .slice (some ⟨g2, 0, none⟩) 64 c2 := hI.val 18 (by omega) (hpre ⟨18, .data⟩ (by simp) rfl)
            obtain ⟨c, hj, hc2, hnx⟩ := hI.mem.begin (i := 19) (by omega) hL (by omega)
            refine wpOp_step rfl fun K hK => ?_
            have hcc := hj.qprogram (c1 := c1) (c2 := c2) (by omega) ch bl pg HS.out.1 HS.out.2 (HR.out _ _ hI.mem).1 (HR.out _ _ hI.mem).2 HC.out.1 HC.out.2
            simp [go_sem, Act.eval, q88, q90, q92, q94, q95, q96]
            refine hcc.mono ?_
            rintro e w2 ⟨⟨n, rfl⟩, h2⟩
            exact hK _ _ (hI.put (by omega) 19 (by omega) (v := .int .i64 n) ⟨n, rfl⟩ (hnx w2 h2))
          | 20, ho, hL, hpre =>
            clear hL
            cases ho
            obtain ⟨x1, q87⟩ : ∃ n : Int, a'.tmps.getD 87 undef = .int .i64 n := hI.val 9 (by omega) (hpre ⟨9, .data⟩ (by simp) rfl)
            obtain ⟨x2, q97⟩ : ∃ n : Int, a'.tmps.getD 97 undef = .int .i64 n := hI.val 19 (by omega) (hpre ⟨19, .data⟩ (by simp) rfl)
            refine wpOp_step rfl fun K hK => ?_
            have hK' := hK _ _ (hI.put (by omega) 20 (by omega) (v := .bool (x1 == x2)) (⟨_, rfl⟩) (hI.mem.same 20))
            simpa [go_sem, Act.eval, q87, q97] using hK'
          | 21, ho, hL, hpre =>
            clear hL
            cases ho
            obtain ⟨x1, q98⟩ : ∃ b, a'.tmps.getD 98 undef = .bool b := hI.val 20 (by omega) (hpre ⟨20, .data⟩ (by simp) rfl)
            refine wpOp_step rfl fun K hK => ?_
            have hK' := hK _ _ (hI.end (by omega) x1 (hI.mem.same 21))
            simpa [go_sem, Act.eval, q98] using hK'
          | i + 22, ho, hL, hpre => simp at ho
        case done =>
          intro Lp a' w' hI hL
          obtain ⟨b, hb⟩ := hI.last (hL 21 (by decide))
          obtain ⟨c, hj, hc, _⟩ := hI.mem
          have hd := hI.df
          have HJ := Lib.hid ((hj.mono (show k + c ≤ k + 4 by omega)).drop (fun x o q => HUP.out x o q HSD.out))
          clear hI hL hj hc HB
          go_wp2
          refine bodyPost_ret (v := .bool b) ?_ hd ⟨⟨b, rfl⟩, HJ.out⟩
          have hb' : a'.tmps[6]?.getD undef = .bool b := by simpa using hb
          simp [results, Try.results22, go_sem, hb']
      · have hc1 : 256 ≤ c1 := by obtain ⟨_, q1, _, _, q2, q3, _⟩ := own_block HOW.out.1 (by rw [HOW.out.2]; omega); exact q2
        have hc2 : 255 ≤ c1 := by omega
        go_wp2_with fail
        have HRW : Hid (Row (wr.alloc (.cells #[.int .u8 (dt : Int), .int .u8 7] 5)) (some ⟨wr.heap.size, 0, none⟩) 2 [dt, 7]) := Lib.hid (row_two wr dt 7 hdt (by omega))
        have hb2 : Below wr.heap.size wr (wr.alloc (.cells #[.int .u8 (dt : Int), .int .u8 7] 5)) := bel_alloc (Below.refl _ _) _
        refine (refPad_any _ 2 2 [dt, 7] _ HRW.out (by omega) (by unfold maxLen; omega) (fun q => by cases q) (by omega) 64 (by omega) (by omega)).mono ?_
        intro e w5 h5
        obtain ⟨sv5, rfl, ho5, hb5⟩ := h5
        have hpl : (padTo [dt, 7] 64).length = 64 := by simp [padTo]
        obtain ⟨g2, c2, rfl, hg2, hg3, hob5, hml5⟩ := ownB_of ho5 (by omega)
        rw [hpl] at hob5 ⊢
        obtain ⟨os, hos⟩ : ∃ os, padTo [dt, 7] 64 = os := ⟨_, rfl⟩
        rw [hos] at hob5
        have hbw := HBE.out.trans ((hb2.trans (hb5.mono hb2.size)).mono HBE.out.size)
        have hTAIL := tail_facts HW.out HBE.out (hb2.trans (hb5.mono hb2.size)) HOW.out hob5 HG0.out (Nat.le_trans hb2.size hg2) 255 (by omega)
        obtain ⟨sdx, ds, o1, o2, hjx, x1, x2, x3, hup, r1, r2, y1, y2⟩ := hTAIL
        have HX1 : Hid (sdx w.heap.size = some o) := Lib.hid x1
        have HS : Hid (sdx g = some o1 ∧ sdx g2 = some o2) := Lib.hid (And.intro x2 x3)
        have HC : Hid (255 ≤ c1 ∧ c1 ≤ maxLen) := Lib.hid (And.intro y1 y2)
        have HUP := Lib.hid hup
        have HJX := Lib.hid hjx
        have HB : Hid (∀ Lp w', TwoJ w0 pa pq k ci cj bs sdx 9 19 Lp w' → w'.cell? ⟨w.heap.size, 1, none⟩ = some (.int .i64 ch) ∧ w'.cell? ⟨w.heap.size, 2, none⟩ = some (.int .i64 bl) ∧ w'.cell? ⟨w.heap.size, 3, none⟩ = some (.int .i64 pg)) := Lib.hid fun Lp w' h2 => by
          obtain ⟨c, hj, _⟩ := h2
          have h3 := (hj.at HX1.out).1
          rw [HO.out] at h3
          obtain ⟨k0, k1, k2, k3, k4, k5⟩ := six_cells h3
          exact ⟨k1, k2, k3⟩
        have HR : Hid (∀ Lp w', TwoJ w0 pa pq k ci cj bs sdx 9 19 Lp w' → Row w' (some ⟨g, 0, none⟩) 255 ds ∧ Row w' (some ⟨g2, 0, none⟩) 64 os) := Lib.hid fun Lp w' h2 => by
          obtain ⟨c, hj, _⟩ := h2
          exact ⟨row_same r1 (fun _ x hx => by cases hx; exact (hj.at HS.out.1).1.trans (HJX.out.at HS.out.1).1.symm), row_same r2 (fun _ x hx => by cases hx; exact (hj.at HS.out.2).1.trans (HJX.out.at HS.out.2).1.symm)⟩
        clear hbw hpl ho5 hg2 hg3 hml5 hob5 hos hjx x1 x2 x3 hup r1 r2 y1 y2 hb5 hb2 HRW m0 m1 m2 m3 m4 m5 lb hkk HJ HW HB1 HOB HOW HBE
        go_wp2_with fail
        refine wp_region_inv0 (fun a0 => DI 78 21 (E15 pa pq w.heap.size ch bl pg g 255 c1 g2 c2) (TwoJ w0 pa pq k ci cj bs sdx 9 19) a0) (by kernel_rfl) (by kernel_rfl) ?start ?step ?done
        case start =>
          exact ⟨rfl, rfl, fun _ _ _ => rfl, ⟨0, HJX.out.below ((Below.refl _ _).drew), by omega, fun _ => by omega, fun _ => by omega, fun _ _ => rfl⟩, fun _ _ q => q.elim, fun q => q.elim⟩
        case step =>
          intro Lp a' w' i o' hI ho hL hpre
          match i, ho, hL, hpre with
          | 0, ho, hL, hpre =>
            clear hL
            cases ho
            have q0 : a'.tmps.getD 0 undef = .pointer (some ⟨pa, 0, none⟩) := hI.old 0 (by omega) (by omega)
            refine wpOp_step rfl fun K hK => ?_
            have hK' := hK _ _ (hI.put (by omega) 0 (by omega) (v := .pointer (some ⟨pa, 0, none⟩)) (rfl) (hI.mem.same 0))
            simpa [go_sem, Act.eval, q0] using hK'
          | 1, ho, hL, hpre =>
            clear hL
            cases ho
            have q5 : a'.tmps.getD 5 undef = .pointer (some ⟨w.heap.size, 0, none⟩) := hI.old 5 (by omega) (by omega)
            refine wpOp_step rfl fun K hK => ?_
            have hK' := hK _ _ (hI.put (by omega) 1 (by omega) (v := .pointer (some ⟨w.heap.size, 1, none⟩)) (rfl) (hI.mem.same 1))
            simpa [go_sem, Act.eval, q5] using hK'
          | 2, ho, hL, hpre =>
            clear hL
            cases ho
            have q79 : a'.tmps.getD 79 undef = .pointer (some ⟨w.heap.size, 1, none⟩) := hI.val 1 (by omega) (hpre ⟨1, .data⟩ (by simp) rfl)
            have hc : w'.cell? ⟨w.heap.size, 1, none⟩ = some (.int .i64 ch) := (HB.out _ _ hI.mem).1
            refine wpOp_step rfl fun K hK => ?_
            have hK' := hK _ _ (hI.put (by omega) 2 (by omega) (v := .int .i64 ch) (rfl) (hI.mem.same 2))
            simpa [go_sem, Act.eval, q79, hc] using hK'
          | 3, ho, hL, hpre =>
            clear hL
            cases ho
            have q5 : a'.tmps.getD 5 undef = .pointer (some ⟨w.heap.size, 0, none⟩) := hI.old 5 (by omega) (by omega)
            refine wpOp_step rfl fun K hK => ?_
            have hK' := hK _ _ (hI.put (by omega) 3 (by omega) (v := .pointer (some ⟨w.heap.size, 2, none⟩)) (rfl) (hI.mem.same 3))
            simpa [go_sem, Act.eval, q5] using hK'
          | 4, ho, hL, hpre =>
            clear hL
            cases ho
            have q81 : a'.tmps.getD 81 undef = .pointer (some ⟨w.heap.size, 2, none⟩) := hI.val 3 (by omega) (hpre ⟨3, .data⟩ (by simp) rfl)
            have hc : w'.cell? ⟨w.heap.size, 2, none⟩ = some (.int .i64 bl) := (HB.out _ _ hI.mem).2.1
            refine wpOp_step rfl fun K hK => ?_
            have hK' := hK _ _ (hI.put (by omega) 4 (by omega) (v := .int .i64 bl) (rfl) (hI.mem.same 4))
            simpa [go_sem, Act.eval, q81, hc] using hK'
          | 5, ho, hL, hpre =>
            clear hL
            cases ho
            have q5 : a'.tmps.getD 5 undef = .pointer (some ⟨w.heap.size, 0, none⟩) := hI.old 5 (by omega) (by omega)
            refine wpOp_step rfl fun K hK => ?_
            have hK' := hK _ _ (hI.put (by omega) 5 (by omega) (v := .pointer (some ⟨w.heap.size, 3, none⟩)) (rfl) (hI.mem.same 5))
            simpa [go_sem, Act.eval, q5] using hK'
          | 6, ho, hL, hpre =>
            clear hL
            cases ho
            have q83 : a'.tmps.getD 83 undef = .pointer (some ⟨w.heap.size, 3, none⟩) := hI.val 5 (by omega) (hpre ⟨5, .data⟩ (by simp) rfl)
            have hc : w'.cell? ⟨w.heap.size, 3, none⟩ = some (.int .i64 pg) := (HB.out _ _ hI.mem).2.2
            refine wpOp_step rfl fun K hK => ?_
            have hK' := hK _ _ (hI.put (by omega) 6 (by omega) (v := .int .i64 pg) (rfl) (hI.mem.same 6))
            simpa [go_sem, Act.eval, q83, hc] using hK'
          | 7, ho, hL, hpre =>
            clear hL
            cases ho
            have q12 : a'.tmps.getD 12 undef = .slice (some ⟨g, 0, none⟩) 255 c1 := hI.old 12 (by omega) (by omega)
            refine wpOp_step rfl fun K hK => ?_
            have hK' := hK _ _ (hI.put (by omega) 7 (by omega) (v := .slice (some ⟨g, 0, none⟩) 255 c1) (rfl) (hI.mem.same 7))
            simpa [go_sem, Act.eval, q12] using hK'
          | 8, ho, hL, hpre =>
            clear hL
            cases ho
            have q14 : a'.tmps.getD 14 undef = .slice (some ⟨g2, 0, none⟩) 64 c2 := hI.old 14 (by omega) (by omega)
            refine wpOp_step rfl fun K hK => ?_
            have hK' := hK _ _ (hI.put (by omega) 8 (by omega) (v := .slice (some ⟨g2, 0, none⟩) 64 c2) (rfl) (hI.mem.same 8))
            simpa [go_sem, Act.eval, q14] using hK'
          | 9, ho, hL, hpre =>
            cases ho
            have q78 : a'.tmps.getD 78 undef = .pointer (some ⟨pa, 0, none⟩) := hI.val 0 (by omega) (hpre ⟨0, .data⟩ (by simp) rfl)
            have q80 : a'.tmps.getD 80 undef = .int .i64 ch := hI.val 2 (by omega) (hpre ⟨2, .data⟩ (by simp) rfl)
            have q82 : a'.tmps.getD 82 undef = .int .i64 bl := hI.val 4 (by omega) (hpre ⟨4, .data⟩ (by simp) rfl)
            have q84 : a'.tmps.getD 84 undef = .int .i64 pg := hI.val 6 (by omega) (hpre ⟨6, .data⟩ (by simp) rfl)
            have q85 : a'.tmps.getD 85 undef = .slice (some ⟨g, 0, none⟩) 255 c1 := hI.val 7 (by omega) (hpre ⟨7, .data⟩ (by simp) rfl)
            have q86 : a'.tmps.getD 86 undef = .slice (some ⟨g2, 0, none⟩) 64 c2 := hI.val 8 (by omega) (hpre ⟨8, .data⟩ (by simp) rfl)
            obtain ⟨c, hj, hc2, hnx⟩ := hI.mem.begin (i := 9) (by omega) hL (by omega)
            refine wpOp_step rfl fun K hK => ?_
            have hcc := hj.program (c1 := c1) (c2 := c2) (by omega) ch bl pg hne HS.out.1 HS.out.2 (HR.out _ _ hI.mem).1 (HR.out _ _ hI.mem).2
            simp [go_sem, Act.eval, q78, q80, q82, q84, q85, q86]
            refine hcc.mono ?_
            rintro e w2 ⟨⟨n, rfl⟩, h2⟩
            exact hK _ _ (hI.put (by omega) 9 (by omega) (v := .int .i64 n) ⟨n, rfl⟩ (hnx w2 h2))
          | 10, ho, hL, hpre =>
            clear hL
            cases ho
            have q1 : a'.tmps.getD 1 undef = .pointer (some ⟨pq, 0, none⟩) := hI.old 1 (by omega) (by omega)
            refine wpOp_step rfl fun K hK => ?_
            have hK' := hK _ _ (hI.put (by omega) 10 (by omega) (v := .pointer (some ⟨pq, 0, none⟩)) (rfl) (hI.mem.same 10))
            simpa [go_sem, Act.eval, q1] using hK'
          | 11, ho, hL, hpre =>
            clear hL
            cases ho
            have q5 : a'.tmps.getD 5 undef = .pointer (some ⟨w.heap.size, 0, none⟩) := hI.old 5 (by omega) (by omega)
            refine wpOp_step rfl fun K hK => ?_
            have hK' := hK _ _ (hI.put (by omega) 11 (by omega) (v := .pointer (some ⟨w.heap.size, 1, none⟩)) (rfl) (hI.mem.same 11))
            simpa [go_sem, Act.eval, q5] using hK'
          | 12, ho, hL, hpre =>
            clear hL
            cases ho
            have q89 : a'.tmps.getD 89 undef = .pointer (some ⟨w.heap.size, 1, none⟩) := hI.val 11 (by omega) (hpre ⟨11, .data⟩ (by simp) rfl)
            have hc : w'.cell? ⟨w.heap.size, 1, none⟩ = some (.int .i64 ch) := (HB.out _ _ hI.mem).1
            refine wpOp_step rfl fun K hK => ?_
            have hK' := hK _ _ (hI.put (by omega) 12 (by omega) (v := .int .i64 ch) (rfl) (hI.mem.same 12))
            simpa [go_sem, Act.eval, q89, hc] using hK'
          | 13, ho, hL, hpre =>
            clear hL
            cases ho
            have q5 : a'.tmps.getD 5 undef = .pointer (some ⟨w.heap.size, 0, none⟩) := hI.old 5 (by omega) (by omega)
            refine wpOp_step rfl fun K hK => ?_
            have hK' := hK _ _ (hI.put (by omega) 13 (by omega) (v := .pointer (some ⟨w.heap.size, 2, none⟩)) (rfl) (hI.mem.same 13))
            simpa [go_sem, Act.eval, q5] using hK'
          | 14, ho, hL, hpre =>
            clear hL
            cases ho
            have q91 : a'.tmps.getD 91 undef = .pointer (some ⟨w.heap.size, 2, none⟩) := hI.val 13 (by omega) (hpre ⟨13, .data⟩ (by simp) rfl)
            have hc : w'.cell? ⟨w.heap.size, 2, none⟩ = some (.int .i64 bl) := (HB.out _ _ hI.mem).2.1
            refine wpOp_step rfl fun K hK => ?_
            have hK' := hK _ _ (hI.put (by omega) 14 (by omega) (v := .int .i64 bl) (rfl) (hI.mem.same 14))
            simpa [go_sem, Act.eval, q91, hc] using hK'
          | 15, ho, hL, hpre =>
            clear hL
            cases ho
            have q5 : a'.tmps.getD 5 undef = .pointer (some ⟨w.heap.size, 0, none⟩) := hI.old 5 (by omega) (by omega)
            refine wpOp_step rfl fun K hK => ?_
            have hK' := hK _ _ (hI.put (by omega) 15 (by omega) (v := .pointer (some ⟨w.heap.size, 3, none⟩)) (rfl) (hI.mem.same 15))
            simpa [go_sem, Act.eval, q5] using hK'
          | 16, ho, hL, hpre =>
            clear hL
            cases ho
            have q93 : a'.tmps.getD 93 undef = .pointer (some ⟨w.heap.size, 3, none⟩) := hI.val 15 (by omega) (hpre ⟨15, .data⟩ (by simp) rfl)
            have hc : w'.cell? ⟨w.heap.size, 3, none⟩ = some (.int .i64 pg) := (HB.out _ _ hI.mem).2.2
            refine wpOp_step rfl fun K hK => ?_
            have hK' := hK _ _ (hI.put (by omega) 16 (by omega) (v := .int .i64 pg) (rfl) (hI.mem.same 16))
            simpa [go_sem, Act.eval, q93, hc] using hK'
          | 17, ho, hL, hpre =>
            clear hL
            cases ho
            have q12 : a'.tmps.getD 12 undef = .slice (some ⟨g, 0, none⟩) 255 c1 := hI.old 12 (by omega) (by omega)
            refine wpOp_step rfl fun K hK => ?_
            have hK' := hK _ _ (hI.put (by omega) 17 (by omega) (v := .slice (some ⟨g, 0, none⟩) 255 c1) (rfl) (hI.mem.same 17))
            simpa [go_sem, Act.eval, q12] using hK'
          | 18, ho, hL, hpre =>
            clear hL
            cases ho
            have q14 : a'.tmps.getD 14 undef = .slice (some ⟨g2, 0, none⟩) 64 c2 := hI.old 14 (by omega) (by omega)
            refine wpOp_step rfl fun K hK => ?_
            have hK' := hK _ _ (hI.put (by omega) 18 (by omega) (v := .slice (some ⟨g2, 0, none⟩) 64 c2) (rfl) (hI.mem.same 18))
            simpa [go_sem, Act.eval, q14] using hK'
          | 19, ho, hL, hpre =>
            cases ho
            have q88 : a'.tmps.getD 88 undef = .pointer (some ⟨pq, 0, none⟩) := hI.val 10 (by omega) (hpre ⟨10, .data⟩ (by simp) rfl)
            have q90 : a'.tmps.getD 90 undef = .int .i64 ch := hI.val 12 (by omega) (hpre ⟨12, .data⟩ (by simp) rfl)
            have q92 : a'.tmps.getD 92 undef = .int .i64 bl := hI.val 14 (by omega) (hpre ⟨14, .data⟩ (by simp) rfl)
            have q94 : a'.tmps.getD 94 undef = .int .i64 pg := hI.val 16 (by omega) (hpre ⟨16, .data⟩ (by simp) rfl)
            have q95 : a'.tmps.getD 95 undef = .slice (some ⟨g, 0, none⟩) 255 c1 := hI.val 17 (by omega) (hpre ⟨17, .data⟩ (by simp) rfl)
            have q96 : a'.tmps.getD 96 undef = .slice (some ⟨g2, 0, none⟩) 64 c2 := hI.val 18 (by omega) (hpre ⟨18, .data⟩ (by simp) rfl)
            obtain ⟨c, hj, hc2, hnx⟩ := hI.mem.begin (i := 19) (by omega) hL (by omega)
            refine wpOp_step rfl fun K hK => ?_
            have hcc := hj.qprogram (c1 := c1) (c2 := c2) (by omega) ch bl pg HS.out.1 HS.out.2 (HR.out _ _ hI.mem).1 (HR.out _ _ hI.mem).2 HC.out.1 HC.out.2
            simp [go_sem, Act.eval, q88, q90, q92, q94, q95, q96]
            refine hcc.mono ?_
            rintro e w2 ⟨⟨n, rfl⟩, h2⟩
            exact hK _ _ (hI.put (by omega) 19 (by omega) (v := .int .i64 n) ⟨n, rfl⟩ (hnx w2 h2))
          | 20, ho, hL, hpre =>
            clear hL
            cases ho
            obtain ⟨x1, q87⟩ : ∃ n : Int, a'.tmps.getD 87 undef = .int .i64 n := hI.val 9 (by omega) (hpre ⟨9, .data⟩ (by simp) rfl)
            obtain ⟨x2, q97⟩ : ∃ n : Int, a'.tmps.getD 97 undef = .int .i64 n := hI.val 19 (by omega) (hpre ⟨19, .data⟩ (by simp) rfl)
            refine wpOp_step rfl fun K hK => ?_
            have hK' := hK _ _ (hI.put (by omega) 20 (by omega) (v := .bool (x1 == x2)) (⟨_, rfl⟩) (hI.mem.same 20))
            simpa [go_sem, Act.eval, q87, q97] using hK'
          | 21, ho, hL, hpre =>
            clear hL
            cases ho
            obtain ⟨x1, q98⟩ : ∃ b, a'.tmps.getD 98 undef = .bool b := hI.val 20 (by omega) (hpre ⟨20, .data⟩ (by simp) rfl)
            refine wpOp_step rfl fun K hK => ?_
            have hK' := hK _ _ (hI.end (by omega) x1 (hI.mem.same 21))
            simpa [go_sem, Act.eval, q98] using hK'
          | i + 22, ho, hL, hpre => simp at ho
        case done =>
          intro Lp a' w' hI hL
          obtain ⟨b, hb⟩ := hI.last (hL 21 (by decide))
          obtain ⟨c, hj, hc, _⟩ := hI.mem
          have hd := hI.df
          have HJ := Lib.hid ((hj.mono (show k + c ≤ k + 4 by omega)).drop (fun x o q => HUP.out x o q HSD.out))
          clear hI hL hj hc HB
          go_wp2
          refine bodyPost_ret (v := .bool b) ?_ hd ⟨⟨b, rfl⟩, HJ.out⟩
          have hb' : a'.tmps[6]?.getD undef = .bool b := by simpa using hb
          simp [results, Try.results22, go_sem, hb']
end
end Go.Proofs.Ytbfmpcomjmcfjaa
