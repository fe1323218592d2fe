/- Parts of the proof: PtSpoilt, PtSpoiltIn. -/
import Derived.Test.YthgcjiocelcblaaGreatL01
import Derived.Test.YthgcjiocelcblaaGreatK45
import Derived.Test.YthgcjiocelcblaaGreatK44
namespace Go.Proofs.YthgcjiocelcblaaGreat
open Go.RowKit Go.Deep

section
variable {sq ba mn mc en ec tq ta nn nc fn fc cn cc : Nat} {ma ea na fa ca : Option Addr} {ml el nl fl cl : List Nat} {w : World}
theorem ptU_eq (x : Int) (n : Nat) (h0 : 1 ≤ n) (h1 : n ≤ 1000) : ∃ m : Nat, IntKind.i64.wrap ((IntKind.u64.wrap x).tmod (n : Int)) = (m : Int) ∧ m < n := by
  have h2 : 0 ≤ IntKind.u64.wrap x := by rw [IntKind.wrap_u64]; omega
  have h3 : 0 ≤ (IntKind.u64.wrap x).tmod (n : Int) := Int.tmod_nonneg _ h2
  have h4 : (IntKind.u64.wrap x).tmod (n : Int) < (n : Int) := Int.tmod_lt_of_pos _ (by omega)
  obtain ⟨m, hm⟩ : ∃ m : Nat, (IntKind.u64.wrap x).tmod (n : Int) = (m : Int) := ⟨((IntKind.u64.wrap x).tmod (n : Int)).toNat, by omega⟩
  rw [hm] at h3 h4 ⊢
  exact ⟨m, wrap_of (by omega) (by omega), by omega⟩
theorem fold_spoilt (ba t : Nat) (ml el : List Nat) (tt : PtD) : PtD.foldT (fun i => if i = 0 then setX (setX (fun _ => PtD.zero) 0 ⟨true, 4, ba, ml, el, 4⟩) 1 tt 0 else ⟨false, 0, 0, [], [], t⟩) 2 = ⟨true, 4, ba, ml, el, max 4 t⟩ := by
  simp [PtD.foldT, setX, PtD.stepT, PtD.zero]
/-- The two boxes that the law begins with. -/
def SpBox (W : World) (pa pb : Nat) (u0 u1 u2 u3 v0 v1 v2 v3 : Value) (x : World) : Prop :=
  TwoAt pa pb u0 u1 u2 u3 v0 v1 v2 v3 x ∧ Below W.heap.size W x ∧ W.heap.size ≤ pa ∧ W.heap.size ≤ pb ∧ pa ≠ pb
theorem spBox_ab {W : World} {u0 u1 u2 u3 v0 v1 v2 v3 : Value} : SpBox W W.heap.size (W.heap.size + 1) u0 u1 u2 u3 v0 v1 v2 v3 (((W.alloc (.cells #[u0, u1, u2, u3] 25)).alloc (.cells #[v0, v1, v2, v3] 25)).drew) := by
  have h1 := heap_alloc_new W (.cells #[u0, u1, u2, u3] 25)
  have h2 := heap_alloc_new (W.alloc (.cells #[u0, u1, u2, u3] 25)) (.cells #[v0, v1, v2, v3] 25)
  rw [World.size_alloc] at h2
  refine ⟨⟨?_, ?_⟩, (bel_alloc (bel_alloc (Below.refl _ _) _) _).drew, Nat.le_refl _, Nat.le_succ _, by omega⟩
  · simp only [heap_drew]
    exact (heap_alloc_old' (by simp) _).trans h1
  · simp only [heap_drew]
    exact h2
theorem spBox_ba {W : World} {u0 u1 u2 u3 v0 v1 v2 v3 : Value} : SpBox W (W.heap.size + 1) W.heap.size u0 u1 u2 u3 v0 v1 v2 v3 (((W.alloc (.cells #[v0, v1, v2, v3] 25)).alloc (.cells #[u0, u1, u2, u3] 25)).drew) := by
  obtain ⟨⟨h1, h2⟩, h3, h4, h5, h6⟩ := spBox_ab (W := W) (u0 := v0) (u1 := v1) (u2 := v2) (u3 := v3) (v0 := u0) (v1 := u1) (v2 := u2) (v3 := u3)
  exact ⟨⟨h2, h1⟩, h3, h5, h4, fun e => h6 e.symm⟩
set_option maxRecDepth 100000 in
set_option maxHeartbeats 4000000 in
theorem pointSpoilt_any (ch z : Int) (hpa : PT.Ok ⟨sq, ba, ma, mn, mc, ml, ea, en, ec, el⟩ w) (hpc : PT.Ok ⟨tq, ta, na, nn, nc, nl, fa, fn, fc, fl⟩ w) (hcr : Row w ca cn cl) (hcc : ca = none → cc = 0) :
    Calls Tryz.prog 6 #[.agg #[.int .i64 ch, .int .u32 (sq : Int), .int .u32 (ba : Int), .slice ma mn mc, .slice ea en ec, .int .u32 (tq : Int), .int .u32 (ta : Int), .slice na nn nc, .slice fa fn fc, .int .i64 z, .slice ca cn cc]] w fun e w' => e = .returned (.bool true) ∧ Below w.heap.size w w' := by
  obtain ⟨W, hW⟩ : ∃ x, x = w.alloc (.cells #[.int .i64 ch, .int .u32 (sq : Int), .int .u32 (ba : Int), .slice ma mn mc, .slice ea en ec, .int .u32 (tq : Int), .int .u32 (ta : Int), .slice na nn nc, .slice fa fn fc, .int .i64 z, .slice ca cn cc] 64) := ⟨_, rfl⟩
  obtain ⟨g, hg⟩ : ∃ x, x = w.heap.size := ⟨_, rfl⟩
  have hB : Below w.heap.size w W := by rw [hW]; exact bel_alloc (Below.refl _ _) _
  have hh : W.heap[g]? = some (.cells #[.int .i64 ch, .int .u32 (sq : Int), .int .u32 (ba : Int), .slice ma mn mc, .slice ea en ec, .int .u32 (tq : Int), .int .u32 (ta : Int), .slice na nn nc, .slice fa fn fc, .int .i64 z, .slice ca cn cc] 64 (0, 0)) := by rw [hW, hg]; exact heap_alloc_new _ _
  have cc0 : W.cell? ⟨g, 0, none⟩ = some (.int .i64 ch) ∧ W.cell? ⟨g, 1, none⟩ = some (.int .u32 (sq : Int)) ∧ W.cell? ⟨g, 2, none⟩ = some (.int .u32 (ba : Int)) ∧ W.cell? ⟨g, 3, none⟩ = some (.slice ma mn mc) ∧ W.cell? ⟨g, 4, none⟩ = some (.slice ea en ec) ∧ W.cell? ⟨g, 5, none⟩ = some (.int .u32 (tq : Int)) ∧ W.cell? ⟨g, 6, none⟩ = some (.int .u32 (ta : Int)) ∧ W.cell? ⟨g, 7, none⟩ = some (.slice na nn nc) ∧ W.cell? ⟨g, 8, none⟩ = some (.slice fa fn fc) ∧ W.cell? ⟨g, 9, none⟩ = some (.int .i64 z) ∧ W.cell? ⟨g, 10, none⟩ = some (.slice ca cn cc) := by
    refine ⟨?_, ?_, ?_, ?_, ?_, ?_, ?_, ?_, ?_, ?_, ?_⟩ <;> simp [World.cell?, hh]
  have hcc0 : ∀ x, Below W.heap.size W x → x.cell? ⟨g, 0, none⟩ = some (.int .i64 ch) ∧ x.cell? ⟨g, 1, none⟩ = some (.int .u32 (sq : Int)) ∧ x.cell? ⟨g, 2, none⟩ = some (.int .u32 (ba : Int)) ∧ x.cell? ⟨g, 3, none⟩ = some (.slice ma mn mc) ∧ x.cell? ⟨g, 4, none⟩ = some (.slice ea en ec) ∧ x.cell? ⟨g, 5, none⟩ = some (.int .u32 (tq : Int)) ∧ x.cell? ⟨g, 6, none⟩ = some (.int .u32 (ta : Int)) ∧ x.cell? ⟨g, 7, none⟩ = some (.slice na nn nc) ∧ x.cell? ⟨g, 8, none⟩ = some (.slice fa fn fc) ∧ x.cell? ⟨g, 9, none⟩ = some (.int .i64 z) ∧ x.cell? ⟨g, 10, none⟩ = some (.slice ca cn cc) := fun x hb => by
    have hx := (hb.block g (Array.getElem?_eq_some_iff.1 hh).1).trans hh
    refine ⟨?_, ?_, ?_, ?_, ?_, ?_, ?_, ?_, ?_, ?_, ?_⟩ <;> simp [World.cell?, hx]
  have HBW := Lib.hid (And.intro hB (And.intro hg (Nat.le_of_eq hg)))
  have HWR := Lib.hid written_any
  have HPA : Hid (∀ x : World, Below w.heap.size w x → PT.Ok ⟨4, ba, ma, mn, mc, ml, ea, en, ec, el⟩ x) := Lib.hid fun x hx => ⟨(show (4 : Nat) < 4294967296 by decide), hpa.ba_, (hpa.step hx).ml_, (hpa.step hx).el_⟩
  have HPC : Hid (∀ x : World, Below w.heap.size w x → PT.Ok ⟨5, ta, na, nn, nc, nl, fa, fn, fc, fl⟩ x) := Lib.hid fun x hx => ⟨(show (5 : Nat) < 4294967296 by decide), hpc.ba_, (hpc.step hx).ml_, (hpc.step hx).el_⟩
  have HCR : Hid (∀ x : World, Below w.heap.size w x → Row x ca cn cl) := Lib.hid fun x hx => row_stp hcr hx
  have HCC := Lib.hid hcc
  clear hpa hpc hcr hcc hh hB
  go_enter Tryz.func6, Tryz.ntmps6
  go_upto_region 1 with fail
  rw [← hW, ← hg]
  clear hW hg
  refine Code.wp_mono (Q := fun e a' w' => e = Exit.normal ∧ ∃ pa pb, a' = ⟨#[.agg #[.int .i64 ch, .int .u32 (sq : Int), .int .u32 (ba : Int), .slice ma mn mc, .slice ea en ec, .int .u32 (tq : Int), .int .u32 (ta : Int), .slice na nn nc, .slice fa fn fc, .int .i64 z, .slice ca cn cc], .pointer (some ⟨g, 0, none⟩), .bool false, .int .i64 ch, .pointer (some ⟨pa, 0, none⟩), .pointer (some ⟨pb, 0, none⟩), .int .i64 z, .slice ca cn cc, undef, undef, undef, undef, undef, undef, undef, undef, undef, undef, .pointer (some ⟨g, 0, none⟩), .int .i64 ch, .pointer (some ⟨g, 1, none⟩), .agg #[.int .u32 (sq : Int), .int .u32 (ba : Int), .slice ma mn mc, .slice ea en ec], .pointer (some ⟨g, 5, none⟩), .agg #[.int .u32 (tq : Int), .int .u32 (ta : Int), .slice na nn nc, .slice fa fn fc], .pointer (some ⟨g, 9, none⟩), .int .i64 z, .pointer (some ⟨g, 10, none⟩), .slice ca cn cc, undef, undef, undef, undef, undef, undef, undef, undef, undef, undef, undef, undef, undef, undef, undef, undef, undef, undef, undef, undef, undef, undef, undef, undef, undef, undef, undef, undef, undef, undef, undef, undef, undef, undef, undef, undef, undef, undef, undef, undef, undef, undef, undef, undef, undef, undef, undef, undef, undef, undef, undef, undef, undef, undef, undef, undef, undef, undef, undef, undef, undef, undef, undef, undef, undef, undef, undef, undef, undef, undef, undef, undef, undef, undef, undef, undef, undef, undef, undef, undef, undef, undef, undef, undef, undef, undef, undef, undef, undef, undef, undef, undef, undef, undef, undef, undef, undef, undef, undef, undef, undef, undef, undef, undef, undef, undef, undef, undef, undef, undef, undef, undef, undef, undef, undef, undef, undef, undef, undef, undef, undef, undef, undef, undef, undef, undef, undef, undef, undef, undef, undef, undef, undef], []⟩ ∧ SpBox W pa pb (.int .u32 (sq : Int)) (.int .u32 (ba : Int)) (.slice ma mn mc) (.slice ea en ec) (.int .u32 (tq : Int)) (.int .u32 (ta : Int)) (.slice na nn nc) (.slice fa fn fc) w') ?_ ?_
  case refine_2 =>
    have hgW := (World.block_lt_of_cell? W ⟨g, 0, none⟩ cc0.1)
    go_region_held3 (fun x => x.cell? ⟨g, 0, none⟩ = some (.int .i64 ch) ∧ x.cell? ⟨g, 1, none⟩ = some (.int .u32 (sq : Int)) ∧ x.cell? ⟨g, 2, none⟩ = some (.int .u32 (ba : Int)) ∧ x.cell? ⟨g, 3, none⟩ = some (.slice ma mn mc) ∧ x.cell? ⟨g, 4, none⟩ = some (.slice ea en ec) ∧ x.cell? ⟨g, 5, none⟩ = some (.int .u32 (tq : Int)) ∧ x.cell? ⟨g, 6, none⟩ = some (.int .u32 (ta : Int)) ∧ x.cell? ⟨g, 7, none⟩ = some (.slice na nn nc) ∧ x.cell? ⟨g, 8, none⟩ = some (.slice fa fn fc) ∧ x.cell? ⟨g, 9, none⟩ = some (.int .i64 z) ∧ x.cell? ⟨g, 10, none⟩ = some (.slice ca cn cc))
      (first | exact cc0 | (refine hcc0 _ ?_; repeat (first | exact Below.refl _ _ | refine Below.drew ?_ | refine bel_alloc ?_ _ | refine Below.setCell ?_ (by dsimp only; omega) _))) (fail)
    all_goals
      refine ⟨rfl, _, _, rfl, ?_⟩
      first
        | exact spBox_ab
        | exact spBox_ba
  case refine_1 =>
    rintro _ _ wv ⟨rfl, pa, pb, rfl, hT⟩
    simp only [Exit.then]
    have HT := Lib.hid hT
    clear hT cc0 hcc0
    have HX0 : Hid (∀ x : World, Below wv.heap.size wv x → TwoAt pa pb (.int .u32 (sq : Int)) (.int .u32 (ba : Int)) (.slice ma mn mc) (.slice ea en ec) (.int .u32 (tq : Int)) (.int .u32 (ta : Int)) (.slice na nn nc) (.slice fa fn fc) x ∧ Below w.heap.size w x) := Lib.hid fun x hx => ⟨HT.out.1.step (Array.getElem?_eq_some_iff.1 HT.out.1.1).1 (Array.getElem?_eq_some_iff.1 HT.out.1.2).1 hx, HBW.out.1.trans ((HT.out.2.1.trans (hx.mono HT.out.2.1.size)).mono HBW.out.1.size)⟩
    by_cases hl : mn ≤ 200 ∧ en ≤ 20 ∧ nn ≤ 200 ∧ fn ≤ 20 ∧ 1 ≤ cn ∧ cn ≤ 300
    · obtain ⟨l1, l2, l3, l4, l5, l6⟩ := hl
      have d1 : decide ((200 : Int) < (mn : Int)) = false := by simp; omega
      have d2 : decide ((20 : Int) < (en : Int)) = false := by simp; omega
      have d3 : decide ((200 : Int) < (nn : Int)) = false := by simp; omega
      have d4 : decide ((20 : Int) < (fn : Int)) = false := by simp; omega
      have d5 : decide ((cn : Int) < 1) = false := by simp; omega
      have d6 : decide ((300 : Int) < (cn : Int)) = false := by simp; omega
      have HN := Lib.hid (And.intro l1 (And.intro l2 (And.intro l3 (And.intro l4 (And.intro l5 l6)))))
      clear l1 l2 l3 l4 l5 l6
      go_wp2_with fail
      ((with_reducible refine (HWR.out _).mono ?_))
      rintro e w1 ⟨rfl, hb1⟩
      obtain ⟨ht1, hb1'⟩ := HX0.out w1 hb1
      have HB1 := Lib.hid hb1
      obtain ⟨⟨z0, z1, z2, z3⟩, -⟩ := pt_four' ht1.1
      obtain ⟨⟨y0, y1, y2, y3⟩, -⟩ := pt_four' ht1.2
      clear hb1 ht1 hb1'
      go_wp2_with fail
      ((with_reducible refine (ptShape_any ch w1).mono ?_))
      rintro e w2 ⟨rfl, hb2⟩
      have hn35 := ptG_in ch
      obtain ⟨n, hn⟩ : ∃ n, n = ptG ch := ⟨_, rfl⟩
      rw [← hn] at hn35 ⊢
      have HN5 : Hid (3 ≤ n ∧ n ≤ 5) := Lib.hid ⟨hn35.1, hn35.2.1⟩
      have HB2 := Lib.hid (bel_trans HB1.out hb2)
      obtain ⟨w3, hw3⟩ : ∃ x, x = w2.alloc (.cells #[.int .i64 (n : Int), .int .i64 20, .int .i64 6, .int .i64 256] 49) := ⟨_, rfl⟩
      obtain ⟨gb, hgb⟩ : ∃ x, x = w2.heap.size := ⟨_, rfl⟩
      have hb3 : Below w2.heap.size w2 w3 := by rw [hw3]; exact bel_alloc (Below.refl _ _) _
      have hg3 : w3.heap[gb]? = some (.cells #[.int .i64 (n : Int), .int .i64 20, .int .i64 6, .int .i64 256] 49 (0, 0)) := by rw [hw3, hgb]; exact heap_alloc_new _ _
      have HNEW : Hid (Calls Tryz.prog 20 #[.agg #[.int .i64 (n : Int), .int .i64 20, .int .i64 6, .int .i64 256]] w3 (NewRet n 20 6 256 w3)) := Lib.hid (ramNew_any n 20 6 256 w3 (ptGood n HN5.out))
      have HB3 := Lib.hid (And.intro (bel_trans HB2.out hb3) (And.intro hg3 (show wv.heap.size ≤ gb by rw [hgb]; exact HB2.out.size)))
      obtain ⟨g0, g1, g2, g3⟩ := four_at hg3
      clear hb2 hn35 hn z0 z1 z2 z3 y0 y1 y2 y3 hb3 hg3 d1 d2 d3 d4 d5 d6
      go_upto_region 5 with fail
      rw [← hw3, ← hgb]
      clear hw3 hgb
      go_wp2_with fail
      ((with_reducible refine HNEW.out.mono ?_))
      rintro e w4 ⟨rb, pgb, gnb, rfl, hr, hb4⟩
      have HB4 := Lib.hid (And.intro (bel_trans HB3.out.1 hb4) ((hb4.block gb (Array.getElem?_eq_some_iff.1 HB3.out.2.1).1).trans HB3.out.2.1))
      obtain ⟨ht4, hbw4⟩ := HX0.out w4 HB4.out.1
      have hgl : gb < w3.heap.size := (Array.getElem?_eq_some_iff.1 HB3.out.2.1).1
      have hpg : pa ≠ gb ∧ pb ≠ gb := ⟨by have h1 := (Array.getElem?_eq_some_iff.1 HT.out.1.1).1; have h2 := HB3.out.2.2; omega, by have h1 := (Array.getElem?_eq_some_iff.1 HT.out.1.2).1; have h2 := HB3.out.2.2; omega⟩
      have hpl : pa < w3.heap.size ∧ pb < w3.heap.size := ⟨Nat.lt_of_lt_of_le (Array.getElem?_eq_some_iff.1 HT.out.1.1).1 HB3.out.1.size, Nat.lt_of_lt_of_le (Array.getElem?_eq_some_iff.1 HT.out.1.2).1 HB3.out.1.size⟩
      have hne : pa ≠ pb := HT.out.2.2.2.2
      have hbase : w.heap.size ≤ pa ∧ w.heap.size ≤ pb := ⟨Nat.le_trans HBW.out.1.size HT.out.2.2.1, Nat.le_trans HBW.out.1.size HT.out.2.2.2.1⟩
      obtain ⟨⟨z0, z1, z2, z3⟩, zf⟩ := pt_four' ht4.1
      obtain ⟨⟨y0, y1, y2, y3⟩, yf⟩ := pt_four' ht4.2
      obtain ⟨w5, hw5⟩ : ∃ x, x = (w4.setCell ⟨pa, 0, none⟩ (.int .u32 4)).setCell ⟨pb, 0, none⟩ (.int .u32 5) := ⟨_, rfl⟩
      have hk5 : ∀ j, j ≠ pa → j ≠ pb → w5.heap[j]? = w4.heap[j]? := fun j h1 h2 => by
        rw [hw5]
        exact (heap_setCell_other _ ⟨pb, 0, none⟩ j _ h2).trans (heap_setCell_other w4 ⟨pa, 0, none⟩ j _ h1)
      have hr5 : Ram w3.heap.size (rsNew rb pgb gnb n 20 6 256) w5 := hr.keep (fun k _ hk => hk5 k (by
        have hlo := hr.low
        rcases hk with e | e | e | e
        · have e' : k = rb := e; have := hlo.1; show k ≠ pa; rw [e']; have h2 : w3.heap.size ≤ rb := hlo.1; omega
        · have e' : k = pgb := e; rw [e']; have h2 : w3.heap.size ≤ pgb := hlo.2.1; omega
        · have e' : k = gnb := e; rw [e']; have h2 : w3.heap.size ≤ gnb := hlo.2.2; omega
        · cases e) (by
        have hlo := hr.low
        rcases hk with e | e | e | e
        · have e' : k = rb := e; rw [e']; have h2 : w3.heap.size ≤ rb := hlo.1; omega
        · have e' : k = pgb := e; rw [e']; have h2 : w3.heap.size ≤ pgb := hlo.2.1; omega
        · have e' : k = gnb := e; rw [e']; have h2 : w3.heap.size ≤ gnb := hlo.2.2; omega
        · cases e)) (fun k p hk hF => by cases hF)
      have ht5 : TwoAt pa pb (.int .u32 4) (.int .u32 (ba : Int)) (.slice ma mn mc) (.slice ea en ec) (.int .u32 5) (.int .u32 (ta : Int)) (.slice na nn nc) (.slice fa fn fc) w5 := by
        rw [hw5]
        refine ⟨(heap_setCell_other _ ⟨pb, 0, none⟩ pa _ hne).trans (by simpa using heap_setCell_same w4 pa 0 _ _ (.int .u32 4) ht4.1), ?_⟩
        simpa using heap_setCell_same (w4.setCell ⟨pa, 0, none⟩ (.int .u32 4)) pb 0 _ _ (.int .u32 5) ((heap_setCell_other w4 ⟨pa, 0, none⟩ pb _ (fun e => hne e.symm)).trans ht4.2)
      have hg5 : w5.heap[gb]? = some (.cells #[.int .i64 (n : Int), .int .i64 20, .int .i64 6, .int .i64 256] 49 (0, 0)) := (hk5 gb (fun e => hpg.1 e.symm) (fun e => hpg.2 e.symm)).trans HB4.out.2
      have hb5 : Below w.heap.size w w5 := by rw [hw5]; exact (hbw4.setCell (p := ⟨pa, 0, none⟩) hbase.1 _).setCell (p := ⟨pb, 0, none⟩) hbase.2 _
      have hs5 : w3.heap.size ≤ w5.heap.size := by rw [hw5]; simpa using hb4.size
      go_upto_region 7 with fail
      rw [← hw5]
      obtain ⟨B, hBB⟩ : ∃ B, B = w3.heap.size := ⟨_, rfl⟩
      rw [← hBB] at hr5 hs5 hpl hgl
      have hwB : w.heap.size ≤ B := by omega
      have hrb : (rsNew rb pgb gnb n 20 6 256).rb = rb := rfl
      have hm5 := mem2_new hr5 hs5 HN5.out
      obtain ⟨s, hs⟩ : ∃ s, s = rsNew rb pgb gnb n 20 6 256 := ⟨_, rfl⟩
      rw [← hs] at hm5 hrb
      subst hrb
      have HX : Hid (∀ x : World, Below B w5 x → TwoAt pa pb (.int .u32 4) (.int .u32 (ba : Int)) (.slice ma mn mc) (.slice ea en ec) (.int .u32 5) (.int .u32 (ta : Int)) (.slice na nn nc) (.slice fa fn fc) x ∧ x.heap[gb]? = some (.cells #[.int .i64 (n : Int), .int .i64 20, .int .i64 6, .int .i64 256] 49 (0, 0)) ∧ Below w.heap.size w x) := Lib.hid fun x hx => ⟨ht5.step hpl.1 hpl.2 hx, (hx.block gb hgl).trans hg5, hb5.trans (hx.mono hwB)⟩
      have HM5 := Lib.hid hm5
      have hpa5 := HPA.out w5 hb5
      have h200 := HN.out
      have hml := hpa5.ml_.1
      have hel := hpa5.el_.1
      simp only [] at hml hel
      have HW1 : Hid (Calls Tryz.prog 21 #[.iface 51 (.pointer (some ⟨s.rb, 0, none⟩)), .agg #[.int .u32 4, .int .u32 (ba : Int), .slice ma mn mc, .slice ea en ec]] w5 fun e w' => ∃ s', e = .returned (.int .i64 0) ∧ Mem2 B s' n 1 (setX (fun _ => PtD.zero) 0 ⟨true, 4, ba, ml, el, 4⟩) w' ∧ RStep s w5 s' w') :=
        Lib.hid (mem2_write hm5 (by omega) 4 ba ma mn mc ml ea en ec el hpa5 (by omega) (by omega) (Nat.le_trans (many_small (by omega)) (by have := HN5.out; omega)))
      obtain ⟨⟨x0, x1, x2, x3⟩, -⟩ := pt_four' ht5.1
      clear hr hb4 ht4 hbw4 hgl hpg hpl hne hbase z0 z1 z2 z3 zf y0 y1 y2 y3 yf hw5 hk5 hr5 ht5 hg5 hb5 hs5 hBB hwB hs hm5 hpa5 h200 hml hel g0 g1 g2 g3
      go_wp2_with fail
      ((with_reducible refine HW1.out.mono ?_))
      rintro e w6 ⟨s6, rfl, hm6, hst6⟩
      have HC6 := Lib.hid (HM5.out.below hst6)
      obtain ⟨ht6, -, hb6⟩ := HX.out w6 HC6.out
      obtain ⟨hrb6, -⟩ := hst6.same
      rw [← hrb6]
      have HM6 := Lib.hid hm6
      have hpc6 := HPC.out w6 hb6
      have h200 := HN.out
      have hml := hpc6.ml_.1
      have hel := hpc6.el_.1
      simp only [] at hml hel
      have HW2 : Hid (Calls Tryz.prog 21 #[.iface 51 (.pointer (some ⟨s6.rb, 0, none⟩)), .agg #[.int .u32 5, .int .u32 (ta : Int), .slice na nn nc, .slice fa fn fc]] w6 fun e w' => ∃ s', e = .returned (.int .i64 0) ∧ Mem2 B s' n 2 (setX (setX (fun _ => PtD.zero) 0 ⟨true, 4, ba, ml, el, 4⟩) 1 ⟨true, 5, ta, nl, fl, 5⟩) w' ∧ RStep s6 w6 s' w') :=
        Lib.hid (mem2_write hm6 (by omega) 5 ta na nn nc nl fa fn fc fl hpc6 (by omega) (by omega) (Nat.le_trans (many_small (by omega)) (by have := HN5.out; omega)))
      obtain ⟨⟨y0, y1, y2, y3⟩, -⟩ := pt_four' ht6.2
      clear hst6 ht6 hb6 hrb6 hm6 hpc6 h200 hml hel x0 x1 x2 x3
      go_wp2_with fail
      ((with_reducible refine HW2.out.mono ?_))
      rintro e w7 ⟨s7, rfl, hm7, hst7⟩
      have HC7 := Lib.hid (HC6.out.trans (HM6.out.below hst7))
      obtain ⟨hrb7, -⟩ := hst7.same
      rw [← hrb7]
      have HM7 := Lib.hid hm7
      obtain ⟨ht7, hg7, hb7⟩ := HX.out w7 HC7.out
      obtain ⟨⟨y0, y1, y2, y3⟩, -⟩ := pt_four' ht7.2
      have HPC7 : Hid (Calls Tryz.prog 15 #[.agg #[.int .u32 5, .int .u32 (ta : Int), .slice na nn nc, .slice fa fn fc]] w7 fun e w' => ∃ a c a2 c2, e = .returned (.agg #[.int .i64 5, .int .i64 (ta : Int), .slice a nn c, .slice a2 fn c2]) ∧ RowK .i64 4294967296 w' a nn nl ∧ RowK .i64 4294967296 w' a2 fn fl ∧ Below w7.heap.size w7 w') := Lib.hid (ptOf_any 5 ta na nn nc nl fa fn fc fl w7 (HPC.out w7 hb7) (by have := HN.out; omega) (by have := HN.out; omega))
      clear hst7 hrb7 hm7 ht7 hg7 hb7 y0 y1 y2 y3
      obtain ⟨⟨y0, y1, y2, y3⟩, -⟩ := pt_four' (HX.out w7 HC7.out).1.2
      go_wp2_with fail
      ((with_reducible refine HPC7.out.mono ?_))
      rintro e w8 ⟨a8, c8, a9, c9, rfl, hk8, hk9, hb8⟩
      have HB8 := Lib.hid (And.intro hb8 (Nat.le_trans HM7.out.hB hb8.size))
      have hta : ta < 4294967296 := (HPC.out w (Below.refl _ _)).ba_
      have HEN : Hid (Calls Tryz.prog 14 #[.agg #[.int .i64 5, .int .i64 (ta : Int), .slice a8 nn c8, .slice a9 fn c9]] w8 (RetOwn w8 (ptB 5 ta nl fl))) := Lib.hid (refPtEncode_any 5 ta a8 nn c8 nl a9 fn c9 fl w8 (by decide) hta hk8 hk9 (by have := HN.out; omega) (by have := HN.out; omega))
      have hnl : nl.length = nn := (HPC.out w (Below.refl _ _)).ml_.1
      have hfl : fl.length = fn := (HPC.out w (Below.refl _ _)).el_.1
      obtain ⟨bl, hbl⟩ : ∃ x, x = (ptB 5 ta nl fl).length := ⟨_, rfl⟩
      have hblv : bl = 16 + 4 * nn + 4 * fn := by rw [hbl, ptB_len, hnl, hfl]
      obtain ⟨many, hmany⟩ : ∃ x, x = manyOf 256 (16 + 4 * nl.length + 4 * fl.length) := ⟨_, rfl⟩
      have hmv : many = (bl + 255) / 256 := by rw [hmany, hnl, hfl, hblv]; unfold manyOf; rfl
      have h200 := HN.out
      have hmb : 1 ≤ many ∧ many ≤ 4 := by omega
      obtain ⟨rows, hrows⟩ : ∃ x, x = rowsOf n many := ⟨_, rfl⟩
      have hn5 := HN5.out
      have hrv : rows = (many + (n - 1) - 1) / (n - 1) := by rw [hrows]; rfl
      have hrp : 1 ≤ rows ∧ rows ≤ 4 := by
        have h1 := (rows_iff (many := many) hn5.1 0).2 (by omega)
        have h2 := (rows_iff (many := many) hn5.1 4)
        have h3 : ¬ (4 * (n - 1) < many) := by omega
        rw [← hrows] at h1 h2
        exact ⟨h1, Nat.le_of_not_lt fun h => h3 (h2.1 h)⟩
      have w1 : IntKind.i64.wrap ((bl : Int) + 255) = (bl : Int) + 255 := wrap_of (by omega) (by omega)
      have w2 : ((bl : Int) + 255).tdiv 256 = (many : Int) := by rw [Int.tdiv_eq_ediv_of_nonneg (by omega)]; omega
      have w3' : IntKind.i64.wrap ((n : Int) - 1) = (n : Int) - 1 := wrap_of (by omega) (by omega)
      have w4' : IntKind.i64.wrap ((many : Int) + ((n : Int) - 1)) = (many : Int) + ((n : Int) - 1) := wrap_of (by omega) (by omega)
      have w5' : IntKind.i64.wrap ((many : Int) + ((n : Int) - 1) - 1) = (many : Int) + ((n : Int) - 1) - 1 := wrap_of (by omega) (by omega)
      have w6' : ((many : Int) + ((n : Int) - 1) - 1).tdiv ((n : Int) - 1) = (rows : Int) := by
        rw [Int.tdiv_eq_ediv_of_nonneg (by omega), show (many : Int) + ((n : Int) - 1) - 1 = ((many + (n - 1) - 1 : Nat) : Int) by omega, show (n : Int) - 1 = ((n - 1 : Nat) : Int) by omega, hrv]
        rfl
      have HRW := Lib.hid (And.intro hrp (And.intro hmb (And.intro hrows (And.intro hmany (And.intro hbl hn5)))))
      clear hk8 hk9 hb8 hta hnl hfl hblv hmv h200 hrv hrows hmany y0 y1 y2 y3
      go_wp2_with fail
      ((with_reducible refine HEN.out.mono ?_))
      rintro e w9 ⟨v9, rfl, ho9, hb9⟩
      obtain ⟨a10, c10, rfl, -, -⟩ := row_of_own ho9
      rw [← hbl]
      have HC9 := Lib.hid (HC7.out.trans ((HB8.out.1.trans (hb9.mono HB8.out.1.size)).mono HM7.out.hB))
      have HM9 := Lib.hid (HM7.out.step (HB8.out.1.trans (hb9.mono HB8.out.1.size)))
      obtain ⟨g0, g1, g2, g3⟩ := four_at (HX.out w9 HC9.out).2.1
      clear ho9 hb9 hbl
      go_upto_region 12 with fail
      obtain ⟨D, hD, hDn⟩ := ptU_eq z n (by have := HRW.out.2.2.2.2.2; omega) (by have := HRW.out.2.2.2.2.2; omega)
      obtain ⟨r, hr, hrr⟩ := ptU_eq (IntKind.i64.wrap (z.tdiv 8)) rows HRW.out.1.1 (by have := HRW.out.1; omega)
      have u1 : IntKind.u64.wrap (n : Int) = (n : Int) := by rw [IntKind.wrap_u64]; have := HRW.out.2.2.2.2.2; omega
      have u2 : IntKind.u64.wrap (rows : Int) = (rows : Int) := by rw [IntKind.wrap_u64]; have := HRW.out.1; omega
      have n0 : (n = 0) = False := eq_false (by have := HRW.out.2.2.2.2.2; omega)
      have n1 : (rows = 0) = False := eq_false (by have := HRW.out.1; omega)
      have HDR := Lib.hid (And.intro hDn hrr)
      have hS0 := g0
      clear g1 g2 g3 w1 w2 w3' w4' w5' w6' hDn hrr
      go_region_held3 (fun x => x.cell? ⟨gb, 0, none⟩ = some (.int .i64 (n : Int)))
        (first | exact hS0 | go_keep) (fail)
      all_goals
        obtain ⟨w10, hw10⟩ : ∃ x, x = (w9.alloc (.cells #[.int .i64 (D : Int), .int .i64 3, .int .i64 (r : Int)] 65)).drew := ⟨_, rfl⟩
        obtain ⟨kb, hkb⟩ : ∃ x, x = w9.heap.size := ⟨_, rfl⟩
        have hb10 : Below w9.heap.size w9 w10 := by rw [hw10]; exact (bel_alloc (Below.refl _ _) _).drew
        have hk10 : w10.heap[kb]? = some (.cells #[.int .i64 (D : Int), .int .i64 3, .int .i64 (r : Int)] 65 (0, 0)) := by rw [hw10, hkb]; simp only [heap_drew]; exact heap_alloc_new _ _
        have hc10 : Below B w5 w10 := HC9.out.trans (hb10.mono HM9.out.hB)
        have hm10 := HM9.out.step hb10
        have HK10 := Lib.hid (And.intro hk10 (And.intro hc10 hm10))
        have HKO : Hid (¬ s7.ob kb) := Lib.hid (HM9.out.ram.fresh (Nat.le_of_eq hkb.symm))
        clear hS0 g0 u1 u2 n0 n1 hD hr
        go_upto_region 13 with fail
        rw [← hw10, ← hkb]
        clear hw10 hkb hb10 hk10 hc10 hm10
        have hn5 := HRW.out.2.2.2.2.2
        -- the page that is there
        have hs1 := HK10.out.2.2.s1
        obtain ⟨-, hfit, hS⟩ : PtNums 5 ta nl fl ∧ manyOf s7.sz (16 + 4 * nl.length + 4 * fl.length) ≤ s7.pg * (s7.n - 1) ∧ SegIs s7 3 (rowsOf s7.n (manyOf s7.sz (16 + 4 * nl.length + 4 * fl.length))) (ptC s7.sz 5 (manyOf s7.sz (16 + 4 * nl.length + 4 * fl.length)) (ptX s7.sz 5 ta nl fl)) := by
          rcases hs1 with ⟨-, a, b, c⟩ | ⟨hf, -⟩
          · exact ⟨a, b, c⟩
          · cases hf
        rw [HK10.out.2.2.sz_, HK10.out.2.2.n_] at hS
        have hrR : r < rowsOf n (manyOf 256 (16 + 4 * nl.length + 4 * fl.length)) := by rw [← HRW.out.2.2.2.1, ← HRW.out.2.2.1]; exact HDR.out.2
        have hrpg : r < 6 := by have h1 := HDR.out.2; have h2 := HRW.out.1.2; omega
        obtain ⟨-, q0, hq0⟩ := rowX_page (hS.1 r hrR) (by rw [HK10.out.2.2.n_]; omega) (by omega) (by omega) HK10.out.2.2.live (m := D) (by rw [HK10.out.2.2.n_]; exact HDR.out.1)
        have hok3 : ok3 (D, 3, r) := by have := HDR.out.1; unfold ok3; simp only; omega
        obtain ⟨⟨qa, qn, qc, ql⟩, hq0⟩ : ∃ q, s7.F (D, 3, r) = some q := ⟨q0, hq0⟩
        obtain ⟨hqp, hqn, hqf, hqo⟩ := HK10.out.2.2.ram.parts (D, 3, r) _ hok3 hq0
        rw [HK10.out.2.2.sz_] at hqn
        simp only at hqn hqf hqo
        obtain ⟨qb0, qo, hqa, -⟩ := hqp.1.2.2 (by show 0 < qn; omega)
        simp only at hqa
        subst hqn hqa
        have HQP := Lib.hid hqp
        have HOK3 := Lib.hid hok3
        have HLK : Hid (∀ x : World, Below w10.heap.size w10 x → (Instr.lookup 54 (.map (some s7.pb)) (.agg #[.int .i64 (D : Int), .int .i64 3, .int .i64 (r : Int)]) false).run Tryz.prog x = .ok (.slice (some ⟨qb0, qo, none⟩) (256 + 64) qc) x) := Lib.hid fun x hx => by
          have h1 := (HK10.out.2.2.ram.step hx).pages
          have h2 := h1.lookup keyF3 Tryz.underlying54 (zeroB x) (x := (D, 3, r)) hok3
          have h3 : (s7.pageV (D, 3, r)).getD (.slice none 0 0) = .slice (some ⟨qb0, qo, none⟩) (256 + 64) qc := by
            unfold RS.pageV
            rw [hq0]
            rfl
          rw [h3] at h2
          exact h2
        have HRS := Lib.hid (And.intro hS (And.intro hrR hrpg))
        clear hs1 hfit hS hrR hrpg hq0 hok3 hqp hqf hqo
        have HSS : Hid (∀ x : World, Below w10.heap.size w10 x → x.cell? ⟨s7.rb, 4, none⟩ = some (.map (some s7.pb)) ∧ x.cell? ⟨kb, 0, none⟩ = some (.int .i64 (D : Int)) ∧ x.cell? ⟨kb, 1, none⟩ = some (.int .i64 3) ∧ x.cell? ⟨kb, 2, none⟩ = some (.int .i64 (r : Int)) ∧ (Instr.lookup 54 (.map (some s7.pb)) (.agg #[.int .i64 (D : Int), .int .i64 3, .int .i64 (r : Int)]) false).run Tryz.prog x = .ok (.slice (some ⟨qb0, qo, none⟩) (256 + 64) qc) x) := Lib.hid fun x hx => by
          have h1 := (hx.block kb (Array.getElem?_eq_some_iff.1 HK10.out.1).1).trans HK10.out.1
          refine ⟨(HK10.out.2.2.ram.step hx).c.2.2.2.2.1, ?_, ?_, ?_, HLK.out x hx⟩ <;> simp [World.cell?, h1]
        have HBX : Hid (∀ x : World, Below w10.heap.size w10 x → Below B w5 x) := Lib.hid fun x hx => HK10.out.2.1.trans (hx.mono HK10.out.2.2.hB)
        have HWI : Hid (∀ x : World, Below w10.heap.size w10 x → Calls Tryz.prog 24 #[.slice (some ⟨qb0, qo, none⟩) (256 + 64) qc, .int .i64 0, .slice ca cn cc] x (RetOwn x (ql.take 0 ++ cl ++ ql.drop (0 + cn)))) := Lib.hid fun x hx => by
          have := withN_any qb0 qo (256 + 64) qc ql 0 ca cn cc cl x ((HQP.out.step hx).1) HQP.out.2.1 (by have := HQP.out.2.2.1; unfold maxLen at this; exact this) (by have := HN.out; omega) (by omega) (HCR.out x (HX.out x (HBX.out x hx)).2.2) HCC.out
          exact this
        obtain ⟨xl, hxl⟩ : ∃ xl, xl = ql.take 0 ++ cl ++ ql.drop (0 + cn) := ⟨_, rfl⟩
        rw [← hxl] at HWI
        have HXL : Hid (xl.length = 320) := Lib.hid (by
          rw [hxl, List.length_append, List.length_append, List.length_take, List.length_drop, (HCR.out w (Below.refl _ _)).1, HQP.out.1.1]
          have := HN.out
          show min 0 (256 + 64) + cn + (256 + 64 - (0 + cn)) = 320
          omega)
        have HB0' : Hid (Below w10.heap.size w10 w10.drew) := Lib.hid (Below.refl _ _).drew
        have hS0 := HSS.out w10.drew HB0'.out
        clear hxl
        go_region_held3 (fun x => x.cell? ⟨s7.rb, 4, none⟩ = some (.map (some s7.pb)) ∧ x.cell? ⟨kb, 0, none⟩ = some (.int .i64 (D : Int)) ∧ x.cell? ⟨kb, 1, none⟩ = some (.int .i64 3) ∧ x.cell? ⟨kb, 2, none⟩ = some (.int .i64 (r : Int)) ∧ (Instr.lookup 54 (.map (some s7.pb)) (.agg #[.int .i64 (D : Int), .int .i64 3, .int .i64 (r : Int)]) false).run Tryz.prog x = .ok (.slice (some ⟨qb0, qo, none⟩) (256 + 64) qc) x)
          (first | with_reducible exact hS0 | with_reducible exact hS1 | go_keep)
          ((go_simp; go_at_call 24; ((with_reducible refine (HWI.out _ HB0'.out).mono ?_)); (intro e wW hr; obtain ⟨X, rfl, hXl, hXn, hXk, hb8, hXf⟩ := part_ret' hr; have HBW2 := Lib.hid (bel_trans HB0'.out hb8); have HXX := Lib.hid (And.intro hXl (And.intro hXn (And.intro hXk (far_mono HB0'.out.size hXf)))); have hS1 := HSS.out wW HBW2.out; clear hr hXl hXn hXk hb8 hXf)))
        all_goals
          clear hS0 hS1
          obtain ⟨xa, xn, xc, xll⟩ := X
          have hxx : xll = xl ∧ xn = 320 := ⟨HXX.out.1, by have := HXX.out.2.1; rw [HXL.out] at this; exact this⟩
          obtain ⟨rfl, rfl⟩ := hxx
          obtain ⟨xb, xo, hxa, _⟩ := HXX.out.2.2.1.1.2.2 (by show 0 < 320; omega)
          simp only at hxa
          subst hxa
          dsimp only
          have HXP := Lib.hid HXX.out.2.2
          have HC0 : Hid (Below wW.heap.size wW wW.drew) := Lib.hid (Below.refl _ _).drew
          have hS0 := HSS.out wW.drew (bel_trans HBW2.out HC0.out)
          have HSA := Lib.hid (sameAny_any (some ⟨xb, xo, none⟩) (some ⟨qb0, qo, none⟩) 320 xc (256 + 64) qc xll ql wW.drew (HXP.out.1.step HC0.out).1 (HQP.out.step (bel_trans HBW2.out HC0.out)).1)
          go_upto_region 14 with fail
          go_region_held3 (fun x => x.cell? ⟨s7.rb, 4, none⟩ = some (.map (some s7.pb)) ∧ x.cell? ⟨kb, 0, none⟩ = some (.int .i64 (D : Int)) ∧ x.cell? ⟨kb, 1, none⟩ = some (.int .i64 3) ∧ x.cell? ⟨kb, 2, none⟩ = some (.int .i64 (r : Int)) ∧ (Instr.lookup 54 (.map (some s7.pb)) (.agg #[.int .i64 (D : Int), .int .i64 3, .int .i64 (r : Int)]) false).run Tryz.prog x = .ok (.slice (some ⟨qb0, qo, none⟩) (256 + 64) qc) x)
            (first | with_reducible exact hS0 | go_keep)
            ((go_simp; go_at_call 13; ((with_reducible refine HSA.out.mono ?_)); (rintro e w11 ⟨⟨zb, rfl⟩, rfl⟩)))
          all_goals
            cases zb with
            | true =>
              go_wp2
              go_ret
              exact ⟨rfl, (HX.out _ (HBX.out _ (bel_trans HBW2.out HC0.out))).2.2⟩
            | false =>
              obtain ⟨bb, hbb⟩ : ∃ b, b = decide (OpenOk (xll.take 256) (xll.drop 256)) := ⟨_, rfl⟩
              have HOP : Hid (∀ x : World, Below wW.heap.size wW x → Calls Tryz.prog 25 #[.slice (some ⟨xb, xo, none⟩) 320 xc] x fun e w' => e = .returned (.bool bb) ∧ Below x.heap.size x w') := Lib.hid fun x hx => by
                have := ptOpens_any xb xo xc xll x (HXP.out.1.step hx).1 HXP.out.1.2.1 HXP.out.1.2.2.1
                rw [← hbb] at this
                exact this
              have HHB := Lib.hid hbb
              clear hbb hS0
              go_wp2_with fail
              ((with_reducible refine (HOP.out _ HC0.out).mono ?_))
              rintro e w12 ⟨rfl, hb12⟩
              have HC12 := Lib.hid (bel_trans HC0.out hb12)
              clear hb12
              cases bb with
              | true =>
                go_wp2
                go_ret
                exact ⟨rfl, (HX.out _ (HBX.out _ (bel_trans HBW2.out HC12.out))).2.2⟩
              | false =>
                have hbad : ¬ OpenOk (xll.take 256) (xll.drop 256) := by
                  have h1 := HHB.out
                  simpa using h1.symm
                have hZW : Below w10.heap.size w10 w12.drew := (bel_trans HBW2.out HC12.out).drew
                have hRz := HK10.out.2.2.ram.step hZW
                have hup0 := hRz.pages.update keyF3 Tryz.underlying54 (x := (D, 3, r)) HOK3.out (.slice (some ⟨xb, xo, none⟩) 320 xc)
                rw [show kv3 (D, 3, r) = .agg #[.int .i64 (D : Int), .int .i64 3, .int .i64 (r : Int)] from rfl] at hup0
                obtain ⟨w13, hup, hm13, hgr13, hsz13⟩ := hup0
                have hff : w10.heap.size ≤ xb := HXP.out.2 _ rfl
                obtain ⟨k1, k2⟩ := ram_put hRz w13 (D, 3, r) ⟨some ⟨xb, xo, none⟩, 320, xc, xll⟩ hm13 hgr13 (HXP.out.1.step HC12.out.drew) (by rw [HK10.out.2.2.sz_]) (fun x hx => by cases hx; exact Nat.le_trans HK10.out.2.2.hB hff) (fun x hx => by cases hx; exact HK10.out.2.2.ram.fresh hff)
                obtain ⟨t, ht, hla⟩ := mem2_spoilt HK10.out.2.2 ta nl fl rfl (by rw [← HRW.out.2.2.2.1]; exact HRW.out.2.1.2) rfl D r HDR.out.1 HRS.out.2.1 ⟨some ⟨xb, xo, none⟩, 320, xc, xll⟩ hbad w13 k1
                have hs13 : w10.heap.size ≤ w13.heap.size := Nat.le_trans hZW.size k2.size
                have hB13 : Below B w5 w13 := (HBX.out _ hZW).trans (k2.below hRz (Nat.le_trans HK10.out.2.2.hB hZW.size))
                have hkz : w12.drew.heap[kb]? = some (.cells #[.int .i64 (D : Int), .int .i64 3, .int .i64 (r : Int)] 65 (0, 0)) := (hZW.block kb (Array.getElem?_eq_some_iff.1 HK10.out.1).1).trans HK10.out.1
                have hk13 : w13.heap[kb]? = some (.cells #[.int .i64 (D : Int), .int .i64 3, .int .i64 (r : Int)] 65 (0, 0)) := (k2.block kb (Array.getElem?_eq_some_iff.1 hkz).1 HKO.out).2.trans hkz
                have hS13 : w13.cell? ⟨s7.rb, 4, none⟩ = some (.map (some s7.pb)) ∧ w13.cell? ⟨kb, 0, none⟩ = some (.int .i64 (D : Int)) ∧ w13.cell? ⟨kb, 1, none⟩ = some (.int .i64 3) ∧ w13.cell? ⟨kb, 2, none⟩ = some (.int .i64 (r : Int)) := by
                  refine ⟨k1.c.2.2.2.2.1, ?_, ?_, ?_⟩ <;> simp [World.cell?, hk13]
                have H13 := Lib.hid (And.intro hB13 (And.intro (Nat.le_trans HK10.out.2.2.hB hs13) ht))
                rw [fold_spoilt] at hla
                have HLA : Hid (Calls Tryz.prog 22 #[.iface 51 (.pointer (some ⟨s7.rb, 0, none⟩))] w13 (RdIs true 4 ba ml el (max 4 t) w13)) := Lib.hid hla
                have hS0 := HSS.out w12.drew hZW
                clear hbad hZW hRz hm13 hgr13 hsz13 hff k1 k2 hs13 hB13 ht hla hkz hk13
                go_upto_region 18 with fail
                go_region_held3 (fun x => x.cell? ⟨s7.rb, 4, none⟩ = some (.map (some s7.pb)) ∧ x.cell? ⟨kb, 0, none⟩ = some (.int .i64 (D : Int)) ∧ x.cell? ⟨kb, 1, none⟩ = some (.int .i64 3) ∧ x.cell? ⟨kb, 2, none⟩ = some (.int .i64 (r : Int)))
                  (first | with_reducible exact ⟨hS0.1, hS0.2.1, hS0.2.2.1, hS0.2.2.2.1⟩ | with_reducible exact hS13 | go_keep) (fail)
                all_goals
                  clear hS0 hS13 hup
                  obtain ⟨mt, hmt⟩ : ∃ x, x = max 4 t := ⟨_, rfl⟩
                  rw [← hmt] at HLA
                  have dmt : decide ((4 : Int) ≤ (mt : Int)) = true := by simp; omega
                  clear hmt
                  go_wp2_with fail
                  ((with_reducible refine HLA.out.mono ?_))
                  rintro e w14 ⟨hb14, v1, v2, rfl, ho1, ho2⟩
                  obtain ⟨ya, yc, rfl, hq1⟩ := ownU_row ho1 (HPA.out w (Below.refl _ _)).ml_.2.1
                  obtain ⟨za, zc, rfl, hq2⟩ := ownU_row ho2 (HPA.out w (Below.refl _ _)).el_.2.1
                  have hnl : ml.length = mn := (HPA.out w (Below.refl _ _)).ml_.1
                  have hfl : el.length = en := (HPA.out w (Below.refl _ _)).el_.1
                  rw [hnl] at hq1 ⊢
                  rw [hfl] at hq2 ⊢
                  have hpq : PT.Ok ⟨4, ba, ya, mn, yc, ml, za, en, zc, el⟩ w14 := ⟨(HPA.out w (Below.refl _ _)).sq_, (HPA.out w (Below.refl _ _)).ba_, hq1, hq2⟩
                  have hc14 : Below B w5 w14 := H13.out.1.trans (hb14.mono H13.out.2.1)
                  obtain ⟨w15, hw15⟩ : ∃ x, x = w14.alloc (.cells #[.int .u32 4, .int .u32 (ba : Int), .slice ya mn yc, .slice za en zc] 25) := ⟨_, rfl⟩
                  obtain ⟨qb, hqb⟩ : ∃ x, x = w14.heap.size := ⟨_, rfl⟩
                  have hb15 : Below w14.heap.size w14 w15 := by rw [hw15]; exact bel_alloc (Below.refl _ _) _
                  have hq15 : w15.heap[qb]? = some (.cells #[.int .u32 4, .int .u32 (ba : Int), .slice ya mn yc, .slice za en zc] 25 (0, 0)) := by rw [hw15, hqb]; exact heap_alloc_new _ _
                  have hql : qb < w15.heap.size := (Array.getElem?_eq_some_iff.1 hq15).1
                  have hB14 : B ≤ w14.heap.size := Nat.le_trans H13.out.2.1 hb14.size
                  have hc15 : Below B w5 w15 := hc14.trans (hb15.mono hB14)
                  have HY : Hid (∀ x : World, Below w15.heap.size w15 x → ((x.cell? ⟨pa, 0, none⟩ = some (.int .u32 4) ∧ x.cell? ⟨pa, 1, none⟩ = some (.int .u32 (ba : Int)) ∧ x.cell? ⟨pa, 2, none⟩ = some (.slice ma mn mc) ∧ x.cell? ⟨pa, 3, none⟩ = some (.slice ea en ec)) ∧ (x.cell? ⟨qb, 0, none⟩ = some (.int .u32 4) ∧ x.cell? ⟨qb, 1, none⟩ = some (.int .u32 (ba : Int)) ∧ x.cell? ⟨qb, 2, none⟩ = some (.slice ya mn yc) ∧ x.cell? ⟨qb, 3, none⟩ = some (.slice za en zc))) ∧ Below w.heap.size w x ∧ PT.Ok ⟨4, ba, ma, mn, mc, ml, ea, en, ec, el⟩ x ∧ PT.Ok ⟨4, ba, ya, mn, yc, ml, za, en, zc, el⟩ x) := Lib.hid fun x hx => by
                    obtain ⟨h1, -, h2⟩ := HX.out x (hc15.trans (hx.mono (Nat.le_trans hB14 hb15.size)))
                    exact ⟨⟨(pt_four' h1.1).1, (pt_four' ((hx.block qb hql).trans hq15)).1⟩, h2, HPA.out x h2, (hpq.step hb15).step hx⟩
                  have HOP : Hid (∀ x : World, Below w15.heap.size w15 x → Calls Tryz.prog 15 #[.agg #[.int .u32 4, .int .u32 (ba : Int), .slice ya mn yc, .slice za en zc]] x fun e w' => ∃ a c a2 c2, e = .returned (.agg #[.int .i64 4, .int .i64 (ba : Int), .slice a mn c, .slice a2 en c2]) ∧ RowK .i64 4294967296 w' a mn ml ∧ RowK .i64 4294967296 w' a2 en el ∧ Below x.heap.size x w') := Lib.hid fun x hx => ptOf_any 4 ba ya mn yc ml za en zc el x (HY.out x hx).2.2.2 (by have := HN.out; omega) (by have := HN.out; omega)
                  have HOQ : Hid (∀ x : World, Below w15.heap.size w15 x → Calls Tryz.prog 15 #[.agg #[.int .u32 4, .int .u32 (ba : Int), .slice ma mn mc, .slice ea en ec]] x fun e w' => ∃ a c a2 c2, e = .returned (.agg #[.int .i64 4, .int .i64 (ba : Int), .slice a mn c, .slice a2 en c2]) ∧ RowK .i64 4294967296 w' a mn ml ∧ RowK .i64 4294967296 w' a2 en el ∧ Below x.heap.size x w') := Lib.hid fun x hx => ptOf_any 4 ba ma mn mc ml ea en ec el x (HY.out x hx).2.2.1 (by have := HN.out; omega) (by have := HN.out; omega)
                  have HBA : Hid (ba < 4294967296) := Lib.hid (HPA.out w (Below.refl _ _)).ba_
                  have HSA2 : Hid (∀ (x : World) (a c : Option Addr) (b d : Option Addr) (e f g h : Nat), RowK .i64 4294967296 x a mn ml → RowK .i64 4294967296 x b en el → RowK .i64 4294967296 x c mn ml → RowK .i64 4294967296 x d en el → Calls Tryz.prog 16 #[.agg #[.int .i64 4, .int .i64 (ba : Int), .slice a mn e, .slice b en f], .agg #[.int .i64 4, .int .i64 (ba : Int), .slice c mn g, .slice d en h]] x fun e w' => e = .returned (.bool true) ∧ Below x.heap.size x w') := Lib.hid fun x a c b d e f g h h1 h2 h3 h4 => ptSame_any 4 ba a mn e ml b en f el c g d h x (by decide) HBA.out h1 h2 h3 h4 (by have := HN.out; omega) (by have := HN.out; omega)
                  have HB9 : Hid (Below w15.heap.size w15 w15.drew) := Lib.hid (Below.refl _ _).drew
                  have hS0 := (HY.out _ HB9.out).1
                  go_upto_region 20 with fail
                  rw [← hw15, ← hqb]
                  clear hw15 hqb hb14 ho1 ho2 hq1 hq2 hnl hfl hpq hc14 hb15 hq15 hql hB14 hc15
                  go_region_held3 (fun x => (x.cell? ⟨pa, 0, none⟩ = some (.int .u32 4) ∧ x.cell? ⟨pa, 1, none⟩ = some (.int .u32 (ba : Int)) ∧ x.cell? ⟨pa, 2, none⟩ = some (.slice ma mn mc) ∧ x.cell? ⟨pa, 3, none⟩ = some (.slice ea en ec)) ∧ (x.cell? ⟨qb, 0, none⟩ = some (.int .u32 4) ∧ x.cell? ⟨qb, 1, none⟩ = some (.int .u32 (ba : Int)) ∧ x.cell? ⟨qb, 2, none⟩ = some (.slice ya mn yc) ∧ x.cell? ⟨qb, 3, none⟩ = some (.slice za en zc)))
                    (first | with_reducible exact hS0 | with_reducible exact hS1 | with_reducible exact hS2 | with_reducible exact hS3)
                    (first
                      | (go_simp; go_at_call 15; ((with_reducible refine (HOP.out _ HB9.out).mono ?_)); (rintro e x1 ⟨a5, c5, a6, c6, rfl, hk5, hk6, hb5⟩; have HC1 := Lib.hid (HB9.out.trans (hb5.mono HB9.out.size)); have HK5 := Lib.hid (And.intro hk5 hk6); have hS1 := (HY.out _ HC1.out).1; clear hk5 hk6 hb5))
                      | (go_simp; go_at_call 15; ((with_reducible refine (HOQ.out _ HC1.out).mono ?_)); (rintro e x2 ⟨a7, c7, a8, c8, rfl, hk7, hk8, hb6⟩; have HC2 := Lib.hid (HC1.out.trans (hb6.mono HC1.out.size)); have HK6 := Lib.hid (And.intro (And.intro (rowK_below HK5.out.1 hb6) (rowK_below HK5.out.2 hb6)) (And.intro hk7 hk8)); have hS2 := (HY.out _ HC2.out).1; clear hk7 hk8 hb6))
                      | (go_simp; go_at_call 16; ((with_reducible refine (HSA2.out _ _ _ _ _ _ _ _ _ HK6.out.1.1 HK6.out.1.2 HK6.out.2.1 HK6.out.2.2).mono ?_)); (rintro e x3 ⟨rfl, hb7'⟩; have HC3 := Lib.hid (HC2.out.trans (hb7'.mono HC2.out.size)); have hS3 := (HY.out _ HC3.out).1; clear hb7')))
                  all_goals
                    go_wp2
                    go_ret
                    exact ⟨rfl, (HY.out _ HC3.out).2.1⟩
    · have hcase : decide ((200 : Int) < (mn : Int)) = true ∨ decide ((200 : Int) < (mn : Int)) = false ∧ decide ((20 : Int) < (en : Int)) = true ∨ decide ((200 : Int) < (mn : Int)) = false ∧ decide ((20 : Int) < (en : Int)) = false ∧ decide ((200 : Int) < (nn : Int)) = true ∨ decide ((200 : Int) < (mn : Int)) = false ∧ decide ((20 : Int) < (en : Int)) = false ∧ decide ((200 : Int) < (nn : Int)) = false ∧ decide ((20 : Int) < (fn : Int)) = true ∨
          decide ((200 : Int) < (mn : Int)) = false ∧ decide ((20 : Int) < (en : Int)) = false ∧ decide ((200 : Int) < (nn : Int)) = false ∧ decide ((20 : Int) < (fn : Int)) = false ∧ decide ((cn : Int) < 1) = true ∨
          decide ((200 : Int) < (mn : Int)) = false ∧ decide ((20 : Int) < (en : Int)) = false ∧ decide ((200 : Int) < (nn : Int)) = false ∧ decide ((20 : Int) < (fn : Int)) = false ∧ decide ((cn : Int) < 1) = false ∧ decide ((300 : Int) < (cn : Int)) = true := by
        simp; omega
      clear hl
      rcases hcase with d1 | ⟨d1, d2⟩ | ⟨d1, d2, d3⟩ | ⟨d1, d2, d3, d4⟩ | ⟨d1, d2, d3, d4, d5⟩ | ⟨d1, d2, d3, d4, d5, d6⟩
      all_goals
        go_wp2_with fail
        ((with_reducible refine (HWR.out _).mono ?_))
        rintro e w1 ⟨rfl, hb1⟩
        obtain ⟨ht1, hb1'⟩ := HX0.out w1 hb1
        have HB1 := Lib.hid hb1
        obtain ⟨⟨z0, z1, z2, z3⟩, -⟩ := pt_four' ht1.1
        obtain ⟨⟨y0, y1, y2, y3⟩, -⟩ := pt_four' ht1.2
        clear hb1 ht1 hb1'
        go_wp2_with fail
        ((with_reducible refine (HWR.out _).mono ?_))
        rintro e w2 ⟨rfl, hb2⟩
        have HB2 := Lib.hid (HX0.out w2 (bel_trans HB1.out hb2)).2
        clear hb2 z0 z1 z2 z3 y0 y1 y2 y3
        go_wp2_with fail
        go_ret
        exact ⟨rfl, HB2.out⟩
end
end Go.Proofs.YthgcjiocelcblaaGreat

namespace Go.Proofs.YthgcjiocelcblaaGreat
open Go.ChangeShapes Go.WideShapes Go.ChangeAt Go.RowKit

section
variable {H : Type} {enc : TypeId × Value → H} {W : World} {v : Value} {d : DataW H} {p : List MemPlace} {base : Nat}
theorem listP4 {α : Type} {l : List α} (h : l.length = 4) : ∃ a0 a1 a2 a3, l = [a0, a1, a2, a3] := by
  match l, h with
  | [a0, a1, a2, a3], _ => exact ⟨a0, a1, a2, a3, rfl⟩
theorem listP11 {α : Type} {l : List α} (h : l.length = 11) : ∃ a0 a1 a2 a3 a4 a5 a6 a7 a8 a9 a10, l = [a0, a1, a2, a3, a4, a5, a6, a7, a8, a9, a10] := by
  match l, h with
  | [a0, a1, a2, a3, a4, a5, a6, a7, a8, a9, a10], _ => exact ⟨a0, a1, a2, a3, a4, a5, a6, a7, a8, a9, a10, rfl⟩
set_option maxRecDepth 100000 in
theorem pt_list_in {fuel : Nat} {cs : List Value} {y : DataW H × List MemPlace} (hf : DataW.trod enc Tryz.prog W 0 (fun _ => true) true fuel 25 cs = some y) :
    ∃ (sq ba : Nat) (ma : Option Addr) (mn mc : Nat) (ml : List Nat) (ea : Option Addr) (en ec : Nat) (el : List Nat), cs = [.int .u32 (sq : Int), .int .u32 (ba : Int), .slice ma mn mc, .slice ea en ec] ∧ PT.Ok ⟨sq, ba, ma, mn, mc, ml, ea, en, ec, el⟩ W := by
  obtain ⟨n, hl, hg⟩ := fieldS_in Tryz.underlying25 hf
  have hc : Tryz.prog.cellsOf 25 = 4 := by kernel_rfl
  rw [hc] at hl
  obtain ⟨v0, v1, v2, v3, rfl⟩ := listP4 hl
  have kb : Tryz.prog.cellsOf 22 = 1 := by kernel_rfl
  have ks : Tryz.prog.cellsOf 23 = 1 := by kernel_rfl
  obtain ⟨y0, h0⟩ := hg 0 22 0 rfl
  obtain ⟨y1, h1⟩ := hg 1 22 1 rfl
  obtain ⟨y2, h2⟩ := hg 2 23 2 rfl
  obtain ⟨y3, h3⟩ := hg 3 23 3 rfl
  simp only [kb, ks, List.drop_zero, List.drop_succ_cons, List.take_succ_cons, List.take_zero] at h0 h1 h2 h3
  obtain ⟨z0, e0, _, w0⟩ := DataW.trod_int Tryz.underlying22 h0
  obtain ⟨z1, e1, _, w1⟩ := DataW.trod_int Tryz.underlying22 h1
  obtain ⟨a, la, ca, xs, rfl, i2, -⟩ := ints_in Tryz.underlying23 Tryz.underlying22 (by kernel_rfl) wfb_u32 h2
  obtain ⟨b, lb, cb, ys, rfl, i3, -⟩ := ints_in Tryz.underlying23 Tryz.underlying22 (by kernel_rfl) wfb_u32 h3
  obtain ⟨n0, rfl, l0⟩ := wfS_u32 w0
  obtain ⟨n1, rfl, l1⟩ := wfS_u32 w1
  simp only [List.cons.injEq, and_true] at e0 e1
  subst e0 e1
  exact ⟨n0, n1, a, la, ca, xs, b, lb, cb, ys, rfl, l0, l1, i2.1, i3.1⟩
set_option maxRecDepth 100000 in
theorem spoiltCase_in (hv : Value.okWide Tryz.prog W .any base 64 v) (h : DataW.Trod enc Tryz.prog W 0 (fun _ => true) true 64 v d p) :
    ∃ (x : Int) (sq ba : Nat) (ma : Option Addr) (mn mc : Nat) (ml : List Nat) (ea : Option Addr) (en ec : Nat) (el : List Nat) (tq ta : Nat) (na : Option Addr) (nn nc : Nat) (nl : List Nat) (fa : Option Addr) (fn fc : Nat) (fl : List Nat) (z : Int) (a : Option Addr) (len cap : Nat) (bs : List Nat),
      v = .agg #[.int .i64 x, .int .u32 (sq : Int), .int .u32 (ba : Int), .slice ma mn mc, .slice ea en ec, .int .u32 (tq : Int), .int .u32 (ta : Int), .slice na nn nc, .slice fa fn fc, .int .i64 z, .slice a len cap] ∧
      PT.Ok ⟨sq, ba, ma, mn, mc, ml, ea, en, ec, el⟩ W ∧ PT.Ok ⟨tq, ta, na, nn, nc, nl, fa, fn, fc, fl⟩ W ∧ InB W a len cap bs := by
  obtain ⟨cs, rfl, hsz⟩ := okWide_struct Tryz.underlying64 hv
  obtain ⟨fuel, hf⟩ := h
  have hc : Tryz.prog.cellsOf 64 = 11 := by kernel_rfl
  rw [hc] at hsz
  obtain ⟨v0, v1, v2, v3, v4, v5, v6, v7, v8, v9, v10, hl⟩ := listP11 (l := cs.toList) (by simpa using hsz)
  obtain ⟨l⟩ := cs
  simp only at hl
  subst hl
  obtain ⟨n, _, hg⟩ := fieldS_in Tryz.underlying64 hf
  have ki : Tryz.prog.cellsOf 3 = 1 := by kernel_rfl
  have kp : Tryz.prog.cellsOf 25 = 4 := by kernel_rfl
  have ks : Tryz.prog.cellsOf 28 = 1 := by kernel_rfl
  obtain ⟨y0, h0⟩ := hg 0 3 0 rfl
  obtain ⟨y1, h1⟩ := hg 1 25 1 rfl
  obtain ⟨y2, h2⟩ := hg 2 25 5 rfl
  obtain ⟨y3, h3⟩ := hg 3 3 9 rfl
  obtain ⟨y4, h4⟩ := hg 4 28 10 rfl
  simp only [Value.cells, ki, kp, ks, List.drop_zero, List.drop_succ_cons, List.take_succ_cons, List.take_zero] at h0 h1 h2 h3 h4
  obtain ⟨z0, e0, _, _⟩ := DataW.trod_int Tryz.underlying3 h0
  obtain ⟨sq, ba, ma, mn, mc, ml, ea, en, ec, el, e1, p1⟩ := pt_list_in h1
  obtain ⟨tq, ta, na, nn, nc, nl, fa, fn, fc, fl, e2, p2⟩ := pt_list_in h2
  obtain ⟨z3, e3, _, _⟩ := DataW.trod_int Tryz.underlying3 h3
  obtain ⟨a, len, cap, bs, rfl, hb⟩ := pageS_in h4
  simp only [List.cons.injEq, and_true] at e0 e1 e2 e3
  obtain ⟨rfl, rfl, rfl, rfl⟩ := e1
  obtain ⟨rfl, rfl, rfl, rfl⟩ := e2
  subst e0 e3
  exact ⟨z0, sq, ba, ma, mn, mc, ml, ea, en, ec, el, tq, ta, na, nn, nc, nl, fa, fn, fc, fl, z3, a, len, cap, bs, rfl, p1, p2, hb⟩
end
theorem pointSpoilt_all (x : Int) (sq ba : Nat) (ma : Option Addr) (mn mc : Nat) (ml : List Nat) (ea : Option Addr) (en ec : Nat) (el : List Nat) (tq ta : Nat) (na : Option Addr) (nn nc : Nat) (nl : List Nat) (fa : Option Addr) (fn fc : Nat) (fl : List Nat) (z : Int) (a : Option Addr) (len cap : Nat) (bs : List Nat) (w : World)
    (h : PT.Ok ⟨sq, ba, ma, mn, mc, ml, ea, en, ec, el⟩ w ∧ PT.Ok ⟨tq, ta, na, nn, nc, nl, fa, fn, fc, fl⟩ w ∧ InB w a len cap bs) :
    Calls Tryz.prog 6 #[.agg #[.int .i64 x, .int .u32 (sq : Int), .int .u32 (ba : Int), .slice ma mn mc, .slice ea en ec, .int .u32 (tq : Int), .int .u32 (ta : Int), .slice na nn nc, .slice fa fn fc, .int .i64 z, .slice a len cap]] w fun e w' => e = .returned (.bool true) ∧ Below w.heap.size w w' :=
  pointSpoilt_any x z h.1 h.2.1 h.2.2.1 h.2.2.2.2.2
end Go.Proofs.YthgcjiocelcblaaGreat
