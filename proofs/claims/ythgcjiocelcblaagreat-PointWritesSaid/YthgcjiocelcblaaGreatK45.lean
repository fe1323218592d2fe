/- Parts of the proof: PtAgain, PtInB, PtRefDec. -/
import Derived.Test.YthgcjiocelcblaaGreatK44
import Derived.Test.YthgcjiocelcblaaGreatK09
import Derived.Test.YthgcjiocelcblaaGreatK42
namespace Go.Proofs.YthgcjiocelcblaaGreat
open Go.RowKit Go.Deep

theorem many_small {len : Nat} (h : len ≤ 896) : manyOf 256 len ≤ 4 := by
  unfold manyOf
  omega
theorem fold_again (j sq : Nat) (A : PtD) (bb : Nat) (ml el : List Nat) (hj : j < 2) : PtD.fold (setX (setX (fun _ => PtD.zero) j A) j ⟨true, sq, bb, ml, el, sq⟩) 2 = ⟨true, sq, bb, ml, el, sq⟩ := by
  rcases (show j = 0 ∨ j = 1 by omega) with rfl | rfl
  · simp [PtD.fold, setX, PtD.step, PtD.zero]
  · simp [PtD.fold, setX, PtD.step, PtD.zero]
theorem pt_four' {W : World} {b : Nat} {v0 v1 v2 v3 : Value} {t : TypeId} (h : W.heap[b]? = some (.cells #[v0, v1, v2, v3] t (0, 0))) :
    (W.cell? ⟨b, 0, none⟩ = some v0 ∧ W.cell? ⟨b, 1, none⟩ = some v1 ∧ W.cell? ⟨b, 2, none⟩ = some v2 ∧ W.cell? ⟨b, 3, none⟩ = some v3) ∧ W.frozen? ⟨b, 0, none⟩ = false := by
  refine ⟨⟨?_, ?_, ?_, ?_⟩, ?_⟩ <;> simp [World.cell?, World.frozen?, h]
section
variable {sq ba mn mc en ec tq ta nn nc fn fc : Nat} {ma ea na fa : Option Addr} {ml el nl fl : List Nat} {w : World}
/-- The law's two boxes. -/
def TwoAt (a b : Nat) (u0 u1 u2 u3 v0 v1 v2 v3 : Value) (x : World) : Prop :=
  x.heap[a]? = some (.cells #[u0, u1, u2, u3] 25 (0, 0)) ∧ x.heap[b]? = some (.cells #[v0, v1, v2, v3] 25 (0, 0))
theorem TwoAt.step {a b B : Nat} {u0 u1 u2 u3 v0 v1 v2 v3 : Value} {x y : World} (h : TwoAt a b u0 u1 u2 u3 v0 v1 v2 v3 x) (ha : a < B) (hb : b < B) (hs : Below B x y) : TwoAt a b u0 u1 u2 u3 v0 v1 v2 v3 y :=
  ⟨(hs.block a ha).trans h.1, (hs.block b hb).trans h.2⟩
set_option maxRecDepth 100000 in
set_option maxHeartbeats 4000000 in
theorem pointAgain_any (z : Int) (hpa : PT.Ok ⟨sq, ba, ma, mn, mc, ml, ea, en, ec, el⟩ w) (hpc : PT.Ok ⟨tq, ta, na, nn, nc, nl, fa, fn, fc, fl⟩ w) :
    Calls Tryz.prog 7 #[.int .i64 z, .agg #[.int .u32 (sq : Int), .int .u32 (ba : Int), .slice ma mn mc, .slice ea en ec], .agg #[.int .u32 (tq : Int), .int .u32 (ta : Int), .slice na nn nc, .slice fa fn fc]] w fun e w' => e = .returned (.bool true) ∧ Below w.heap.size w w' := by
  obtain ⟨W0, hW0⟩ : ∃ x, x = w.alloc (.cells #[.int .u32 (sq : Int), .int .u32 (ba : Int), .slice ma mn mc, .slice ea en ec] 25) := ⟨_, rfl⟩
  obtain ⟨W, hW⟩ : ∃ x, x = W0.alloc (.cells #[.int .u32 (tq : Int), .int .u32 (ta : Int), .slice na nn nc, .slice fa fn fc] 25) := ⟨_, rfl⟩
  obtain ⟨a, ha⟩ : ∃ x, x = w.heap.size := ⟨_, rfl⟩
  have hz0 : W0.heap.size = a + 1 := by rw [hW0, ha]; simp
  have hz1 : W.heap.size = a + 2 := by rw [hW]; simp [hz0]
  have hB0 : Below w.heap.size w W0 := by rw [hW0]; exact bel_alloc (Below.refl _ _) _
  have hB1 : Below W0.heap.size W0 W := by rw [hW]; exact bel_alloc (Below.refl _ _) _
  have hB : Below w.heap.size w W := hB0.trans (hB1.mono hB0.size)
  have h0 : W.heap[a]? = some (.cells #[.int .u32 (sq : Int), .int .u32 (ba : Int), .slice ma mn mc, .slice ea en ec] 25 (0, 0)) := (hB1.block a (by omega)).trans (by rw [hW0, ha]; exact heap_alloc_new _ _)
  have h1 : W.heap[a + 1]? = some (.cells #[.int .u32 (tq : Int), .int .u32 (ta : Int), .slice na nn nc, .slice fa fn fc] 25 (0, 0)) := by rw [hW, ← hz0]; exact heap_alloc_new _ _
  have HT : Hid (TwoAt a (a + 1) (.int .u32 (sq : Int)) (.int .u32 (ba : Int)) (.slice ma mn mc) (.slice ea en ec) (.int .u32 (tq : Int)) (.int .u32 (ta : Int)) (.slice na nn nc) (.slice fa fn fc) W ∧ Below w.heap.size w W ∧ W.heap.size = a + 2 ∧ a = w.heap.size) := Lib.hid ⟨⟨h0, h1⟩, hB, hz1, ha⟩
  have HWR := Lib.hid written_any
  have HPA := Lib.hid (fun (x : World) (hx : Below w.heap.size w x) => hpa.step hx)
  have HPC : Hid (∀ x : World, Below w.heap.size w x → PT.Ok ⟨sq, ta, na, nn, nc, nl, fa, fn, fc, fl⟩ x) := Lib.hid fun x hx => ⟨hpa.sq_, hpc.ba_, (hpc.step hx).ml_, (hpc.step hx).el_⟩
  clear hpa hpc hz0 hz1 hB0 hB1 hB h0 h1
  by_cases hl : mn ≤ 200 ∧ en ≤ 20 ∧ nn ≤ 200 ∧ fn ≤ 20
  · obtain ⟨l1, l2, l3, l4⟩ := hl
    have d1 : decide ((200 : Int) < (mn : Int)) = false := by simp; omega
    have d2 : decide ((20 : Int) < (en : Int)) = false := by simp; omega
    have d3 : decide ((200 : Int) < (nn : Int)) = false := by simp; omega
    have d4 : decide ((20 : Int) < (fn : Int)) = false := by simp; omega
    have HN := Lib.hid (And.intro l1 (And.intro l2 (And.intro l3 l4)))
    clear l1 l2 l3 l4
    go_enter Tryz.func7, Tryz.ntmps7
    go_upto_region 1 with fail
    rw [← hW0, ← hW, ← ha]
    clear hW0 hW ha
    go_wp2_with fail
    ((with_reducible refine (HWR.out _).mono ?_))
    rintro e w1 ⟨rfl, hb1⟩
    have ht1 := HT.out.1.step (show a < W.heap.size by have := HT.out.2.2.1; omega) (show a + 1 < W.heap.size by have := HT.out.2.2.1; omega) hb1
    have HT1 : Hid (TwoAt a (a + 1) (.int .u32 (sq : Int)) (.int .u32 (ba : Int)) (.slice ma mn mc) (.slice ea en ec) (.int .u32 (tq : Int)) (.int .u32 (ta : Int)) (.slice na nn nc) (.slice fa fn fc) w1 ∧ Below w.heap.size w w1 ∧ a + 2 ≤ w1.heap.size ∧ a = w.heap.size) := Lib.hid ⟨ht1, HT.out.2.1.trans (hb1.mono HT.out.2.1.size), by have := HT.out.2.2.1; have := hb1.size; omega, HT.out.2.2.2⟩
    obtain ⟨⟨z0, z1, z2, z3⟩, -⟩ := pt_four' ht1.1
    obtain ⟨⟨y0, y1, y2, y3⟩, -⟩ := pt_four' ht1.2
    clear hb1 ht1
    go_wp2_with fail
    ((with_reducible refine (ptShape_any z w1).mono ?_))
    rintro e w2 ⟨rfl, hb2⟩
    have hn35 := ptG_in z
    obtain ⟨n, hn⟩ : ∃ n, n = ptG z := ⟨_, rfl⟩
    rw [← hn] at hn35 ⊢
    have HN5 : Hid (3 ≤ n ∧ n ≤ 5) := Lib.hid ⟨hn35.1, hn35.2.1⟩
    have HNEW : Hid (Calls Tryz.prog 20 #[.agg #[.int .i64 (n : Int), .int .i64 20, .int .i64 6, .int .i64 256]] w2 (NewRet n 20 6 256 w2)) := Lib.hid (ramNew_any n 20 6 256 w2 (ptGood n HN5.out))
    have HT2 : Hid (TwoAt a (a + 1) (.int .u32 (sq : Int)) (.int .u32 (ba : Int)) (.slice ma mn mc) (.slice ea en ec) (.int .u32 (tq : Int)) (.int .u32 (ta : Int)) (.slice na nn nc) (.slice fa fn fc) w2 ∧ Below w.heap.size w w2 ∧ a + 2 ≤ w2.heap.size ∧ a = w.heap.size) := Lib.hid ⟨HT1.out.1.step (by have := HT1.out.2.2.1; omega) (by have := HT1.out.2.2.1; omega) hb2, HT1.out.2.1.trans (hb2.mono HT1.out.2.1.size), Nat.le_trans HT1.out.2.2.1 hb2.size, HT1.out.2.2.2⟩
    clear hb2 hn35 hn z0 z1 z2 z3 y0 y1 y2 y3
    go_wp2_with fail
    ((with_reducible refine HNEW.out.mono ?_))
    rintro e w3 ⟨rb, pb, gb, rfl, hr, hb3⟩
    have ht3 := HT2.out.1.step (by have := HT2.out.2.2.1; omega) (by have := HT2.out.2.2.1; omega) hb3
    have hr4 : Ram w2.heap.size (rsNew rb pb gb n 20 6 256) (w3.setCell ⟨a + 1, 0, none⟩ (.int .u32 (sq : Int))) := hr.keep (fun k _ hk => heap_setCell_other w3 ⟨a + 1, 0, none⟩ k _ (by
      have hlo := hr.low
      have h2 := HT2.out.2.2.1
      show k ≠ a + 1
      rcases hk with e | e | e | e
      · omega
      · omega
      · omega
      · cases e)) (fun k p hk hF => by cases hF)
    have ht4 : TwoAt a (a + 1) (.int .u32 (sq : Int)) (.int .u32 (ba : Int)) (.slice ma mn mc) (.slice ea en ec) (.int .u32 (sq : Int)) (.int .u32 (ta : Int)) (.slice na nn nc) (.slice fa fn fc) (w3.setCell ⟨a + 1, 0, none⟩ (.int .u32 (sq : Int))) := ⟨(heap_setCell_other w3 ⟨a + 1, 0, none⟩ a _ (by show a ≠ a + 1; omega)).trans ht3.1, by simpa using heap_setCell_same w3 (a + 1) 0 _ _ (.int .u32 (sq : Int)) ht3.2⟩
    have hb4 : Below w.heap.size w (w3.setCell ⟨a + 1, 0, none⟩ (.int .u32 (sq : Int))) := (HT2.out.2.1.trans (hb3.mono HT2.out.2.1.size)).setCell (p := ⟨a + 1, 0, none⟩) (by have := HT2.out.2.2.2; show w.heap.size ≤ a + 1; omega) _
    obtain ⟨⟨z0, z1, z2, z3⟩, -⟩ := pt_four' ht3.1
    obtain ⟨⟨y0, y1, y2, y3⟩, yf⟩ := pt_four' ht3.2
    have hs4 : w2.heap.size ≤ (w3.setCell ⟨a + 1, 0, none⟩ (.int .u32 (sq : Int))).heap.size := by simpa using hb3.size
    go_upto_region 5 with fail
    obtain ⟨w4, hw4⟩ : ∃ x, x = w3.setCell ⟨a + 1, 0, none⟩ (.int .u32 (sq : Int)) := ⟨_, rfl⟩
    rw [← hw4] at hr4 ht4 hb4 hs4
    rw [← hw4]
    obtain ⟨B, hBB⟩ : ∃ B, B = w2.heap.size := ⟨_, rfl⟩
    rw [← hBB] at hr4 hs4
    have HB : Hid (a + 2 ≤ B ∧ a = w.heap.size ∧ w.heap.size ≤ B) := Lib.hid ⟨by rw [hBB]; exact HT2.out.2.2.1, HT2.out.2.2.2, by have h1 := HT2.out.2.2.1; have h2 := HT2.out.2.2.2; omega⟩
    have hrb : (rsNew rb pb gb n 20 6 256).rb = rb := rfl
    have hm4 := mem2_new hr4 hs4 HN5.out
    obtain ⟨s, hs⟩ : ∃ s, s = rsNew rb pb gb n 20 6 256 := ⟨_, rfl⟩
    rw [← hs] at hm4 hrb
    subst hrb
    have HX : Hid (∀ x : World, Below B w4 x → TwoAt a (a + 1) (.int .u32 (sq : Int)) (.int .u32 (ba : Int)) (.slice ma mn mc) (.slice ea en ec) (.int .u32 (sq : Int)) (.int .u32 (ta : Int)) (.slice na nn nc) (.slice fa fn fc) x ∧ Below w.heap.size w x) := Lib.hid fun x hx => ⟨ht4.step (by have := HB.out.1; omega) (by have := HB.out.1; omega) hx, hb4.trans (hx.mono HB.out.2.2)⟩
    have HM4 := Lib.hid hm4
    have hpa4 := HPA.out w4 hb4
    have h200 := HN.out
    have hml := hpa4.ml_.1
    have hel := hpa4.el_.1
    simp only [] at hml hel
    have HW1 := Lib.hid (mem2_write hm4 (by omega) sq ba ma mn mc ml ea en ec el hpa4 (by omega) (by omega) (Nat.le_trans (many_small (by omega)) (by have := HN5.out; omega)))
    obtain ⟨⟨z0, z1, z2, z3⟩, -⟩ := pt_four' ht4.1
    clear hr hb3 ht3 hr4 ht4 hb4 hs4 hw4 hBB hs hm4 hpa4 h200 hml hel y0 y1 y2 y3 yf
    go_wp2_with fail
    ((with_reducible refine HW1.out.mono ?_))
    rintro e w5 ⟨s5, rfl, hm5, hst5⟩
    have HC5 := Lib.hid (HM4.out.below hst5)
    obtain ⟨ht5, hb5⟩ := HX.out w5 HC5.out
    obtain ⟨hrb5, -⟩ := hst5.same
    rw [← hrb5]
    have HM5 := Lib.hid hm5
    have hpc5 := HPC.out w5 hb5
    have h200 := HN.out
    have hml := hpc5.ml_.1
    have hel := hpc5.el_.1
    simp only [] at hml hel
    have HW2 := Lib.hid (mem2_write hm5 (by omega) sq ta na nn nc nl fa fn fc fl hpc5 (by omega) (by omega) (Nat.le_trans (many_small (by omega)) (by have := HN5.out; omega)))
    obtain ⟨⟨y0, y1, y2, y3⟩, -⟩ := pt_four' ht5.2
    clear hst5 ht5 hb5 hrb5 hm5 hpc5 h200 hml hel z0 z1 z2 z3
    go_wp2_with fail
    ((with_reducible refine HW2.out.mono ?_))
    rintro e w6 ⟨s6, rfl, hm6, hst6⟩
    have HC6 := Lib.hid (HC5.out.trans (HM5.out.below hst6))
    obtain ⟨hrb6, -⟩ := hst6.same
    rw [← hrb6]
    have hla := mem2_last hm6
    rw [fold_again _ _ _ _ _ _ (Nat.mod_lt _ (by decide))] at hla
    have HLA := Lib.hid hla
    have HSZ6 := Lib.hid hm6.hB
    clear hst6 hrb6 hm6 hla y0 y1 y2 y3
    go_wp2_with fail
    ((with_reducible refine HLA.out.mono ?_))
    rintro e w7 ⟨hb7, v1, v2, rfl, ho1, ho2⟩
    obtain ⟨qa, qc, rfl, hq1⟩ := ownU_row ho1 (HPC.out w (Below.refl _ _)).ml_.2.1
    obtain ⟨ra, rc, rfl, hq2⟩ := ownU_row ho2 (HPC.out w (Below.refl _ _)).el_.2.1
    have hnl := (HPC.out w (Below.refl _ _)).ml_.1
    have hfl := (HPC.out w (Below.refl _ _)).el_.1
    simp only [] at hnl hfl
    rw [hnl] at hq1 ⊢
    rw [hfl] at hq2 ⊢
    have hpq7 : PT.Ok ⟨sq, ta, qa, nn, qc, nl, ra, fn, rc, fl⟩ w7 := ⟨(HPC.out w (Below.refl _ _)).sq_, (HPC.out w (Below.refl _ _)).ba_, hq1, hq2⟩
    have hc7 : Below B w4 w7 := HC6.out.trans (hb7.mono HSZ6.out)
    obtain ⟨W8, hW8⟩ : ∃ x, x = w7.alloc (.cells #[.int .u32 (sq : Int), .int .u32 (ta : Int), .slice qa nn qc, .slice ra fn rc] 25) := ⟨_, rfl⟩
    obtain ⟨qb, hqb⟩ : ∃ x, x = w7.heap.size := ⟨_, rfl⟩
    have hb8 : Below w7.heap.size w7 W8 := by rw [hW8]; exact bel_alloc (Below.refl _ _) _
    have hq8 : W8.heap[qb]? = some (.cells (pCs sq ta (.slice qa nn qc) (.slice ra fn rc)) 25 (0, 0)) := by rw [hW8, hqb]; exact heap_alloc_new _ _
    have hql : qb < W8.heap.size := (Array.getElem?_eq_some_iff.1 hq8).1
    have hB7 : B ≤ w7.heap.size := Nat.le_trans HSZ6.out hb7.size
    have hc8 : Below B w4 W8 := hc7.trans (hb8.mono hB7)
    have HY : Hid (∀ x : World, Below W8.heap.size W8 x → (x.cell? ⟨a, 0, none⟩ = some (.int .u32 (sq : Int)) ∧ (x.cell? ⟨a + 1, 0, none⟩ = some (.int .u32 (sq : Int)) ∧ x.cell? ⟨a + 1, 1, none⟩ = some (.int .u32 (ta : Int)) ∧ x.cell? ⟨a + 1, 2, none⟩ = some (.slice na nn nc) ∧ x.cell? ⟨a + 1, 3, none⟩ = some (.slice fa fn fc)) ∧
        (x.cell? ⟨qb, 0, none⟩ = some (.int .u32 (sq : Int)) ∧ x.cell? ⟨qb, 1, none⟩ = some (.int .u32 (ta : Int)) ∧ x.cell? ⟨qb, 2, none⟩ = some (.slice qa nn qc) ∧ x.cell? ⟨qb, 3, none⟩ = some (.slice ra fn rc))) ∧ Below w.heap.size w x ∧ PT.Ok ⟨sq, ta, na, nn, nc, nl, fa, fn, fc, fl⟩ x ∧ PT.Ok ⟨sq, ta, qa, nn, qc, nl, ra, fn, rc, fl⟩ x) := Lib.hid fun x hx => by
      obtain ⟨h1, h2⟩ := HX.out x (hc8.trans (hx.mono (Nat.le_trans hB7 hb8.size)))
      exact ⟨⟨(pt_four' h1.1).1.1, (pt_four' h1.2).1, (pt4_at ((hx.block qb hql).trans hq8)).1⟩, h2, HPC.out x h2, (hpq7.step hb8).step hx⟩
    have HOP : Hid (∀ x : World, Below W8.heap.size W8 x → _) := Lib.hid fun x hx => ptOf_any sq ta qa nn qc nl ra fn rc fl x (HY.out x hx).2.2.2 (by have := HN.out; omega) (by have := HN.out; omega)
    have HOQ : Hid (∀ x : World, Below W8.heap.size W8 x → _) := Lib.hid fun x hx => ptOf_any sq ta na nn nc nl fa fn fc fl x (HY.out x hx).2.2.1 (by have := HN.out; omega) (by have := HN.out; omega)
    have HPO := Lib.hid (And.intro (HPC.out w (Below.refl _ _)).sq_ (HPC.out w (Below.refl _ _)).ba_)
    have HB0 : Hid (Below W8.heap.size W8 W8.drew) := Lib.hid (Below.refl _ _).drew
    have hS0 := (HY.out _ HB0.out).1
    go_upto_region 8 with fail
    rw [← hW8, ← hqb]
    clear hW8 hqb hb7 ho1 ho2 hq1 hq2 hnl hfl hpq7 hc7 hb8 hq8 hql hB7 hc8 d1 d2 d3 d4
    go_region_held3 (fun x => (x.cell? ⟨a, 0, none⟩ = some (.int .u32 (sq : Int)) ∧ (x.cell? ⟨a + 1, 0, none⟩ = some (.int .u32 (sq : Int)) ∧ x.cell? ⟨a + 1, 1, none⟩ = some (.int .u32 (ta : Int)) ∧ x.cell? ⟨a + 1, 2, none⟩ = some (.slice na nn nc) ∧ x.cell? ⟨a + 1, 3, none⟩ = some (.slice fa fn fc)) ∧
        (x.cell? ⟨qb, 0, none⟩ = some (.int .u32 (sq : Int)) ∧ x.cell? ⟨qb, 1, none⟩ = some (.int .u32 (ta : Int)) ∧ x.cell? ⟨qb, 2, none⟩ = some (.slice qa nn qc) ∧ x.cell? ⟨qb, 3, none⟩ = some (.slice ra fn rc))))
      (first | with_reducible exact hS0 | with_reducible exact hS1 | with_reducible exact hS2 | with_reducible exact hS3)
      (first
        | (go_simp; go_at_call 15; ((with_reducible refine (HOP.out _ HB0.out).mono ?_)); (rintro e x1 ⟨a5, c5, a6, c6, rfl, hk5, hk6, hb5⟩; have HC1 := Lib.hid (HB0.out.trans (hb5.mono HB0.out.size)); have HK5 := Lib.hid (And.intro hk5 hk6); have hS1 := (HY.out _ HC1.out).1; clear hk5 hk6 hb5))
        | (go_simp; go_at_call 15; ((with_reducible refine (HOQ.out _ HC1.out).mono ?_)); (rintro e x2 ⟨a7, c7, a8, c8, rfl, hk7, hk8, hb6⟩; have HC2 := Lib.hid (HC1.out.trans (hb6.mono HC1.out.size)); have HK6 := Lib.hid (And.intro (And.intro (rowK_below HK5.out.1 hb6) (rowK_below HK5.out.2 hb6)) (And.intro hk7 hk8)); have hS2 := (HY.out _ HC2.out).1; clear hk7 hk8 hb6))
        | (go_simp; go_at_call 16; ((with_reducible refine (ptSame_any sq ta _ nn _ nl _ fn _ fl _ _ _ _ _ HPO.out.1 HPO.out.2 HK6.out.1.1 HK6.out.1.2 HK6.out.2.1 HK6.out.2.2 (by have := HN.out; omega) (by have := HN.out; omega)).mono ?_)); (rintro e x3 ⟨rfl, hb7'⟩; have HC3 := Lib.hid (HC2.out.trans (hb7'.mono HC2.out.size)); have hS3 := (HY.out _ HC3.out).1; clear hb7')))
    all_goals
      go_wp2
      go_ret
      exact ⟨rfl, (HY.out _ HC3.out).2.1⟩
  · have hcase : decide ((200 : Int) < (mn : Int)) = true ∨ decide ((200 : Int) < (mn : Int)) = false ∧ decide ((20 : Int) < (en : Int)) = true ∨ decide ((200 : Int) < (mn : Int)) = false ∧ decide ((20 : Int) < (en : Int)) = false ∧ decide ((200 : Int) < (nn : Int)) = true ∨ decide ((200 : Int) < (mn : Int)) = false ∧ decide ((20 : Int) < (en : Int)) = false ∧ decide ((200 : Int) < (nn : Int)) = false ∧ decide ((20 : Int) < (fn : Int)) = true := by
      simp; omega
    clear hl
    have HX : Hid (∀ x : World, Below W.heap.size W x → Below w.heap.size w x) := Lib.hid fun x hx => HT.out.2.1.trans (hx.mono HT.out.2.1.size)
    rcases hcase with d1 | ⟨d1, d2⟩ | ⟨d1, d2, d3⟩ | ⟨d1, d2, d3, d4⟩
    all_goals
      go_enter Tryz.func7, Tryz.ntmps7
      go_upto_region 1 with fail
      rw [← hW0, ← hW, ← ha]
      clear hW0 hW ha
      go_wp2_with fail
      ((with_reducible refine (HWR.out _).mono ?_))
      rintro e w1 ⟨rfl, hb1⟩
      have HB1 := Lib.hid hb1
      have ht1 := HT.out.1.step (show a < W.heap.size by have := HT.out.2.2.1; omega) (show a + 1 < W.heap.size by have := HT.out.2.2.1; omega) hb1
      obtain ⟨⟨z0, z1, z2, z3⟩, -⟩ := pt_four' ht1.1
      obtain ⟨⟨y0, y1, y2, y3⟩, -⟩ := pt_four' ht1.2
      clear hb1 ht1
      go_wp2_with fail
      ((with_reducible refine (HWR.out _).mono ?_))
      rintro e w2 ⟨rfl, hb2⟩
      have HB2 := Lib.hid (HX.out w2 (bel_trans HB1.out hb2))
      clear hb2 z0 z1 z2 z3 y0 y1 y2 y3
      go_wp2_with fail
      go_ret
      exact ⟨rfl, HB2.out⟩
end
end Go.Proofs.YthgcjiocelcblaaGreat

namespace Go.Proofs.YthgcjiocelcblaaGreat
open Go.RowKit

theorem pointAgain_all (z : Int) (sq ba : Nat) (ma : Option Addr) (mn mc : Nat) (ml : List Nat) (ea : Option Addr) (en ec : Nat) (el : List Nat) (tq ta : Nat) (na : Option Addr) (nn nc : Nat) (nl : List Nat) (fa : Option Addr) (fn fc : Nat) (fl : List Nat) (w : World) (_ : (Lit.int .i64 z).wf = true) (hp : PT.Ok ⟨sq, ba, ma, mn, mc, ml, ea, en, ec, el⟩ w) (hq : PT.Ok ⟨tq, ta, na, nn, nc, nl, fa, fn, fc, fl⟩ w) :
    Calls Tryz.prog 7 #[.int .i64 z, .agg #[.int .u32 (sq : Int), .int .u32 (ba : Int), .slice ma mn mc, .slice ea en ec], .agg #[.int .u32 (tq : Int), .int .u32 (ta : Int), .slice na nn nc, .slice fa fn fc]] w fun e w' => e = .returned (.bool true) ∧ Below w.heap.size w w' :=
  pointAgain_any z hp hq
end Go.Proofs.YthgcjiocelcblaaGreat

namespace Go.Proofs.YthgcjiocelcblaaGreat
open Go.RowKit

def ptNoneR : Value := .tuple #[.agg #[.int .i64 0, .int .i64 0, .slice none 0 0, .slice none 0 0], .int .i64 62]
theorem four_set {x : World} {b : Nat} {cs : Array Value} {t : TypeId} (h : x.heap[b]? = some (.cells cs t (0, 0))) (o : Nat) : x.frozen? ⟨b, o, none⟩ = false := pt_free h o
set_option maxRecDepth 100000 in
set_option maxHeartbeats 2000000 in
theorem ptRefDec_short (a : Option Addr) (n c : Nat) (w : World) (h : n < 16) :
    Calls Tryz.prog 17 #[.slice a n c] w fun e w' => e = .returned ptNoneR ∧ Below w.heap.size w w' := by
  have t1 : decide ((n : Int) < 16) = true := by simp; omega
  have t1' : decide (n < 16) = true := by simp; omega
  clear h
  go_enter Tryz.func17, Tryz.ntmps17
  go_wp2
  exact bodyPost_ret (v := ptNoneR) (by simp [ptNoneR, results, Tryz.results17, go_sem]) rfl ⟨rfl, bel_alloc (Below.refl _ _) _⟩
set_option maxRecDepth 100000 in
set_option maxHeartbeats 4000000 in
theorem ptRefDec_many (a : Option Addr) (n c : Nat) (bs : List Nat) (w : World) (hr : Row w a n bs) (hn : n ≤ 100000) (h : 16 ≤ n) (hk : n < 16 + 4 * (ptN bs 2 + ptN bs 3)) :
    Calls Tryz.prog 17 #[.slice a n c] w fun e w' => e = .returned ptNoneR ∧ Below w.heap.size w w' := by
  have t1 : decide ((n : Int) < 16) = false := by simp; omega
  have t1' : decide (n < 16) = false := by simp; omega
  have hlt : ∀ k, ptN bs k < 4294967296 := fun k => by
    unfold ptN
    have h1 := leVal_lt ((bs.drop (4 * k)).take 4) (fun y hy => hr.2.1 y (List.mem_of_mem_drop (List.mem_of_mem_take hy)))
    have h2 : ((bs.drop (4 * k)).take 4).length ≤ 4 := by rw [List.length_take]; exact Nat.min_le_left _ _
    exact Nat.lt_of_lt_of_le h1 (Nat.pow_le_pow_right (by decide) h2 : 256 ^ _ ≤ 256 ^ 4)
  have HN : Hid (∀ (x : World) (k : Nat), Below w.heap.size w x → k < 4 → Calls Tryz.prog 33 #[.slice a n c, .int .i64 ((4 * k : Nat) : Int), .int .i64 4] x fun e w' => e = .returned (.int .u64 (ptN bs k : Int)) ∧ w' = x) :=
    Lib.hid fun x k hx hk => numR_any a n c bs (4 * k) 4 x (row_keep hr hx (Nat.le_refl _)) (by omega) hn (by omega)
  have l0 := hlt 0
  have l1 := hlt 1
  have l2 := hlt 2
  have l3 := hlt 3
  obtain ⟨sq, e0⟩ : ∃ y, ptN bs 0 = y := ⟨_, rfl⟩
  obtain ⟨ba, e1⟩ : ∃ y, ptN bs 1 = y := ⟨_, rfl⟩
  obtain ⟨mn, e2⟩ : ∃ y, ptN bs 2 = y := ⟨_, rfl⟩
  obtain ⟨en, e3⟩ : ∃ y, ptN bs 3 = y := ⟨_, rfl⟩
  have HN0 : Hid (∀ x : World, Below w.heap.size w x → Calls Tryz.prog 33 #[.slice a n c, .int .i64 0, .int .i64 4] x fun e w' => e = .returned (.int .u64 (sq : Int)) ∧ w' = x) := Lib.hid fun x hx => by
    have := HN.out x 0 hx (by omega)
    rw [e0] at this
    exact this
  have HN1 : Hid (∀ x : World, Below w.heap.size w x → Calls Tryz.prog 33 #[.slice a n c, .int .i64 4, .int .i64 4] x fun e w' => e = .returned (.int .u64 (ba : Int)) ∧ w' = x) := Lib.hid fun x hx => by
    have := HN.out x 1 hx (by omega)
    rw [e1] at this
    exact this
  have HN2 : Hid (∀ x : World, Below w.heap.size w x → Calls Tryz.prog 33 #[.slice a n c, .int .i64 8, .int .i64 4] x fun e w' => e = .returned (.int .u64 (mn : Int)) ∧ w' = x) := Lib.hid fun x hx => by
    have := HN.out x 2 hx (by omega)
    rw [e2] at this
    exact this
  have HN3 : Hid (∀ x : World, Below w.heap.size w x → Calls Tryz.prog 33 #[.slice a n c, .int .i64 12, .int .i64 4] x fun e w' => e = .returned (.int .u64 (en : Int)) ∧ w' = x) := Lib.hid fun x hx => by
    have := HN.out x 3 hx (by omega)
    rw [e3] at this
    exact this
  rw [e2, e3] at hk
  rw [e0] at l0
  rw [e1] at l1
  rw [e2] at l2
  rw [e3] at l3
  have m0 : IntKind.i64.wrap (sq : Int) = (sq : Int) := by rw [IntKind.wrap_i64]; omega
  have m1 : IntKind.i64.wrap (ba : Int) = (ba : Int) := by rw [IntKind.wrap_i64]; omega
  obtain ⟨s, hs⟩ : ∃ y, mn + en = y := ⟨_, rfl⟩
  have s1 : (mn : Int) + (en : Int) = (s : Int) := by omega
  have m2 : IntKind.u64.wrap (s : Int) = (s : Int) := by rw [IntKind.wrap_u64]; omega
  obtain ⟨s4, hs4⟩ : ∃ y, 4 * s = y := ⟨_, rfl⟩
  have s2 : 4 * (s : Int) = (s4 : Int) := by omega
  have m3 : IntKind.u64.wrap (s4 : Int) = (s4 : Int) := by rw [IntKind.wrap_u64]; omega
  obtain ⟨r, hr2⟩ : ∃ y, n - 16 = y := ⟨_, rfl⟩
  have s3 : (n : Int) - 16 = (r : Int) := by omega
  have m4 : IntKind.i64.wrap (r : Int) = (r : Int) := by rw [IntKind.wrap_i64]; omega
  have m5 : IntKind.u64.wrap (r : Int) = (r : Int) := by rw [IntKind.wrap_u64]; omega
  have t2 : decide ((r : Int) < (s4 : Int)) = true := by simp; omega
  have t2' : decide (r < s4) = true := by simp; omega
  have hB0 := Below.refl w.heap.size w
  clear hr hn h hk hlt l0 l1 l2 l3 e0 e1 e2 e3 hs hs4 hr2 HN
  go_enter Tryz.func17, Tryz.ntmps17
  go_wp2_with fail
  ((with_reducible refine (HN0.out _ (bel_alloc hB0 _)).mono ?_))
  rintro e y ⟨rfl, rfl⟩
  go_wp2_with fail
  ((with_reducible refine (HN1.out _ (bel_alloc hB0 _)).mono ?_))
  rintro e y ⟨rfl, rfl⟩
  go_wp2_with fail
  ((with_reducible refine (HN2.out _ (bel_alloc (bel_alloc hB0 _) _)).mono ?_))
  rintro e y ⟨rfl, rfl⟩
  go_wp2_with fail
  ((with_reducible refine (HN3.out _ (bel_alloc (bel_alloc hB0 _) _)).mono ?_))
  rintro e y ⟨rfl, rfl⟩
  go_wp2_with fail
  exact bodyPost_ret (v := ptNoneR) (by simp [ptNoneR, results, Tryz.results17, go_sem]) rfl ⟨rfl, bel_alloc (bel_alloc (Below.refl _ _) _) _⟩
end Go.Proofs.YthgcjiocelcblaaGreat
