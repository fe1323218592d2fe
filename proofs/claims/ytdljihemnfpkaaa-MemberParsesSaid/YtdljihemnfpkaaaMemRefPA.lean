/- gabionref12.Parse of any bytes: its body, way A. -/
import Derived.Test.YtdljihemnfpkaaaMemRefP
namespace Go.Proofs.Ytdljihemnfpkaaa
open Go.RowKit Go.Deep

set_option maxRecDepth 100000 in
set_option maxHeartbeats 16000000 in
theorem refPar_bodyA (ep ba ix ct bl mo n : Nat) (a2 : Option Addr) (cap c2 : Nat) (w : World) (_hn16 : n ≤ 16) (da off : Nat) (D : List Nat) (hD : Row w (some ⟨da, off, none⟩) 256 D) (hcap : 256 ≤ cap ∧ cap ≤ maxLen) (nn : Nat) (hnn : nn = D.getD 4 0) (hl : 14 + nn ≤ 256) (hV : ¬ (twoP D 3 = 20 ∧ twoP D 5 = 6 ∧ twoP D 7 = 256)) (HOP : Hid (∀ x : World, Below w.heap.size w x → Calls Try.prog 33 #[.slice (some ⟨da, off, none⟩) 256 cap, .slice a2 64 c2] x fun e w' => e = .returned (.tuple #[.agg #[.int .i64 2, .int .i64 (ep : Int), .int .i64 (ba : Int), .int .i64 (ix : Int), .int .i64 (ct : Int), .int .i64 (bl : Int), .int .i64 (mo : Int)], .bool true]) ∧ Below x.heap.size x w')) (Q : Ending → World → Prop)
    (HQ0 : Hid (∀ e w', ¬ (okP D = true ∧ (twoP D 3 = 20 ∧ twoP D 5 = 6 ∧ twoP D 7 = 256) ∧ sqP D = ep ∧ setOk n 20 (intsN (chP D)) (atP D 0 : Int) (atP D 1 : Int) (atP D 2 : Int)) → RefParRet w 0 [] 0 0 0 62 e w' → Q e w'))
    (_HQ1 : Hid (∀ e w', (okP D = true ∧ (twoP D 3 = 20 ∧ twoP D 5 = 6 ∧ twoP D 7 = 256) ∧ sqP D = ep ∧ setOk n 20 (intsN (chP D)) (atP D 0 : Int) (atP D 1 : Int) (atP D 2 : Int)) → RefParRet w (sqP D) (chP D) (atP D 0) (atP D 1) (atP D 2) 0 e w' → Q e w')) : Calls Try.prog 16 #[.agg #[.int .i64 (n : Int), .int .i64 20, .int .i64 6, .int .i64 256], .slice (some ⟨da, off, none⟩) 256 cap, .slice a2 64 c2] w Q := by
  have hDb : ∀ x ∈ D, x < 256 := hD.2.1
  have hDl : D.length = 256 := hD.1
  have HDB := Lib.hid hDb
  have HDL := Lib.hid hDl
  have hn2 : nn < 256 := by rw [hnn]; exact getD_lt hDb 4
  have t1 : decide ((256 : Int) < 14 + (nn : Int)) = false := by simp; omega
  have t1' : decide (256 < 14 + nn) = false := by simp; omega
  have HNN := Lib.hid hnn
  have HLL := Lib.hid hl
  have HVV := Lib.hid hV
  clear hDb hDl hV
  go_enter Try.func16, Try.ntmps16
  go_upto_region 1 with fail
  obtain ⟨w0, hw0⟩ : ∃ x, x = (w.alloc (.cells #[.int .i64 (n : Int), .int .i64 20, .int .i64 6, .int .i64 256] 27)).alloc (.cells #[.int .i64 0, .slice none 0 0, .int .i64 0, .int .i64 0, .int .i64 0] 42) := ⟨_, rfl⟩
  obtain ⟨b, hb⟩ : ∃ x, x = w.heap.size := ⟨_, rfl⟩
  obtain ⟨g0, r0, hbq, _⟩ := geoBox_new w #[.int .i64 (n : Int), .int .i64 20, .int .i64 6, .int .i64 256] #[.int .i64 0, .slice none 0 0, .int .i64 0, .int .i64 0, .int .i64 0] 27 42
  rw [← hw0, ← hb] at g0 r0
  rw [← hw0] at hbq
  rw [← hw0, ← hb]
  have HB0 : Hid (Below w.heap.size w w0) := Lib.hid hbq
  have HBB := Lib.hid hb
  have G0 := Lib.hid (And.intro g0 r0)
  clear hw0 hb g0 r0 hbq
  go_wp2_with fail
  ((with_reducible refine (HOP.out _ HB0.out).mono ?_))
  rintro e w1 ⟨rfl, hb1⟩
  have G1 : Hid (w1.heap[b]? = some (.cells #[.int .i64 (n : Int), .int .i64 20, .int .i64 6, .int .i64 256] 27 (0, 0)) ∧ w1.heap[b + 1]? = some (.cells #[.int .i64 0, .slice none 0 0, .int .i64 0, .int .i64 0, .int .i64 0] 42 (0, 0))) := Lib.hid ⟨(hb1.block _ (Array.getElem?_eq_some_iff.1 G0.out.1).1).trans G0.out.1, (hb1.block _ (Array.getElem?_eq_some_iff.1 G0.out.2).1).trans G0.out.2⟩
  have HB1 : Hid (Below w.heap.size w w1) := Lib.hid (bel_trans HB0.out hb1)
  clear hb1 G0 HB0 HOP
  go_upto_region 4 with fail
  have h2 := heap_alloc_new w1 (.cells #[.int .i64 2, .int .i64 (ep : Int), .int .i64 (ba : Int), .int .i64 (ix : Int), .int .i64 (ct : Int), .int .i64 (bl : Int), .int .i64 (mo : Int)] 77)
  have hb2 := bel_alloc (Below.refl w1.heap.size w1) (.cells #[.int .i64 2, .int .i64 (ep : Int), .int .i64 (ba : Int), .int .i64 (ix : Int), .int .i64 (ct : Int), .int .i64 (bl : Int), .int .i64 (mo : Int)] 77)
  obtain ⟨w2, hw2⟩ : ∃ x, x = w1.alloc (.cells #[.int .i64 2, .int .i64 (ep : Int), .int .i64 (ba : Int), .int .i64 (ix : Int), .int .i64 (ct : Int), .int .i64 (bl : Int), .int .i64 (mo : Int)] 77) := ⟨_, rfl⟩
  obtain ⟨hbk, hhb⟩ : ∃ x, x = w1.heap.size := ⟨_, rfl⟩
  rw [← hw2] at h2 hb2 ⊢
  rw [← hhb] at h2 ⊢
  have H2 := Lib.hid h2
  have G2 : Hid (w2.heap[b]? = some (.cells #[.int .i64 (n : Int), .int .i64 20, .int .i64 6, .int .i64 256] 27 (0, 0)) ∧ w2.heap[b + 1]? = some (.cells #[.int .i64 0, .slice none 0 0, .int .i64 0, .int .i64 0, .int .i64 0] 42 (0, 0))) := Lib.hid ⟨(hb2.block _ (Array.getElem?_eq_some_iff.1 G1.out.1).1).trans G1.out.1, (hb2.block _ (Array.getElem?_eq_some_iff.1 G1.out.2).1).trans G1.out.2⟩
  have HB2 : Hid (Below w.heap.size w w2) := Lib.hid (bel_trans HB1.out hb2)
  clear h2 hb2 hw2 hhb G1 HB1
  have hc4 : w2.cell? ⟨da, off + 4, none⟩ = some (.int .u8 (nn : Int)) := by
    obtain ⟨b', o', e, hc⟩ := (row_keep hD HB2.out (Nat.le_refl _)).2.2 (by omega)
    cases e
    rw [hc 4 (by omega), hnn]
  have m4 : IntKind.i64.wrap (nn : Int) = (nn : Int) := by rw [IntKind.wrap_i64]; omega
  clear hnn
  have HDR : Hid (∀ x, Below w.heap.size w x → Row x (some ⟨da, off, none⟩) 256 D) := Lib.hid fun x hx => row_keep hD hx (Nat.le_refl _)
  clear hD hl
  go_wp2_with fail
  refine (refNum_any _ 256 cap D 0 4 w2 (HDR.out w2 HB2.out) (by omega) (by omega) (by omega)).mono ?_
  rintro e w3 ⟨rfl, hw3⟩
  subst hw3
  obtain ⟨sq, hsq⟩ : ∃ x, x = leVal ((D.drop 0).take 4) := ⟨_, rfl⟩
  rw [← hsq]
  have hsl : sq < 4294967296 := by
    rw [hsq]
    have h1 := leVal_lt ((D.drop 0).take 4) (fun y hy => HDB.out y (List.mem_of_mem_drop (List.mem_of_mem_take hy)))
    rw [List.length_take, List.length_drop, HDL.out] at h1
    simpa using h1
  have msq : IntKind.i64.wrap (sq : Int) = (sq : Int) := by rw [IntKind.wrap_i64]; omega
  have HSQ : Hid (sq = sqP D) := Lib.hid (by rw [hsq, List.drop_zero]; rfl)
  clear hsq
  go_upto_region 7 with fail
  have hp := heap_alloc_new w3 (.cells #[.int .i64 (sq : Int), .slice none 0 0, .int .i64 0, .int .i64 0, .int .i64 0] 42)
  have hbp := bel_alloc (Below.refl w3.heap.size w3) (.cells #[.int .i64 (sq : Int), .slice none 0 0, .int .i64 0, .int .i64 0, .int .i64 0] 42)
  obtain ⟨W, hW⟩ : ∃ x, x = w3.alloc (.cells #[.int .i64 (sq : Int), .slice none 0 0, .int .i64 0, .int .i64 0, .int .i64 0] 42) := ⟨_, rfl⟩
  obtain ⟨p, hpe⟩ : ∃ x, x = w3.heap.size := ⟨_, rfl⟩
  rw [← hW] at hp hbp ⊢
  rw [← hpe] at hp hbp ⊢
  have HWP : Hid (p < W.heap.size ∧ w.heap.size ≤ p) := Lib.hid ⟨(Array.getElem?_eq_some_iff.1 hp).1, by rw [hpe]; exact HB2.out.size⟩
  have HX : Hid (∀ x, Below p W x → x.heap[b]? = some (.cells #[.int .i64 (n : Int), .int .i64 20, .int .i64 6, .int .i64 256] 27 (0, 0)) ∧ x.heap[b + 1]? = some (.cells #[.int .i64 0, .slice none 0 0, .int .i64 0, .int .i64 0, .int .i64 0] 42 (0, 0)) ∧ x.heap[hbk]? = some (.cells #[.int .i64 2, .int .i64 (ep : Int), .int .i64 (ba : Int), .int .i64 (ix : Int), .int .i64 (ct : Int), .int .i64 (bl : Int), .int .i64 (mo : Int)] 77 (0, 0)) ∧ Row x (some ⟨da, off, none⟩) 256 D ∧ Below w.heap.size w x) := Lib.hid fun x hx => by
    have e1 := fun (k : Nat) (hk : k < p) => (hx.block k hk).trans (hbp.block k hk)
    have hbw : Below w.heap.size w x := bel_trans HB2.out (by rw [hpe] at hbp hx; exact hbp.trans hx)
    refine ⟨(e1 b ?_).trans G2.out.1, (e1 (b + 1) ?_).trans G2.out.2, (e1 hbk ?_).trans H2.out, HDR.out x hbw, hbw⟩
    · rw [hpe]; exact (Array.getElem?_eq_some_iff.1 G2.out.1).1
    · rw [hpe]; exact (Array.getElem?_eq_some_iff.1 G2.out.2).1
    · rw [hpe]; exact (Array.getElem?_eq_some_iff.1 H2.out).1
  have HBP : Hid (b + 1 < p) := Lib.hid (by rw [hpe]; exact (Array.getElem?_eq_some_iff.1 G2.out.2).1)
  have HP := Lib.hid hp
  clear hW hpe hp hbp hc4 msq hsl H2 G2 HDR
  have hc4 : W.cell? ⟨da, off + 4, none⟩ = some (.int .u8 (nn : Int)) := by
    obtain ⟨b', o', e, hc⟩ := (HX.out W (Below.refl _ _)).2.2.2.1.2.2 (by omega)
    cases e
    rw [hc 4 (by omega), HNN.out]
  obtain ⟨i0, hi, hz0, hz1, hz2⟩ := info_parts info_int2
  go_wp2_with fail
  clear hc4 m4 t1 t1'
  go_loopw [12] (fun iv wr => ∃ (k : Nat) (v : Value), k ≤ nn ∧ iv = .int .i64 (k : Int) ∧ OwnI (p + 1) wr v (intsN ((D.drop 5).take k)) ∧ wr.heap[p]? = some (.cells #[.int .i64 (sq : Int), v, .int .i64 0, .int .i64 0, .int .i64 0] 42 (0, 0)) ∧ Below p W wr) (fun iv _ => nn - (intOf iv).toNat)
  case atStart => exact ⟨0, _, Nat.zero_le _, rfl, ownI_nil _ _, HP.out, Below.refl _ _⟩
  case round =>
    obtain ⟨k, v, hk, rfl, hO, hH, hB⟩ := hrel
    obtain ⟨va, vn, vc, rfl⟩ := ownI_slice hO
    have HO := Lib.hid hO
    have HH := Lib.hid hH
    have HB := Lib.hid hB
    clear hO hH hB HP
    have hd5 : (D.drop 5).length = 251 := by rw [List.length_drop, HDL.out]
    by_cases hlt : k < nn
    · have t1 : decide (k < nn) = true := by simpa using hlt
      obtain ⟨x, hx⟩ : ∃ x, x = D.getD (5 + k) 0 := ⟨_, rfl⟩
      have hx2 : x = (D.drop 5).getD k 0 := by rw [hx]; simp [List.getD]
      have hx256 : x < 256 := by rw [hx]; exact getD_lt HDB.out _
      have htk : intsN ((D.drop 5).take (k + 1)) = intsN ((D.drop 5).take k) ++ [(x : Int)] := by
        rw [take_snoc_getD _ k (by rw [hd5]; have := HLL.out; omega), ← hx2]; simp [intsN]
      have htl : (intsN ((D.drop 5).take k)).length = k := by
        unfold intsN; rw [List.length_map, List.length_take, hd5]; have := HLL.out; omega
      have HTK := Lib.hid htk
      have HTL := Lib.hid htl
      have hwx : IntKind.i64.wrap (x : Int) = (x : Int) := by rw [IntKind.wrap_i64]; omega
      have z1 : wr.cell? ⟨p, 1, none⟩ = some (.slice va vn vc) := (five_at HH.out).2.1
      have z1a := cell_step z1 (bel_alloc (Below.refl _ wr) (.cells #[.int .i64 (x : Int)] 3))
      have hck : wr.cell? ⟨da, off + (5 + k), none⟩ = some (.int .u8 (x : Int)) := by
        obtain ⟨b', o', e, hc⟩ := (HX.out wr HB.out).2.2.2.1.2.2 (by omega)
        cases e
        have := hc (5 + k) (by have := HLL.out; omega)
        rw [← hx] at this
        exact this
      have hck2 := cell_step hck (bel_alloc (Below.refl _ wr) (.cells #[.int .i64 (x : Int)] 3))
      have hps : p < wr.heap.size := (Array.getElem?_eq_some_iff.1 HH.out).1
      have hs1 : p + 1 ≤ wr.heap.size := hps
      have hown : (wr.alloc (.cells #[.int .i64 (x : Int)] 3)).drew.ownsRow (p + 1) 3 1 (.slice va vn vc) k (valz (intsN ((D.drop 5).take k))) := by
        have := ownI_below HO.out (bel_alloc (Below.refl _ wr) (.cells #[.int .i64 (x : Int)] 3)).drew
        unfold OwnI at this
        rw [HTL.out] at this
        exact this
      have hk63 : k + 1 ≤ maxLen := by unfold maxLen; have := HLL.out; omega
      have hk8 : (k + 1) * 8 ≤ 140737488355328 := by have := HLL.out; omega
      have hkH : (wr.alloc (.cells #[.int .i64 (x : Int)] 3)).drew.heap.size = wr.heap.size + 1 := by simp
      have hkb : p + 1 ≤ (wr.alloc (.cells #[.int .i64 (x : Int)] 3)).drew.heap.size := by rw [hkH]; exact Nat.le_succ_of_le hs1
      have HK := Lib.hid (And.intro hk63 (And.intro hk8 (And.intro hkH hkb)))
      clear hk63 hk8 hkH hkb
      obtain ⟨q, hq⟩ : ∃ q, q = 5 + k := ⟨_, rfl⟩
      rw [← hq] at hck hck2
      have hqi : (5 : Int) + (k : Int) = (q : Int) := by omega
      have hq0 : (0 : Int) ≤ (q : Int) := by omega
      have hq1 : (q : Int) < 256 := by have := HLL.out; omega
      obtain ⟨hqw, hqw2⟩ := wrapq (q : Int) hq0 (by omega)
      clear hx hx2 htk hd5 htl hq
      go_upto_region 11 with fail
      go_region_law (refine step_append_lies _ (by rfl) _ _ _ (by rfl) (p + 1) 3 i0 _ 1 8 Try.underlying29 hi hz0 hz1 hz2 rfl (by decide) _ k _ (by rfl) hown ⟨wr.heap.size, 0, none⟩ 1 1 [.int .i64 (x : Int)] (by rfl) (by rfl) (World.news_of_block (cs := #[.int .i64 (x : Int)]) (t := 3) (fr := (0, 0)) (heap_alloc_new wr _)) (by simp [Value.oneCell']) Nat.one_pos HK.out.1 HK.out.2.1 HK.out.2.2.2 (wr.heap.size + 1) HK.out.2.2.1 ?_; intro g2 c2' w5 hown1 hgrow hat hlt3; have hb5 : Below (p + 1) wr w5 := ((Below.refl (p + 1) wr).alloc hs1 _).drew.trans ((Below.refl (p + 1) _).grown hgrow HK.out.2.2.2 (fun q hq => (hown.lt q hq).1)); have h5 : w5.heap[p]? = some (.cells #[.int .i64 (sq : Int), .slice va vn vc, .int .i64 0, .int .i64 0, .int .i64 0] 42 (0, 0)) := (hb5.block p (Nat.lt_succ_self p)).trans HH.out; have H5 := Lib.hid h5; have HB5 := Lib.hid hb5; have z1b := (five_at h5).2.1; have zf := mfree_at h5 1; clear h5 hgrow hat hb5)
      all_goals
        have hN : Hid (OwnI (p + 1) (w5.setCell ⟨p, 1, none⟩ (.slice (some ⟨g2, 0, none⟩) (k + 1) c2')) (.slice (some ⟨g2, 0, none⟩) (k + 1) c2') (intsN ((D.drop 5).take (k + 1))) ∧ (w5.setCell ⟨p, 1, none⟩ (.slice (some ⟨g2, 0, none⟩) (k + 1) c2')).heap[p]? = some (.cells #[.int .i64 (sq : Int), .slice (some ⟨g2, 0, none⟩) (k + 1) c2', .int .i64 0, .int .i64 0, .int .i64 0] 42 (0, 0)) ∧ Below p W (w5.setCell ⟨p, 1, none⟩ (.slice (some ⟨g2, 0, none⟩) (k + 1) c2'))) := Lib.hid ⟨by
          unfold OwnI
          rw [HTK.out, List.length_append, HTL.out, show valz (intsN ((D.drop 5).take k) ++ [(x : Int)]) = valz (intsN ((D.drop 5).take k)) ++ [.int .i64 (x : Int)] by simp [valz]]
          exact ownsRow_setCell_below (a := ⟨p, 1, none⟩) hown1 (Nat.lt_succ_self p) _, by
          have := heap_setCell_same w5 p 1 _ _ (.slice (some ⟨g2, 0, none⟩) (k + 1) c2') H5.out
          simpa using this, (HB.out.trans (HB5.out.mono (Nat.le_succ p))).setCell (p := ⟨p, 1, none⟩) (Nat.le_refl p) _⟩
        clear hown hown1 hlt3 z1 z1a z1b zf hi hz0 hz1 hz2 hck hck2 hqw hqw2 hqi hq0 hq1 hwx
        go_wp2_with fail
        go_roundw
        case rel => exact ⟨k + 1, _, by omega, by go_num, hN.out.1, hN.out.2.1, hN.out.2.2⟩
        case measure => simp [intOf]; omega
    · obtain rfl : k = nn := by omega
      have t1 : decide (k < k) = false := by simp
      clear hi hz0 hz1 hz2 hd5
      have HRW := Lib.hid (HX.out wr HB.out).2.2.2.1
      have HC : Hid (∀ (x : World) (j : Nat), Below p W x → j < 256 → x.cell? ⟨da, off + j, none⟩ = some (.int .u8 ((D.getD j 0 : Nat) : Int))) := Lib.hid fun x j hx hj => by
        obtain ⟨b', o', e, hc⟩ := (HX.out x hx).2.2.2.1.2.2 (by omega)
        cases e
        exact hc j hj
      obtain ⟨q, hq⟩ : ∃ q, q = 5 + k := ⟨_, rfl⟩
      have HQ := Lib.hid hq
      have hql : q ≤ 247 := by have := HLL.out; omega
      obtain ⟨x0, hx0⟩ : ∃ x, x = D.getD q 0 := ⟨_, rfl⟩
      obtain ⟨x1, hx1⟩ : ∃ x, x = D.getD (q + 1) 0 := ⟨_, rfl⟩
      obtain ⟨x2, hx2⟩ : ∃ x, x = D.getD (q + 2) 0 := ⟨_, rfl⟩
      have hl0 : x0 < 256 := by rw [hx0]; exact getD_lt HDB.out _
      have hl1 : x1 < 256 := by rw [hx1]; exact getD_lt HDB.out _
      have hl2 : x2 < 256 := by rw [hx2]; exact getD_lt HDB.out _
      have hc0 := HC.out wr q HB.out (by omega)
      rw [← hx0] at hc0
      have c2 := (five_at HH.out).2.2.1
      have f2 := mfree_at HH.out 2
      have hA1 := heap_setCell_same wr p 2 _ _ (.int .i64 (x0 : Int)) HH.out
      have hA1' : (wr.setCell ⟨p, 2, none⟩ (.int .i64 (x0 : Int))).heap[p]? = some (.cells #[.int .i64 (sq : Int), .slice va vn vc, .int .i64 (x0 : Int), .int .i64 0, .int .i64 0] 42 (0, 0)) := by simpa using hA1
      have hB1 : Below p W (wr.setCell ⟨p, 2, none⟩ (.int .i64 (x0 : Int))) := HB.out.setCell (p := ⟨p, 2, none⟩) (Nat.le_refl p) _
      have hc1 := HC.out _ (q + 1) hB1 (by omega)
      rw [← hx1] at hc1
      have c3 := (five_at hA1').2.2.2.1
      have f3 := mfree_at hA1' 3
      have hA2 := heap_setCell_same _ p 3 _ _ (.int .i64 (x1 : Int)) hA1'
      have hA2' : ((wr.setCell ⟨p, 2, none⟩ (.int .i64 (x0 : Int))).setCell ⟨p, 3, none⟩ (.int .i64 (x1 : Int))).heap[p]? = some (.cells #[.int .i64 (sq : Int), .slice va vn vc, .int .i64 (x0 : Int), .int .i64 (x1 : Int), .int .i64 0] 42 (0, 0)) := by simpa using hA2
      have hB2 : Below p W ((wr.setCell ⟨p, 2, none⟩ (.int .i64 (x0 : Int))).setCell ⟨p, 3, none⟩ (.int .i64 (x1 : Int))) := hB1.setCell (p := ⟨p, 3, none⟩) (Nat.le_refl p) _
      have hc2 := HC.out _ (q + 2) hB2 (by omega)
      rw [← hx2] at hc2
      have c4 := (five_at hA2').2.2.2.2
      have f4 := mfree_at hA2' 4
      have hA3 := heap_setCell_same _ p 4 _ _ (.int .i64 (x2 : Int)) hA2'
      have HA3 : Hid ((((wr.setCell ⟨p, 2, none⟩ (.int .i64 (x0 : Int))).setCell ⟨p, 3, none⟩ (.int .i64 (x1 : Int))).setCell ⟨p, 4, none⟩ (.int .i64 (x2 : Int))).heap[p]? = some (.cells #[.int .i64 (sq : Int), .slice va vn vc, .int .i64 (x0 : Int), .int .i64 (x1 : Int), .int .i64 (x2 : Int)] 42 (0, 0))) := Lib.hid (by simpa using hA3)
      have HB3 : Hid (Below p W (((wr.setCell ⟨p, 2, none⟩ (.int .i64 (x0 : Int))).setCell ⟨p, 3, none⟩ (.int .i64 (x1 : Int))).setCell ⟨p, 4, none⟩ (.int .i64 (x2 : Int)))) := Lib.hid (hB2.setCell (p := ⟨p, 4, none⟩) (Nat.le_refl p) _)
      have HO3 : Hid (OwnI (p + 1) (((wr.setCell ⟨p, 2, none⟩ (.int .i64 (x0 : Int))).setCell ⟨p, 3, none⟩ (.int .i64 (x1 : Int))).setCell ⟨p, 4, none⟩ (.int .i64 (x2 : Int))) (.slice va vn vc) (intsN ((D.drop 5).take k))) := Lib.hid (ownsRow_setCell_below (a := ⟨p, 4, none⟩) (ownsRow_setCell_below (a := ⟨p, 3, none⟩) (ownsRow_setCell_below (a := ⟨p, 2, none⟩) HO.out (Nat.lt_succ_self p) _) (Nat.lt_succ_self p) _) (Nat.lt_succ_self p) _)
      have hqi : (5 : Int) + (k : Int) = (q : Int) := by omega
      obtain ⟨q1, hq1⟩ : ∃ z, z = q + 1 := ⟨_, rfl⟩
      obtain ⟨q2, hq2⟩ : ∃ z, z = q + 2 := ⟨_, rfl⟩
      obtain ⟨q3, hq3⟩ : ∃ z, z = q + 3 := ⟨_, rfl⟩
      obtain ⟨q5, hq5⟩ : ∃ z, z = q + 5 := ⟨_, rfl⟩
      obtain ⟨q7, hq7⟩ : ∃ z, z = q + 7 := ⟨_, rfl⟩
      obtain ⟨q9, hq9⟩ : ∃ z, z = q + 9 := ⟨_, rfl⟩
      rw [← hq1] at hc1
      rw [← hq2] at hc2
      have hq1i : (q : Int) + 1 = (q1 : Int) := by omega
      have hq2i : (q : Int) + 2 = (q2 : Int) := by omega
      have hq3i : (q : Int) + 3 = (q3 : Int) := by omega
      have hq5i : (q : Int) + 5 = (q5 : Int) := by omega
      have hq7i : (q : Int) + 7 = (q7 : Int) := by omega
      have hq9i : (q : Int) + 9 = (q9 : Int) := by omega
      have n0 : (0 : Int) ≤ (q : Int) := by omega
      have n0' : (q : Int) < 256 := by omega
      have n1 : (0 : Int) ≤ (q1 : Int) := by omega
      have n1' : (q1 : Int) < 256 := by omega
      have n2 : (0 : Int) ≤ (q2 : Int) := by omega
      have n2' : (q2 : Int) < 256 := by omega
      have HQS := Lib.hid (And.intro hq3 (And.intro hq5 (And.intro hq7 hq9)))
      have hq9l : q9 ≤ 256 := by omega
      have B0 := Lib.hid (mkw q (by omega))
      have M0 := Lib.hid (mk6 x0 hl0)
      have M1 := Lib.hid (mk6 x1 hl1)
      have M2 := Lib.hid (mk6 x2 hl2)
      have W1 := Lib.hid (mkw q1 (by omega))
      have W2 := Lib.hid (mkw q2 (by omega))
      have W3 := Lib.hid (mkw q3 (by omega))
      have W5 := Lib.hid (mkw q5 (by omega))
      have W7 := Lib.hid (mkw q7 (by omega))
      have W9 := Lib.hid (mkw q9 (by omega))
      have HX0 := Lib.hid (And.intro hx0 (And.intro hx1 hx2))
      clear hq hq1 hq2 hq3 hq5 hq7 hq9 hx0 hx1 hx2 hA1 hA1' hA2 hA2' hA3 hB1 hB2
      obtain ⟨wq0, wq0'⟩ := B0.out
      have hm0 := M0.out
      have hm1 := M1.out
      have hm2 := M2.out
      obtain ⟨wq1a, wq1b⟩ := W1.out
      obtain ⟨wq2a, wq2b⟩ := W2.out
      go_upto_region 16 with fail
      obtain ⟨V, hV⟩ : ∃ V, V = ((wr.setCell ⟨p, 2, none⟩ (.int .i64 (x0 : Int))).setCell ⟨p, 3, none⟩ (.int .i64 (x1 : Int))).setCell ⟨p, 4, none⟩ (.int .i64 (x2 : Int)) := ⟨_, rfl⟩
      rw [← hV] at HA3 HB3 HO3 ⊢
      clear wq0 wq0' hV hc0 hc1 hc2 c2 c3 c4 f2 f3 f4 wq1a wq1b wq2a wq2b hm0 hm1 hm2 n0 n0' n1 n1' n2 n2' hq1i hq2i
      have HCL : Hid (chP D = (D.drop 5).take k) := Lib.hid (by unfold chP nP; rw [← HNN.out])
      have hnp : nP D = k := by unfold nP; exact HNN.out.symm
      have HAT : Hid (atP D 0 = x0 ∧ atP D 1 = x1 ∧ atP D 2 = x2) := Lib.hid (by
        unfold atP
        rw [hnp, HX0.out.1, HX0.out.2.1, HX0.out.2.2, HQ.out]
        exact ⟨rfl, rfl, rfl⟩)
      obtain ⟨y3, hy3⟩ : ∃ z, z = twoP D 3 := ⟨_, rfl⟩
      obtain ⟨y5, hy5⟩ : ∃ z, z = twoP D 5 := ⟨_, rfl⟩
      obtain ⟨y7, hy7⟩ : ∃ z, z = twoP D 7 := ⟨_, rfl⟩
      obtain ⟨zz, hzz⟩ : ∃ z, z = okP D := ⟨_, rfl⟩
      have ht3 : leVal ((D.drop q3).take 2) = y3 := by rw [hy3]; unfold twoP; rw [hnp, HQS.out.1, HQ.out]
      have ht5 : leVal ((D.drop q5).take 2) = y5 := by rw [hy5]; unfold twoP; rw [hnp, HQS.out.2.1, HQ.out]
      have ht7 : leVal ((D.drop q7).take 2) = y7 := by rw [hy7]; unfold twoP; rw [hnp, HQS.out.2.2.1, HQ.out]
      have ht9 : zeros (D.drop q9) = zz := by rw [hzz]; unfold okP; rw [hnp, HQS.out.2.2.2, HQ.out, show 5 + k + 9 = 14 + k by omega]
      obtain ⟨bad, hbad⟩ : ∃ z, z = decide (¬ (zz = true ∧ (y3 = 20 ∧ y5 = 6 ∧ y7 = 256) ∧ sq = ep)) := ⟨_, rfl⟩
      have HBAD := Lib.hid hbad
      have HYY := Lib.hid (And.intro hy3 (And.intro hy5 (And.intro hy7 hzz)))
      have HCAP := Lib.hid hcap
      have HV : Hid (¬ (y3 = 20 ∧ y5 = 6 ∧ y7 = 256)) := Lib.hid (by rw [hy3, hy5, hy7]; exact HVV.out)
      have HPV : Hid (p < V.heap.size) := Lib.hid (Array.getElem?_eq_some_iff.1 HA3.out).1
      obtain ⟨C, hCd⟩ : ∃ C : World → Prop, (∀ x, C x → Below V.heap.size V x) ∧ (∀ x, Below V.heap.size V x → C x) := ⟨_, fun _ h => h, fun _ h => h⟩
      have hC0 := hCd.2 _ (Below.refl V.heap.size V).drew
      haveI hne : Nonempty (Wd C) := ⟨⟨_, hC0⟩⟩
      have HCD := Lib.hid hCd
      have HBY : Hid (∀ y : Wd C, Below p W y.w) := Lib.hid fun y => HB3.out.trans ((hCd.1 _ y.ok).mono (Nat.le_of_lt HPV.out))
      have f1 : ∀ y : Wd C, y.w.cell? ⟨b, 1, none⟩ = some (.int .i64 20) := fun y => (mfour_at (HX.out y.w (HBY.out y)).1).2.1
      have f2 : ∀ y : Wd C, y.w.cell? ⟨b, 2, none⟩ = some (.int .i64 6) := fun y => (mfour_at (HX.out y.w (HBY.out y)).1).2.2.1
      have f3 : ∀ y : Wd C, y.w.cell? ⟨b, 3, none⟩ = some (.int .i64 256) := fun y => (mfour_at (HX.out y.w (HBY.out y)).1).2.2.2
      have f4 : ∀ y : Wd C, y.w.cell? ⟨p, 0, none⟩ = some (.int .i64 (sq : Int)) := fun y => (five_at (((hCd.1 _ y.ok).block p HPV.out).trans HA3.out)).1
      have f5 : ∀ y : Wd C, y.w.cell? ⟨hbk, 1, none⟩ = some (.int .i64 (ep : Int)) := fun y => by
        have := (wide_cells (h := ⟨2, ep, ba, ix, ct, bl, mo⟩) (HX.out y.w (HBY.out y)).2.2.1).2.1
        exact this
      have HST0 : Hid (∀ (y : Wd C) (z : World), Below y.w.heap.size y.w z → C z) := Lib.hid fun y z hb => HCD.out.2 _ (bel_trans (HCD.out.1 _ y.ok) hb)
      have HI3 := Lib.hid fun y : Wd C => Calls.wd_same y.ok (refInt2 (some ⟨da, off, none⟩) cap D q3 y.w (HX.out y.w (HBY.out y)).2.2.2.1 (by omega))
      have HI5 := Lib.hid fun y : Wd C => Calls.wd_same y.ok (refInt2 (some ⟨da, off, none⟩) cap D q5 y.w (HX.out y.w (HBY.out y)).2.2.2.1 (by omega))
      have HI7 := Lib.hid fun y : Wd C => Calls.wd_same y.ok (refInt2 (some ⟨da, off, none⟩) cap D q7 y.w (HX.out y.w (HBY.out y)).2.2.2.1 (by omega))
      rw [ht3] at HI3
      rw [ht5] at HI5
      rw [ht7] at HI7
      have HZ1 := Lib.hid fun (y : Wd C) => (refIsZero_any (c := cap - q9) (row_suffix (HX.out y.w (HBY.out y)).2.2.2.1 q9 hq9l) (by omega))
      rw [ht9] at HZ1
      have HZ0 : Hid (q9 = 256 → ∀ y : Wd C, Calls Try.prog 36 #[.slice (some ⟨da, off, none⟩) 0 0] y.w fun e w' => e = .returned (.bool zz) ∧ Below y.w.heap.size y.w w') := Lib.hid fun h9 y => by
        have hd : D.drop q9 = [] := List.drop_eq_nil_of_le (by rw [HDL.out, h9]; exact Nat.le_refl _)
        have h := refIsZero_any (w := y.w) (a := some ⟨da, off, none⟩) (n := 0) (c := 0) (bs := []) ⟨rfl, (fun x hx => by cases hx), fun h => absurd h (Nat.lt_irrefl 0)⟩ (by omega)
        rw [← hd, ht9] at h
        exact h
      have s1 : (0 : Int) ≤ (q9 : Int) := by omega
      have s2 : (q9 : Int) ≤ 256 := by omega
      have s3 : (256 : Int) ≤ (cap : Int) := by omega
      have s4 : (q9 : Int) ≤ (cap : Int) := by omega
      clear hy3 hy5 hy7 hzz ht3 ht5 ht7 ht9 hbad hCd hnp hcap
      go_cut [128] (fun t wx => t = .bool bad ∧ C wx)
      case first =>
        by_cases e3 : y3 = 20
        case neg =>
          have t_y3 : ((y3 : Int) != 20) = true := tst y3 20 e3
          have e : bad = true := by rw [HBAD.out]; exact decide_eq_true fun h => e3 h.2.1.1
          clear e3
          obtain ⟨wq3a, wq3b⟩ := W3.out
          obtain ⟨wq5a, wq5b⟩ := W5.out
          obtain ⟨wq7a, wq7b⟩ := W7.out
          obtain ⟨wq9a, wq9b⟩ := W9.out
          refine wp_region_wd C (by kernel_rfl) (by kernel_rfl) hC0 ?_
          repeat (go_big_quiet_step (first
            | (go_at_call 35; first | with_reducible exact HI3.out _ | with_reducible exact HI5.out _ | with_reducible exact HI7.out _)
            | (go_at_call 36; first | with_reducible exact Calls.wd (HST0.out _) (HZ1.out _) | with_reducible exact Calls.wd (HST0.out _) (HZ0.out E9.out _))))
          refine wpQuiet_nil ?_
          intro _ hw'
          obtain ⟨y, rfl⟩ := hw'
          go_wp2_with fail
          go_meet
          exact ⟨by (rw [e] <;> first | rfl | (simp; done)), y.ok⟩
        have t_y3 : ((y3 : Int) != 20) = false := tsf y3 20 e3
        by_cases e5 : y5 = 6
        case neg =>
          have t_y5 : ((y5 : Int) != 6) = true := tst y5 6 e5
          have e : bad = true := by rw [HBAD.out]; exact decide_eq_true fun h => e5 h.2.1.2.1
          clear e3 e5
          obtain ⟨wq3a, wq3b⟩ := W3.out
          obtain ⟨wq5a, wq5b⟩ := W5.out
          obtain ⟨wq7a, wq7b⟩ := W7.out
          obtain ⟨wq9a, wq9b⟩ := W9.out
          refine wp_region_wd C (by kernel_rfl) (by kernel_rfl) hC0 ?_
          repeat (go_big_quiet_step (first
            | (go_at_call 35; first | with_reducible exact HI3.out _ | with_reducible exact HI5.out _ | with_reducible exact HI7.out _)
            | (go_at_call 36; first | with_reducible exact Calls.wd (HST0.out _) (HZ1.out _) | with_reducible exact Calls.wd (HST0.out _) (HZ0.out E9.out _))))
          refine wpQuiet_nil ?_
          intro _ hw'
          obtain ⟨y, rfl⟩ := hw'
          go_wp2_with fail
          go_meet
          exact ⟨by (rw [e] <;> first | rfl | (simp; done)), y.ok⟩
        have t_y5 : ((y5 : Int) != 6) = false := tsf y5 6 e5
        have e7 : ¬ y7 = 256 := fun h => HV.out ⟨e3, e5, h⟩
        have t_y7 : ((y7 : Int) != 256) = true := tst y7 256 e7
        have e : bad = true := by rw [HBAD.out]; exact decide_eq_true fun h => e7 h.2.1.2.2
        clear e3 e5 e7
        obtain ⟨wq3a, wq3b⟩ := W3.out
        obtain ⟨wq5a, wq5b⟩ := W5.out
        obtain ⟨wq7a, wq7b⟩ := W7.out
        obtain ⟨wq9a, wq9b⟩ := W9.out
        refine wp_region_wd C (by kernel_rfl) (by kernel_rfl) hC0 ?_
        repeat (go_big_quiet_step (first
          | (go_at_call 35; first | with_reducible exact HI3.out _ | with_reducible exact HI5.out _ | with_reducible exact HI7.out _)
          | (go_at_call 36; first | with_reducible exact Calls.wd (HST0.out _) (HZ1.out _) | with_reducible exact Calls.wd (HST0.out _) (HZ0.out E9.out _))))
        refine wpQuiet_nil ?_
        intro _ hw'
        obtain ⟨y, rfl⟩ := hw'
        go_wp2_with fail
        go_meet
        exact ⟨by (rw [e] <;> first | rfl | (simp; done)), y.ok⟩
      case rest =>
      obtain ⟨rfl, hcw⟩ := hcut
      have hbv := HCD.out.1 _ hcw
      obtain ⟨Z, hZ⟩ : ∃ x, x = wc := ⟨_, rfl⟩
      rw [← hZ] at hbv ⊢
      have HBZ : Hid (Below p W Z) := Lib.hid (HB3.out.trans (hbv.mono (Nat.le_of_lt HPV.out)))
      have HPZ : Hid (Z.heap[p]? = some (.cells #[.int .i64 (sq : Int), .slice va vn vc, .int .i64 (x0 : Int), .int .i64 (x1 : Int), .int .i64 (x2 : Int)] 42 (0, 0))) := Lib.hid ((hbv.block p HPV.out).trans HA3.out)
      have HOZ : Hid (OwnI (p + 1) Z (.slice va vn vc) (intsN ((D.drop 5).take k))) := Lib.hid (ownI_below HO3.out hbv)
      have hr5 := (HX.out Z HBZ.out).2.1
      clear hbv hZ hcw f1 f2 f3 f4 f5 hC0 HST0 HI3 HI5 HI7 HZ1 HZ0 s1 s2 s3 s4
      cases bad with
      | true =>
        have hno : ¬ (okP D = true ∧ (twoP D 3 = 20 ∧ twoP D 5 = 6 ∧ twoP D 7 = 256) ∧ sqP D = ep ∧ setOk n 20 (intsN (chP D)) (atP D 0 : Int) (atP D 1 : Int) (atP D 2 : Int)) := by
          have h := of_decide_eq_true HBAD.out.symm
          rw [HYY.out.1, HYY.out.2.1, HYY.out.2.2.1, HYY.out.2.2.2, HSQ.out] at h
          exact fun h' => h ⟨h'.1, h'.2.1, h'.2.2.1⟩
        have HNO := Lib.hid hno
        clear hno
        obtain ⟨d0, d1, d2, d3, d4⟩ := five_at hr5
        have df := mfree_at hr5
        have f0 := df 0
        have f1 := df 1
        have f2 := df 2
        have f3 := df 3
        have f4 := df 4
        clear df
        go_wp2_with fail
        refine bodyPost_ret (v := .tuple #[.agg #[.int .i64 0, .slice none 0 0, .int .i64 0, .int .i64 0, .int .i64 0], .int .i64 62]) ?_ rfl (HQ0.out _ _ HNO.out ⟨.slice none 0 0, rfl, ownI_nil _ _, ?_⟩)
        · simp [results, Try.results16, go_sem, d0, d1, d2, d3, d4]
        · exact bel_five (HX.out Z HBZ.out).2.2.2.2 (b + 1) (by have := HBB.out; omega) _ _ _ _ _
      | false =>
        have hyes := Classical.not_not.1 (of_decide_eq_false HBAD.out.symm)
        have HYES := Lib.hid hyes
        clear hyes
        exact absurd HYES.out.2.1 HV.out
end Go.Proofs.Ytdljihemnfpkaaa
