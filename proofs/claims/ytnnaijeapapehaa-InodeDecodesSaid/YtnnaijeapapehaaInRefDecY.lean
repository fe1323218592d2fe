/- gabionref17.Decode, where the bytes are an inode. -/
import Derived.Test.YtnnaijeapapehaaInRefDecW
namespace Go.Proofs.Ytnnaijeapapehaa
open Go.RowKit

theorem num_at (bs : List Nat) (k n : Nat) (h : ∀ x ∈ bs, x < 256) : leVal ((bs.drop k).take n) < 256 ^ n := leValN_lt h k n
theorem ino_at (bs : List Nat) (k : Nat) (hk : k < 10) : (inoOf bs).at_.getD k 0 = leVal ((bs.drop (8 + 4 * k)).take 4) := by
  rcases (show k = 0 ∨ k = 1 ∨ k = 2 ∨ k = 3 ∨ k = 4 ∨ k = 5 ∨ k = 6 ∨ k = 7 ∨ k = 8 ∨ k = 9 by omega) with rfl | rfl | rfl | rfl | rfl | rfl | rfl | rfl | rfl | rfl <;> rfl
set_option maxRecDepth 100000 in
set_option maxHeartbeats 4000000 in
theorem refDec_yes (b off cap : Nat) (bs : List Nat) (w : World) (hr : Row w (some ⟨b, off, none⟩) 64 bs) (hc : 64 ≤ cap) (hbad : ¬ badI bs) :
    Calls Try.prog 15 #[.slice (some ⟨b, off, none⟩) 64 cap] w fun e w' => ∃ a c, e = .returned (.tuple #[.agg #[.int .i64 ((inoOf bs).ki : Int), .int .i64 ((inoOf bs).ln : Int), .int .i64 ((inoOf bs).sz : Int), .slice a 10 c], .int .i64 0]) ∧ RowK .i64 4294967296 w' a 10 (inoOf bs).at_ ∧ Below w.heap.size w w' := by
  obtain ⟨V, hV⟩ : ∃ x, x = w.alloc (.cells #[.int .i64 0, .int .i64 0, .int .i64 0, .slice none 0 0] 34) := ⟨_, rfl⟩
  obtain ⟨p, hp⟩ : ∃ x, x = w.heap.size := ⟨_, rfl⟩
  have hvb : Below w.heap.size w V := by rw [hV]; exact bel_alloc (Below.refl _ _) _
  have hvh : V.heap[p]? = some (.cells #[.int .i64 0, .int .i64 0, .int .i64 0, .slice none 0 0] 34 (0, 0)) := by rw [hV, hp]; exact heap_alloc_new _ _
  have hpl : p < V.heap.size := (Array.getElem?_eq_some_iff.1 hvh).1
  have HR := Lib.hid (row_keep hr hvb (Nat.le_refl _))
  have HX : Hid (∀ x : World, Below V.heap.size V x → x.heap[p]? = some (.cells #[.int .i64 0, .int .i64 0, .int .i64 0, .slice none 0 0] 34 (0, 0)) ∧ Below w.heap.size w x ∧ Row x (some ⟨b, off, none⟩) 64 bs) := Lib.hid fun x hx => ⟨(hx.block p hpl).trans hvh, bel_trans hvb hx, row_keep HR.out hx (Nat.le_refl _)⟩
  have HP : Hid (w.heap.size ≤ p ∧ p < V.heap.size) := Lib.hid ⟨by omega, hpl⟩
  have HC : Hid (∀ x : World, Below V.heap.size V x → x.cell? ⟨b, off, none⟩ = some (.int .u8 ((bs.getD 0 0 : Nat) : Int)) ∧ x.cell? ⟨b, off + 1, none⟩ = some (.int .u8 ((bs.getD 1 0 : Nat) : Int))) := Lib.hid fun y hy => by
    have hr' := (HX.out y hy).2.2
    constructor
    · obtain ⟨b', off', x, e, hc, _, hx⟩ := row_cell hr' (show 0 < 64 by omega)
      cases e
      have hx : x = bs.getD 0 0 := hx.out
      rw [hx] at hc
      exact hc
    · obtain ⟨b', off', x, e, hc, _, hx⟩ := row_cell hr' (show 1 < 64 by omega)
      cases e
      have hx : x = bs.getD 1 0 := hx.out
      rw [hx] at hc
      exact hc
  have n4 : ¬ cap = 48 := by omega
  have n5 : 48 ≤ cap := by omega
  have n6 : (48 : Int) ≤ (cap : Int) := by omega
  have HZ : Hid (Calls Try.prog 36 #[.slice (some ⟨b, off + 48, none⟩) 16 (cap - 48)] V fun e w' => e = .returned (.bool (zeros (bs.drop 48))) ∧ Below V.heap.size V w') := Lib.hid (refIsZero_any (c := cap - 48) (rowR_suffix HR.out 48 (by omega)) (by omega))
  have HA : Hid (∀ x : World, Below V.heap.size V x → Calls Try.prog 36 #[.slice (some ⟨b, off, none⟩) 64 cap] x fun e w' => e = .returned (.bool (zeros bs)) ∧ Below x.heap.size x w') := Lib.hid fun x hx => refIsZero_any (HX.out x hx).2.2 (by omega)
  have HN : Hid (∀ (x : World) (k n : Nat), Below V.heap.size V x → k + n ≤ 64 → n ≤ 4 → Calls Try.prog 37 #[.slice (some ⟨b, off, none⟩) 64 cap, .int .i64 (k : Int), .int .i64 (n : Int)] x fun e w' => e = .returned (.int .u64 ((leVal ((bs.drop k).take n) : Nat) : Int)) ∧ w' = x) := Lib.hid fun x k n hx hk hn => numR_any _ 64 cap bs k n x (HX.out x hx).2.2 hk (by omega) hn
  have hby := hr.2.1
  have HFT := Lib.hid (inoOf_fits hby)
  have HAT := Lib.hid (ino_at bs)
  obtain ⟨n, hn⟩ : ∃ n, inoOf bs = n := ⟨_, rfl⟩
  have hki : bs.getD 0 0 = n.ki := by rw [← hn]; rfl
  have hln : leVal ((bs.drop 2).take 2) = n.ln := by rw [← hn]; rfl
  have hsz : leVal ((bs.drop 4).take 4) = n.sz := by rw [← hn]; rfl
  rw [hn] at HFT HAT
  rw [hn]
  have HN2 : Hid (∀ x : World, Below V.heap.size V x → Calls Try.prog 37 #[.slice (some ⟨b, off, none⟩) 64 cap, .int .i64 2, .int .i64 2] x fun e w' => e = .returned (.int .u64 (n.ln : Int)) ∧ w' = x) := Lib.hid fun x hx => by
    have := HN.out x 2 2 hx (by omega) (by omega)
    rw [hln] at this
    exact this
  have HN4 : Hid (∀ x : World, Below V.heap.size V x → Calls Try.prog 37 #[.slice (some ⟨b, off, none⟩) 64 cap, .int .i64 4, .int .i64 4] x fun e w' => e = .returned (.int .u64 (n.sz : Int)) ∧ w' = x) := Lib.hid fun x hx => by
    have := HN.out x 4 4 hx (by omega) (by omega)
    rw [hsz] at this
    exact this
  have HNK : Hid (∀ (x : World) (k : Nat), Below V.heap.size V x → k < 10 → Calls Try.prog 37 #[.slice (some ⟨b, off, none⟩) 64 cap, .int .i64 ((8 + 4 * k : Nat) : Int), .int .i64 4] x fun e w' => e = .returned (.int .u64 ((n.at_.getD k 0 : Nat) : Int)) ∧ w' = x) := Lib.hid fun x k hx hk => by
    have := HN.out x (8 + 4 * k) 4 hx (by omega) (by omega)
    rw [← HAT.out k hk] at this
    exact this
  have hb0 : n.ki ≤ 2 ∧ bs.getD 1 0 = 0 ∧ zeros (bs.drop 48) = true ∧ (n.ki = 0 → zeros bs = true) := by
    unfold badI at hbad
    rw [hki] at hbad
    refine ⟨by omega, by omega, ?_, fun h => ?_⟩
    · cases h : zeros (bs.drop 48) with
      | true => rfl
      | false => exact absurd (.inr (.inr (.inl h))) hbad
    · cases h2 : zeros bs with
      | true => rfl
      | false => exact absurd (.inr (.inr (.inr ⟨h, h2⟩))) hbad
  obtain ⟨hb1, hb2, hb3, hb4⟩ := hb0
  rw [hki, hb2] at HC
  rw [hb3] at HZ
  have t0 : decide ((2 : Int) < (n.ki : Int)) = false := by simp; omega
  obtain ⟨q, hq⟩ : ∃ q, ((n.ki : Int) == 0) = q := ⟨_, rfl⟩
  have HA2 : Hid (q = true → ∀ x : World, Below V.heap.size V x → Calls Try.prog 36 #[.slice (some ⟨b, off, none⟩) 64 cap] x fun e w' => e = .returned (.bool true) ∧ Below x.heap.size x w') := Lib.hid fun h x hx => by
    have := HA.out x hx
    rw [hb4 (by rw [h] at hq; simpa using hq)] at this
    exact this
  have k0 := HFT.out.ki
  have k1 := HFT.out.ln
  have k2 := HFT.out.sz
  have m1 : IntKind.i64.wrap (n.ki : Int) = (n.ki : Int) := by rw [IntKind.wrap_i64]; omega
  have m2 : IntKind.i64.wrap (n.ln : Int) = (n.ln : Int) := by rw [IntKind.wrap_i64]; omega
  have m3 : IntKind.i64.wrap (n.sz : Int) = (n.sz : Int) := by rw [IntKind.wrap_i64]; omega
  have HFA := Lib.hid HFT.out.at_
  clear hb1 hb2 hb3 hb4 hbad hki hln hsz hn hby k0 k1 k2 HA HN hr hvb hvh hpl HAT
  obtain ⟨c0, c1⟩ := HC.out V (Below.refl _ _)
  go_enter Try.func15, Try.ntmps15
  go_upto_region 1 with fail
  rw [← hV, ← hp]
  clear hV hp
  go_cut [37] (fun t wx => t = .bool false ∧ Below V.heap.size V wx)
  case first =>
    go_wp2_with fail
    ((with_reducible refine HZ.out.mono ?_))
    rintro e w1 ⟨rfl, hb1⟩
    have HB1 := Lib.hid hb1
    clear hb1 c0 c1
    obtain ⟨c0, c1⟩ := HC.out w1 HB1.out
    cases q with
    | true =>
      have HA3 := Lib.hid (HA2.out rfl)
      clear HA2
      go_wp2_with fail
      ((with_reducible refine (HA3.out _ HB1.out).mono ?_))
      rintro e w2 ⟨rfl, hb2⟩
      have HB2 := Lib.hid (bel_trans HB1.out hb2)
      clear hb2
      go_wp2_with fail
      go_meet
      exact ⟨rfl, HB2.out⟩
    | false =>
      go_wp2_with fail
      go_meet
      exact ⟨rfl, HB1.out⟩
  case rest =>
  obtain ⟨rfl, hbc⟩ := hcut
  obtain ⟨W1, rfl⟩ : ∃ x, x = wc := ⟨wc, rfl⟩
  have HBC := Lib.hid hbc
  clear hbc c0 c1 HA2 HZ t0 hq
  obtain ⟨g, hg⟩ : ∃ g, g = W1.heap.size := ⟨_, rfl⟩
  have HG : Hid (g = W1.heap.size ∧ V.heap.size ≤ g) := Lib.hid ⟨hg, by have := HBC.out.size; omega⟩
  go_upto_region 3 with fail
  go_cut [4] (fun t wx => t = .pointer (some ⟨g, 0, none⟩) ∧ wx.heap[g]? = some (.cells #[.int .i64 (n.ki : Int), .int .i64 (n.ln : Int), .int .i64 (n.sz : Int), .slice none 0 0] 34 (0, 0)) ∧ Below g W1 wx)
  case first =>
    subst hg
    obtain ⟨c0, c1⟩ := HC.out W1 HBC.out
    obtain ⟨c2, c3⟩ := HC.out (W1.alloc (.cells #[.int .i64 0, .int .i64 0, .int .i64 0, .slice none 0 0] 34)) (bel_alloc HBC.out _)
    clear c1 c3
    go_region_law (first
      | (go_simp; go_at_call 37; ((with_reducible refine (HN2.out _ ?_).mono ?_)); (· first | exact HBC.out.drew | exact (bel_alloc HBC.out _).drew); (intro e y hr; obtain ⟨rfl, rfl⟩ := hr))
      | (go_simp; go_at_call 37; ((with_reducible refine (HN4.out _ ?_).mono ?_)); (· first | exact HBC.out.drew | exact (bel_alloc HBC.out _).drew); (intro e y hr; obtain ⟨rfl, rfl⟩ := hr)))
    all_goals
      go_wp2_with fail
      go_meet
      exact ⟨rfl, heap_alloc_new W1 _, (bel_alloc (Below.refl _ _) _).drew⟩
  case rest =>
  obtain ⟨rfl, hgh, hgb⟩ := hcut
  clear m1 m2 m3 hg
  obtain ⟨Y, rfl⟩ : ∃ x, x = wc := ⟨wc, rfl⟩
  obtain ⟨i0, hi, hz0, hz1, hz2⟩ := info_parts info_int64
  have HI := Lib.hid (And.intro hi (And.intro hz0 (And.intro hz1 hz2)))
  have HGH := Lib.hid hgh
  have HGB := Lib.hid hgb
  clear hi hz0 hz1 hz2 hgh hgb HN2 HN4
  go_wp2_with fail
  have HWP : Hid (w.heap.size ≤ p ∧ p < g ∧ V.heap.size ≤ g) := Lib.hid ⟨HP.out.1, by have := HP.out.2; have := HG.out.2; omega, HG.out.2⟩
  have HXX : Hid (∀ x : World, Below g W1 x → Below V.heap.size V x) := Lib.hid fun x hx => HBC.out.trans (hx.mono HWP.out.2.2)
  have HAL : Hid (n.at_.length = 10) := Lib.hid rfl
  clear HG
  go_loopw [5] (fun iv wr => ∃ (k : Nat) (v : Value), k ≤ 10 ∧ iv = .int .i64 (k : Int) ∧ OwnJ (g + 1) wr v (n.at_.take k) ∧ wr.heap[g]? = some (.cells #[.int .i64 (n.ki : Int), .int .i64 (n.ln : Int), .int .i64 (n.sz : Int), v] 34 (0, 0)) ∧ Below g W1 wr) (fun iv _ => 10 - (intOf iv).toNat)
  case atStart => exact ⟨0, _, Nat.zero_le _, rfl, ownJ_nil _ _, HGH.out, HGB.out⟩
  case round =>
    obtain ⟨k, v, hk, rfl, hO, hH, hB⟩ := hrel
    obtain ⟨va, vn, vc, rfl⟩ := ownJ_slice hO
    have HO := Lib.hid hO
    have HH := Lib.hid hH
    have HB := Lib.hid hB
    clear hO hH hB
    by_cases hlt : k < 10
    · have t1 : decide ((k : Int) < 10) = true := by simp; omega
      have HNQ := Lib.hid fun (y : World) (hy : Below V.heap.size V y) => HNK.out y k hy hlt
      have HTK0 : Hid (n.at_.take (k + 1) = n.at_.take k ++ [n.at_.getD k 0]) := Lib.hid (take_snoc_getD _ k (by rw [HAL.out]; exact hlt))
      have hxl : n.at_.getD k 0 < 4294967296 := by
        rw [getD_in _ _ (by rw [HAL.out]; exact hlt)]
        exact HFA.out _ (List.getElem_mem _)
      obtain ⟨x, hx⟩ : ∃ x, n.at_.getD k 0 = x := ⟨_, rfl⟩
      obtain ⟨q4, hq4⟩ : ∃ q, 4 * k = q := ⟨_, rfl⟩
      obtain ⟨q8, hq8⟩ : ∃ q, 8 + q4 = q := ⟨_, rfl⟩
      rw [hx] at HNQ HTK0 hxl
      rw [hq4, hq8] at HNQ
      have e1 : (4 : Int) * (k : Int) = (q4 : Int) := by omega
      have e2 : IntKind.i64.wrap (q4 : Int) = (q4 : Int) := by rw [IntKind.wrap_i64]; omega
      have e3 : (8 : Int) + (q4 : Int) = (q8 : Int) := by omega
      have e4 : IntKind.i64.wrap (q8 : Int) = (q8 : Int) := by rw [IntKind.wrap_i64]; omega
      have hwx : IntKind.i64.wrap (x : Int) = (x : Int) := by rw [IntKind.wrap_i64]; omega
      have HTK : Hid (valj (n.at_.take (k + 1)) = valj (n.at_.take k) ++ [.int .i64 (x : Int)] ∧ (n.at_.take (k + 1)).length = k + 1) := Lib.hid ⟨by
        rw [HTK0.out]; simp [valj], by rw [List.length_take, HAL.out]; clear hwx e2 e4; omega⟩
      have HTL : Hid ((n.at_.take k).length = k) := Lib.hid (by rw [List.length_take, HAL.out]; clear hwx e2 e4; omega)
      have z1 : wr.cell? ⟨g, 3, none⟩ = some (.slice va vn vc) := (pt_four HH.out).2.2.2
      have z1a := pt_step z1 (bel_alloc (Below.refl _ wr) (.cells #[.int .i64 (x : Int)] 2))
      have hps : g < wr.heap.size := (Array.getElem?_eq_some_iff.1 HH.out).1
      have hs1 : g + 1 ≤ wr.heap.size := hps
      have hown : (wr.alloc (.cells #[.int .i64 (x : Int)] 2)).drew.ownsRow (g + 1) 2 1 (.slice va vn vc) k (valj (n.at_.take k)) := by
        have := ownJ_below HO.out (bel_alloc (Below.refl _ wr) (.cells #[.int .i64 (x : Int)] 2)).drew
        unfold OwnJ at this
        rw [HTL.out] at this
        exact this
      have hkH : (wr.alloc (.cells #[.int .i64 (x : Int)] 2)).drew.heap.size = wr.heap.size + 1 := by simp
      have HK : Hid (k + 1 ≤ maxLen ∧ (k + 1) * 8 ≤ 140737488355328 ∧ (wr.alloc (.cells #[.int .i64 (x : Int)] 2)).drew.heap.size = wr.heap.size + 1 ∧ g + 1 ≤ (wr.alloc (.cells #[.int .i64 (x : Int)] 2)).drew.heap.size) := Lib.hid ⟨by unfold maxLen; clear hwx e2 e4; omega, by clear hwx e2 e4; omega, hkH, by rw [hkH]; exact Nat.le_succ_of_le hs1⟩
      have HWR := Lib.hid (HXX.out wr HB.out)
      obtain ⟨hi, hz0, hz1, hz2⟩ := HI.out
      clear hkH hx hq4 hq8 hxl HTK0
      go_upto_region 7 with fail
      go_region_law (first
        | (go_simp; go_at_call 37; ((with_reducible refine (HNQ.out _ ?_).mono ?_)); (· exact HWR.out.drew); (intro e y hr; obtain ⟨rfl, rfl⟩ := hr))
        | (refine step_append_lies _ (by rfl) _ _ _ (by rfl) (g + 1) 2 i0 _ 1 8 Try.underlying32 hi hz0 hz1 hz2 rfl (by decide) _ k _ (by rfl) hown ⟨wr.heap.size, 0, none⟩ 1 1 [.int .i64 (x : Int)] (by rfl) (by rfl) (World.news_of_block (cs := #[.int .i64 (x : Int)]) (t := 2) (fr := (0, 0)) (heap_alloc_new wr _)) (by simp [Value.oneCell']) Nat.one_pos HK.out.1 HK.out.2.1 HK.out.2.2.2 (wr.heap.size + 1) HK.out.2.2.1 ?_; intro g2 c2' w5 hown1 hgrow hat hlt3; have hb5 : Below (g + 1) wr w5 := ((Below.refl (g + 1) wr).alloc hs1 _).drew.trans ((Below.refl (g + 1) _).grown hgrow HK.out.2.2.2 (fun q hq => (hown.lt q hq).1)); have h5 : w5.heap[g]? = some (.cells #[.int .i64 (n.ki : Int), .int .i64 (n.ln : Int), .int .i64 (n.sz : Int), .slice va vn vc] 34 (0, 0)) := (hb5.block g (Nat.lt_succ_self g)).trans HH.out; have H5 := Lib.hid h5; have HB5 := Lib.hid hb5; have z1b := (pt_four h5).2.2.2; have zf := pt_free h5 3; clear h5 hgrow hat hb5))
      all_goals
        have hN : Hid (OwnJ (g + 1) (w5.setCell ⟨g, 3, none⟩ (.slice (some ⟨g2, 0, none⟩) (k + 1) c2')) (.slice (some ⟨g2, 0, none⟩) (k + 1) c2') (n.at_.take (k + 1)) ∧ (w5.setCell ⟨g, 3, none⟩ (.slice (some ⟨g2, 0, none⟩) (k + 1) c2')).heap[g]? = some (.cells #[.int .i64 (n.ki : Int), .int .i64 (n.ln : Int), .int .i64 (n.sz : Int), .slice (some ⟨g2, 0, none⟩) (k + 1) c2'] 34 (0, 0)) ∧ Below g W1 (w5.setCell ⟨g, 3, none⟩ (.slice (some ⟨g2, 0, none⟩) (k + 1) c2'))) := Lib.hid ⟨by
          unfold OwnJ
          rw [HTK.out.1, HTK.out.2]
          exact ownsRow_setCell_below (a := ⟨g, 3, none⟩) hown1 (Nat.lt_succ_self g) _, by
          have := heap_setCell_same w5 g 3 _ _ (.slice (some ⟨g2, 0, none⟩) (k + 1) c2') H5.out
          simpa using this, (HB.out.trans (HB5.out.mono (Nat.le_succ g))).setCell (p := ⟨g, 3, none⟩) (Nat.le_refl g) _⟩
        clear hown hown1 hlt3 z1 z1a z1b zf hi hz0 hz1 hz2 hwx e2 e4
        go_wp2_with fail
        go_roundw
        case rel => exact ⟨k + 1, _, by omega, by go_num, hN.out.1, hN.out.2.1, hN.out.2.2⟩
        case measure => simp [intOf]; omega
    · obtain rfl : k = 10 := by omega
      have t1 : decide (((10 : Nat) : Int) < 10) = false := by decide
      have ho := HO.out
      rw [List.take_of_length_le (by rw [HAL.out]; exact Nat.le_refl _)] at ho
      have HMO := Lib.hid ho
      have hv := HXX.out wr HB.out
      obtain ⟨d0, d1, d2, d3⟩ := pt_four HH.out
      obtain ⟨y0, y1, y2, y3⟩ := pt_four (HX.out wr hv).1
      have yf := pt_free (HX.out wr hv).1
      have f0 := yf 0
      have f1 := yf 1
      have f2 := yf 2
      have f3 := yf 3
      have HV := Lib.hid hv
      clear ho HO yf hv
      go_wp2_with fail
      have hb0 : p < g + 1 := Nat.lt_succ_of_lt HWP.out.2.1
      have hbw : w.heap.size ≤ p := HWP.out.1
      obtain ⟨r0, r1, r2, r3⟩ := pt_four (pt_put4 (HX.out wr HV.out).1 (.int .i64 (n.ki : Int)) (.int .i64 (n.ln : Int)) (.int .i64 (n.sz : Int)) (.slice va vn vc))
      have hMZ : OwnJ (g + 1) ((((wr.setCell ⟨p, 0, none⟩ (.int .i64 (n.ki : Int))).setCell ⟨p, 1, none⟩ (.int .i64 (n.ln : Int))).setCell ⟨p, 2, none⟩ (.int .i64 (n.sz : Int))).setCell ⟨p, 3, none⟩ (.slice va vn vc)) (.slice va vn vc) n.at_ := ownsRow_setCell_below (a := ⟨p, 3, none⟩) (ownsRow_setCell_below (a := ⟨p, 2, none⟩) (ownsRow_setCell_below (a := ⟨p, 1, none⟩) (ownsRow_setCell_below (a := ⟨p, 0, none⟩) HMO.out hb0 _) hb0 _) hb0 _) hb0 _
      have hBZ : Below w.heap.size w ((((wr.setCell ⟨p, 0, none⟩ (.int .i64 (n.ki : Int))).setCell ⟨p, 1, none⟩ (.int .i64 (n.ln : Int))).setCell ⟨p, 2, none⟩ (.int .i64 (n.sz : Int))).setCell ⟨p, 3, none⟩ (.slice va vn vc)) := ((((HX.out wr HV.out).2.1.setCell (p := ⟨p, 0, none⟩) hbw _).setCell (p := ⟨p, 1, none⟩) hbw _).setCell (p := ⟨p, 2, none⟩) hbw _).setCell (p := ⟨p, 3, none⟩) hbw _
      obtain ⟨a1, c1, e1, hr1⟩ := ownJ_row hMZ HFA.out
      cases e1
      refine bodyPost_ret (v := .tuple #[.agg #[.int .i64 (n.ki : Int), .int .i64 (n.ln : Int), .int .i64 (n.sz : Int), .slice va 10 vc], .int .i64 0]) ?_ rfl ⟨va, vc, rfl, hr1, hBZ⟩
      simp [results, Try.results15, go_sem, r0, r1, r2, r3]
      rfl
end Go.Proofs.Ytnnaijeapapehaa
