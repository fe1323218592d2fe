/- WearSpreads: walked. -/
import Derived.Test.YtjimgbeockfpmaaWearSp
import Derived.Test.YtjimgbeockfpmaaWearIn
namespace Go.Proofs.Ytjimgbeockfpmaa
open Go.RowKit

theorem many_segs (x : Int) : ∃ n : Nat, 4 ≤ n ∧ n ≤ 15 ∧ wrap64 (4 + wrap64 ((IntKind.u64.wrap x).tmod 12)) = (n : Int) := by
  have h0 : 0 ≤ IntKind.u64.wrap x := by
    simp only [IntKind.wrap, IntKind.bits, IntKind.signed]
    simp
    omega
  have h1 := Int.tmod_nonneg 12 h0
  have h2 := Int.tmod_lt_of_pos (IntKind.u64.wrap x) (show (0 : Int) < 12 by decide)
  obtain ⟨t, ht⟩ : ∃ t, t = (IntKind.u64.wrap x).tmod 12 := ⟨_, rfl⟩
  rw [← ht] at h1 h2 ⊢
  refine ⟨(4 + t).toNat, by omega, by omega, ?_⟩
  rw [IntWalk.wrap64_in t (by omega), IntWalk.wrap64_in _ (by omega)]
  omega
theorem wearSpreads_big (x : Int) (a : Option Addr) (len cap : Nat) (w : World) (hl : 400 < len) :
    Calls Try.prog 5 #[.int .i64 x, .slice a len cap] w fun e w' => e = .returned (.bool true) ∧ Below w.heap.size w w' := by
  have t1 : decide ((400 : Int) < (len : Int)) = true := by simp; omega
  have t2 : decide (400 < len) = true := by simpa using hl
  go_enter Try.func5, Try.ntmps5
  go_wp2_with fail
  refine (chosen_any w).mono ?_
  rintro e w1 ⟨rfl, hb1⟩
  go_wp2_with fail
  refine (chosen_any w1).mono ?_
  rintro e w2 ⟨rfl, hb2⟩
  go_wp2_with fail
  go_ret
  exact ⟨rfl, wbel_trans hb1 hb2⟩
theorem freshL_cells (n : Nat) : (madeCells #[Value.int .i64 0, Value.int .i64 0, Value.int .u32 0] (n * 3)).toList = (freshL n).flatMap SegV.cl := by
  have hfl : (freshL n).length = n := by simp [freshL]
  apply List.ext_getElem?
  intro t
  rcases Nat.lt_or_ge t (n * 3) with h | h
  · have h1 := flatG_at (freshL n) (t / 3) (t % 3) (by rw [hfl]; omega) (Nat.mod_lt _ (by decide))
    rw [show t / 3 * 3 + t % 3 = t by omega, freshL_at] at h1
    rw [h1]
    rcases (show t % 3 = 0 ∨ t % 3 = 1 ∨ t % 3 = 2 by omega) with e | e | e <;> simp [madeCells, h, e, SegV.cl, SegV.nil]
  · rw [List.getElem?_eq_none (by rw [Array.length_toList, size_madeCells]; exact h), List.getElem?_eq_none (by rw [flatG_len, hfl]; exact h)]
set_option maxRecDepth 100000 in
set_option maxHeartbeats 4000000 in
theorem wearSpreads_small (x : Int) (a : Option Addr) (len cap : Nat) (zs : List Int) (w : World) (hr : RowZ w a len zs) (hlc : len ≤ cap) (hl : ¬ 400 < len) :
    Calls Try.prog 5 #[.int .i64 x, .slice a len cap] w fun e w' => e = .returned (.bool true) ∧ Below w.heap.size w w' := by
  have t1 : decide ((400 : Int) < (len : Int)) = false := by simp; omega
  have t2 : decide (400 < len) = false := by simpa using hl
  have HZS := Lib.hid hr
  obtain ⟨i0, hi, hz0, hz1, hzb⟩ := info_partsW info_seg
  go_enter Try.func5, Try.ntmps5
  go_wp2_with fail
  refine (chosen_any w).mono ?_
  rintro e w1 ⟨rfl, hb1⟩
  go_upto_region 4 with fail
  obtain ⟨n, hn4, hn15, hne⟩ := many_segs x
  rw [hne]
  clear hne hr
  go_wp2_with (refine wpList_make_full w1 rfl _ _ 22 rfl w.heap.size 33 i0 _ 3 Try.underlying22 hi hz0 hz1 .i64 .i64 _ _ n rfl rfl ?c4 ?c5 ?c1 ?c2 ?c3 ?_)
  case c1 => rw [hzb]; omega
  case c2 => unfold maxLen; omega
  case c3 => exact hb1.size
  case c4 => rfl
  case c5 => rfl
  intro w2 hown hg
  have hb2 : Below w.heap.size w w2 := hb1.trans ((Below.refl _ w1).grown hg (Nat.le_refl _) (fun k hk => by cases hk) |>.mono hb1.size)
  obtain ⟨q, hq⟩ : ∃ q, q = w1.heap.size := ⟨_, rfl⟩
  rw [← hq] at hown ⊢
  have hm2 : MutG w.heap.size w2 (.slice (some ⟨q, 0, none⟩) n n) (freshL n) := by
    refine mutG_own (fun s hs => ?_) ?_
    · rw [List.eq_of_mem_replicate hs]; decide
    · rw [show (freshL n).length = n by simp [freshL], ← freshL_cells]; exact hown
  have HM0 := Lib.hid hm2
  have HB0 := Lib.hid hb2
  have HQ : Hid (w.heap.size ≤ q) := Lib.hid (by rw [hq]; exact hb1.size)
  clear hg hown hm2 hb1 hb2 hq hi hz0 hz1 hzb
  go_wp2_with fail
  go_loopw [6] (fun iv wr => ∃ (i : Nat) (L : List SegV), i ≤ len ∧ iv = .int .i64 (i : Int) ∧ MutG w.heap.size wr (.slice (some ⟨q, 0, none⟩) n n) L ∧ SpI L n i ∧ Below w.heap.size w wr) (fun iv _ => len - (intOf iv).toNat)
  case atStart => exact ⟨0, freshL n, Nat.zero_le _, rfl, HM0.out, spI_fresh n hn4, HB0.out⟩
  case round =>
    obtain ⟨i, L, hil, rfl, hM, hS, hB⟩ := hrel
    have HM := Lib.hid hM
    have HS := Lib.hid hS
    have HB := Lib.hid hB
    have hLl := hS.len
    have hrow : RowG wr (some ⟨q, 0, none⟩) n L := by
      obtain ⟨_, _, e, _, _, h4, _⟩ := hM
      rw [hLl] at e h4
      obtain ⟨rfl, _⟩ := (by simpa using e)
      exact h4
    have HROW := Lib.hid hrow
    clear hM hS hB HM0 HB0 hrow
    by_cases hlt : i < len
    · have t3 : decide (i < len) = true := by simpa using hlt
      obtain ⟨zb, zo, rfl, hzc⟩ := HZS.out.2.2 (by omega)
      obtain ⟨z, hz⟩ : ∃ z, z = zs.getD i 0 := ⟨_, rfl⟩
      have HZ : Hid (w.cell? ⟨zb, zo + i, none⟩ = some (.int .i64 z)) := Lib.hid (by rw [hz]; exact hzc i hlt)
      clear hz hzc
      have hi0 : (0 : Int) ≤ (i : Int) := by omega
      have hi1 : (i : Int) < (len : Int) := by omega
      go_wp2_with fail
      refine (count_any _ _ _ L 0 _ HROW.out (Nat.le_refl _) (by unfold maxLen; omega)).mono ?_
      rintro e wc ⟨rfl, hbc⟩
      by_cases h2 : cntK 0 L n < 2
      · have t4 : decide ((cntK 0 L n : Int) < 2) = true := by simp; omega
        go_wp2_with fail
        refine (victim_any _ _ _ L _ (HROW.out.step hbc) (Nat.le_refl _) (by unfold maxLen; omega)).mono ?_
        rintro e wv ⟨r, rfl, hv, hbv⟩
        obtain ⟨v, rfl, hvn, hvk⟩ := spI_closed HS.out h2 hv
        have hMv : MutG w.heap.size wv (.slice (some ⟨q, 0, none⟩) n n) L := (HM.out.step hbc).step hbv
        obtain ⟨q', c', cs, hsv, _, _, _, _, hh, _, hc⟩ := hMv.at (k := v) (by rw [hLl]; exact hvn)
        rw [hLl] at hsv
        obtain ⟨rfl, rfl⟩ : q = q' ∧ n = c' := by simpa using hsv
        obtain ⟨d0, d1, d2⟩ := hc v (by rw [hLl]; exact hvn)
        rw [hvk] at d0
        have hBv : Below w.heap.size w wv := wbel_trans (wbel_trans HB.out hbc) hbv
        have zf0 := fun o => frozen_of_row wv q o cs _ hh
        have zf1 := zf0 (v * 3)
        have zf2 := zf0 (v * 3 + 1)
        have zf3 := zf0 (v * 3 + 2)
        obtain ⟨vv, hvv⟩ : ∃ x, x = (L.getD v SegV.nil).e := ⟨_, rfl⟩
        rw [← hvv] at d2
        have m0 : decide ((v : Int) < 0) = false := by simp
        have m1 : decide ((n : Int) ≤ (v : Int)) = false := by simp; omega
        have m2 : decide (n ≤ v) = false := by simp; omega
        have m3 : (0 : Int) ≤ (v : Int) := by omega
        have m4 : (v : Int) < (n : Int) := by omega
        obtain ⟨M, hMd⟩ : ∃ M, M = L.set v ⟨0, 0, vv⟩ := ⟨_, rfl⟩
        have hMM : MutG w.heap.size (((wv.setCell ⟨q, v * 3, none⟩ (.int .i64 0)).setCell ⟨q, v * 3 + 1, none⟩ (.int .i64 0)).setCell ⟨q, v * 3 + 2, none⟩ (.int .u32 (vv : Int))) (.slice (some ⟨q, 0, none⟩) n n) M := by
          have h1 := hMv
          rw [← hLl] at h1
          have h2 := h1.setS (k := v) (by rw [hLl]; exact hvn) ⟨0, 0, vv⟩ (by show vv < _; rw [hvv]; exact getD_e HROW.out.2.1 v)
          rw [hLl, ← hMd] at h2
          exact h2
        have hBM : Below w.heap.size w (((wv.setCell ⟨q, v * 3, none⟩ (.int .i64 0)).setCell ⟨q, v * 3 + 1, none⟩ (.int .i64 0)).setCell ⟨q, v * 3 + 2, none⟩ (.int .u32 (vv : Int))) := ((hBv.setCell (p := ⟨q, v * 3, none⟩) HQ.out _).setCell (p := ⟨q, v * 3 + 1, none⟩) HQ.out _).setCell (p := ⟨q, v * 3 + 2, none⟩) HQ.out _
        have hMlen : M.length = n := by rw [hMd, List.length_set]; exact hLl
        have hMe : ∀ j, (M.getD j SegV.nil).e = (L.getD j SegV.nil).e := by
          intro j; rw [hMd, setG_at L v j _ (by rw [hLl]; exact hvn)]; split
          · rename_i e; subst e; exact hvv
          · rfl
        have hMp : 1 ≤ cntK 0 M n := cntK_pos hvn (by rw [hMd, setG_at L v v _ (by rw [hLl]; exact hvn), if_pos rfl])
        have hMs : ∀ (m : Nat) (r : Int) (X : Int), FirstIs ordN 0 M n r → r = (m : Int) → SpI (M.set m ⟨2, X, (M.getD m SegV.nil).e + 1⟩) n (i + 1) := by
          intro m r X hf hrm
          rw [hMd, hvv] at hf ⊢
          exact spI_one HS.out h2 hv hvn hvk hf hrm X
        have hMr : RowG (((wv.setCell ⟨q, v * 3, none⟩ (.int .i64 0)).setCell ⟨q, v * 3 + 1, none⟩ (.int .i64 0)).setCell ⟨q, v * 3 + 2, none⟩ (.int .u32 (vv : Int))) (some ⟨q, 0, none⟩) n M := by
          obtain ⟨_, _, e, _, _, h4, _⟩ := hMM
          rw [hMlen] at e h4
          obtain ⟨rfl, _⟩ := (by simpa using e)
          exact h4
        have hMf : ∀ m, m < n → (M.getD m SegV.nil).e ≤ i := fun m hm => by rw [hMe]; exact HS.out.few m hm
        have HMM := Lib.hid hMM
        have HBM := Lib.hid hBM
        have HMS := Lib.hid hMs
        have HMR := Lib.hid hMr
        have HMF := Lib.hid hMf
        have HMP := Lib.hid hMp
        have HML := Lib.hid hMlen
        clear hv hbv hMv hh hc hsv hBv zf0 hvv hMd hMM hBM hMe hMs hMr hvk hbc hLl hMf hMp hMlen h2
        go_upto_region 13 with fail
        generalize (((wv.setCell ⟨q, v * 3, none⟩ (.int .i64 0)).setCell ⟨q, v * 3 + 1, none⟩ (.int .i64 0)).setCell ⟨q, v * 3 + 2, none⟩ (.int .u32 (vv : Int))) = wm at HMM HBM HMR ⊢
        clear d0 d1 d2 zf1 zf2 zf3
        go_wp2_with fail
        refine (next_any _ _ _ M _ HMR.out (Nat.le_refl _) (by unfold maxLen; omega)).mono ?_
        rintro e wn ⟨r, rfl, hf, hbn⟩
        obtain ⟨m, rfl, hm, hmk⟩ := next_free (HMP.out) hf
        have hMn : MutG w.heap.size wn (.slice (some ⟨q, 0, none⟩) n n) M := (HMM.out).step hbn
        have hMl : (M).length = n := HML.out
        obtain ⟨q', c', cs', hsv', _, _, _, _, hh', _, hc'⟩ := hMn.at (k := m) (by rw [hMl]; exact hm)
        rw [hMl] at hsv'
        obtain ⟨rfl, rfl⟩ : q = q' ∧ n = c' := by simpa using hsv'
        obtain ⟨d0, d1, d2⟩ := hc' m (by rw [hMl]; exact hm)
        rw [hmk] at d0
        have hBn : Below w.heap.size w wn := (HBM.out).trans (hbn.mono (HBM.out).size)
        have zf0 := fun o => frozen_of_row wn q o cs' _ hh'
        have zf1 := zf0 (m * 3)
        have zf2 := zf0 (m * 3 + 1)
        have zf3 := zf0 (m * 3 + 2)
        obtain ⟨ev, hev⟩ : ∃ x, x = ((M).getD m SegV.nil).e := ⟨_, rfl⟩
        rw [← hev] at d2
        have hevl : ev ≤ i := by rw [hev]; exact HMF.out m hm
        have hw : IntKind.u32.wrap ((ev : Int) + 1) = ((ev + 1 : Nat) : Int) := by
          rw [show ((ev : Int) + 1) = ((ev + 1 : Nat) : Int) by omega]; exact wrap_u32n _ (by omega)
        have m0 : decide ((m : Int) < 0) = false := by simp
        have m1 : decide ((n : Int) ≤ (m : Int)) = false := by simp; omega
        have m2 : decide (n ≤ m) = false := by simp; omega
        have m3 : (0 : Int) ≤ (m : Int) := by omega
        have m4 : (m : Int) < (n : Int) := by omega
        have zc : wn.cell? ⟨zb, zo + i, none⟩ = some (.int .i64 z) := wcell_step HZ.out hBn
        have HN : Hid (∀ X : Int, MutG w.heap.size ((((wn.setCell ⟨q, m * 3, none⟩ (.int .i64 2)).setCell ⟨q, m * 3 + 1, none⟩ (.int .i64 X)).setCell ⟨q, m * 3 + 2, none⟩ (.int .u32 ((ev : Int) + 1))).drew) (.slice (some ⟨q, 0, none⟩) n n) ((M).set m ⟨2, X, ev + 1⟩) ∧ Below w.heap.size w ((((wn.setCell ⟨q, m * 3, none⟩ (.int .i64 2)).setCell ⟨q, m * 3 + 1, none⟩ (.int .i64 X)).setCell ⟨q, m * 3 + 2, none⟩ (.int .u32 ((ev : Int) + 1))).drew) ∧ SpI ((M).set m ⟨2, X, ev + 1⟩) n (i + 1)) := Lib.hid fun X => ⟨by
          have h1 := hMn
          rw [← hMl] at h1
          have h2 := h1.setS (k := m) (by rw [hMl]; exact hm) ⟨2, X, ev + 1⟩ (by show ev + 1 < _; omega)
          rw [hMl] at h2
          exact h2.step (Below.refl _ _).drew, (((hBn.setCell (p := ⟨q, m * 3, none⟩) HQ.out _).setCell (p := ⟨q, m * 3 + 1, none⟩) HQ.out _).setCell (p := ⟨q, m * 3 + 2, none⟩) HQ.out _).drew, by
          rw [hev]; exact HMS.out m _ X hf rfl⟩
        have HWW := Lib.hid hw
        clear hf hbn hMn hMl hh' hc' hsv' zf0 hev hBn hmk hw 
        go_upto_region 16 with fail
        go_region
        clear d0 d1 d2 zc zf1 zf2 zf3
        go_wp2_with fail
        go_roundw
        case rel => exact ⟨i + 1, _, by omega, by go_num, (HN.out _).1, (HN.out _).2.2, (HN.out _).2.1⟩
        case measure => simp [intOf]; omega
      · have t4 : decide ((cntK 0 L n : Int) < 2) = false := by simp; omega
        have hBc : Below w.heap.size w wc := wbel_trans HB.out hbc
        have HBC := Lib.hid hBc
        have HMC : Hid (MutG w.heap.size wc (.slice (some ⟨q, 0, none⟩) n n) L) := Lib.hid (HM.out.step hbc)
        have HRC := Lib.hid (HROW.out.step hbc)
        have H2 := Lib.hid h2
        clear hBc hbc h2
        go_wp2_with fail
        refine (next_any _ _ _ L _ HRC.out (Nat.le_refl _) (by unfold maxLen; omega)).mono ?_
        rintro e wn ⟨r, rfl, hf, hbn⟩
        obtain ⟨m, rfl, hm, hmk⟩ := next_free ((by have := H2.out; omega)) hf
        have hMn : MutG w.heap.size wn (.slice (some ⟨q, 0, none⟩) n n) L := (HMC.out).step hbn
        have hMl : (L).length = n := hLl
        obtain ⟨q', c', cs', hsv', _, _, _, _, hh', _, hc'⟩ := hMn.at (k := m) (by rw [hMl]; exact hm)
        rw [hMl] at hsv'
        obtain ⟨rfl, rfl⟩ : q = q' ∧ n = c' := by simpa using hsv'
        obtain ⟨d0, d1, d2⟩ := hc' m (by rw [hMl]; exact hm)
        rw [hmk] at d0
        have hBn : Below w.heap.size w wn := (HBC.out).trans (hbn.mono (HBC.out).size)
        have zf0 := fun o => frozen_of_row wn q o cs' _ hh'
        have zf1 := zf0 (m * 3)
        have zf2 := zf0 (m * 3 + 1)
        have zf3 := zf0 (m * 3 + 2)
        obtain ⟨ev, hev⟩ : ∃ x, x = ((L).getD m SegV.nil).e := ⟨_, rfl⟩
        rw [← hev] at d2
        have hevl : ev ≤ i := by rw [hev]; exact HS.out.few m hm
        have hw : IntKind.u32.wrap ((ev : Int) + 1) = ((ev + 1 : Nat) : Int) := by
          rw [show ((ev : Int) + 1) = ((ev + 1 : Nat) : Int) by omega]; exact wrap_u32n _ (by omega)
        have m0 : decide ((m : Int) < 0) = false := by simp
        have m1 : decide ((n : Int) ≤ (m : Int)) = false := by simp; omega
        have m2 : decide (n ≤ m) = false := by simp; omega
        have m3 : (0 : Int) ≤ (m : Int) := by omega
        have m4 : (m : Int) < (n : Int) := by omega
        have zc : wn.cell? ⟨zb, zo + i, none⟩ = some (.int .i64 z) := wcell_step HZ.out hBn
        have HN : Hid (∀ X : Int, MutG w.heap.size ((((wn.setCell ⟨q, m * 3, none⟩ (.int .i64 2)).setCell ⟨q, m * 3 + 1, none⟩ (.int .i64 X)).setCell ⟨q, m * 3 + 2, none⟩ (.int .u32 ((ev : Int) + 1))).drew) (.slice (some ⟨q, 0, none⟩) n n) ((L).set m ⟨2, X, ev + 1⟩) ∧ Below w.heap.size w ((((wn.setCell ⟨q, m * 3, none⟩ (.int .i64 2)).setCell ⟨q, m * 3 + 1, none⟩ (.int .i64 X)).setCell ⟨q, m * 3 + 2, none⟩ (.int .u32 ((ev : Int) + 1))).drew) ∧ SpI ((L).set m ⟨2, X, ev + 1⟩) n (i + 1)) := Lib.hid fun X => ⟨by
          have h1 := hMn
          rw [← hMl] at h1
          have h2 := h1.setS (k := m) (by rw [hMl]; exact hm) ⟨2, X, ev + 1⟩ (by show ev + 1 < _; omega)
          rw [hMl] at h2
          exact h2.step (Below.refl _ _).drew, (((hBn.setCell (p := ⟨q, m * 3, none⟩) HQ.out _).setCell (p := ⟨q, m * 3 + 1, none⟩) HQ.out _).setCell (p := ⟨q, m * 3 + 2, none⟩) HQ.out _).drew, by
          rw [hev]; exact spI_many HS.out (by have := H2.out; omega) hm hmk X⟩
        have HWW := Lib.hid hw
        clear hf hbn hMn hMl hh' hc' hsv' zf0 hev hBn hmk hw hLl
        go_upto_region 16 with fail
        go_region
        clear d0 d1 d2 zc zf1 zf2 zf3
        go_wp2_with fail
        go_roundw
        case rel => exact ⟨i + 1, _, by omega, by go_num, (HN.out _).1, (HN.out _).2.2, (HN.out _).2.1⟩
        case measure => simp [intOf]; omega
    · obtain rfl : i = len := by omega
      have t3 : decide (i < i) = false := by simp
      have hp : 0 < n := by omega
      obtain ⟨_, _, e, _, hc⟩ := rowG_at HROW.out hp
      cases e
      have HC := Lib.hid hc
      obtain ⟨_, _, c2⟩ := hc 0 hp
      simp only [Nat.zero_mul, Nat.zero_add] at c2
      have hpi : (0 : Int) < (n : Int) := by omega
      have HE := Lib.hid (spI_end HS.out)
      have HL := Lib.hid HROW.out.2.1
      clear hc hLl HM HS HROW
      rename World => wy
      go_upto_region 17 with fail
      go_region
      go_wp2_with fail
      go_loopw [11, 9, 10] (fun iv t u wx => ∃ (k : Nat), k ≤ n ∧ iv = .int .i64 (k : Int) ∧ t = .int .u32 (leE L k : Int) ∧ u = .int .u32 (moE L k : Int) ∧ Below wy.heap.size wy wx) (fun iv _ _ _ => n - (intOf iv).toNat)
      case atStart => exact ⟨0, Nat.zero_le _, rfl, by simp [leE, List.getD], by simp [moE, List.getD], (Below.refl _ _).drew⟩
      case round =>
        obtain ⟨k, hk, rfl, rfl, rfl, hB2⟩ := hrel
        have HB2 := Lib.hid hB2
        clear hB2 c2
        by_cases hkn : k < n
        · have t5 : decide (k < n) = true := by simpa using hkn
          have c2 := wcell_step (HC.out k hkn).2.2 HB2.out
          rw [Nat.zero_add] at c2
          obtain ⟨ev, hev⟩ : ∃ x, x = (L.getD k SegV.nil).e := ⟨_, rfl⟩
          rw [← hev] at c2
          have k0 : (0 : Int) ≤ (k : Int) := by omega
          have k1 : (k : Int) < (n : Int) := by omega
          have y1 : (if ev < leE L k then (ev : Int) else (leE L k : Int)) = (leE L (k + 1) : Int) := by
            rw [hev]; show _ = ((min (leE L k) (L.getD k SegV.nil).e : Nat) : Int)
            split <;> omega
          have y2 : (if moE L k < ev then (ev : Int) else (moE L k : Int)) = (moE L (k + 1) : Int) := by
            rw [hev]; show _ = ((max (moE L k) (L.getD k SegV.nil).e : Nat) : Int)
            split <;> omega
          have Y1 := Lib.hid y1
          have Y2 := Lib.hid y2
          clear hev y1 y2
          go_wp2_with fail
          go_roundw
          case rel => exact ⟨k + 1, by omega, by go_num, by rw [← Y1.out], by rw [← Y2.out], HB2.out⟩
          case measure => simp [intOf]; omega
        · obtain rfl : k = n := by omega
          have t5 : decide (k < k) = false := by simp
          obtain ⟨sp, hsp⟩ : ∃ s, s = moE L k - leE L k := ⟨_, rfl⟩
          have hs9 : sp ≤ 9 := by rw [hsp]; exact HE.out
          have hw1 : IntKind.u32.wrap ((moE L k : Int) - (leE L k : Int)) = (sp : Int) := by
            have h1 := leE_le_moE L k
            have h2 := moE_lt HL.out k
            rw [show (moE L k : Int) - (leE L k : Int) = ((moE L k - leE L k : Nat) : Int) by omega, ← hsp]
            exact wrap_u32n _ (by omega)
          have hw2 : IntKind.u32.wrap (k : Int) = (k : Int) := wrap_u32n _ (by omega)
          have hw3 : IntKind.u32.wrap (10 + (k : Int)) = 10 + (k : Int) := by
            rw [show (10 : Int) + (k : Int) = ((10 + k : Nat) : Int) by omega]; exact wrap_u32n _ (by omega)
          have t6 : decide ((sp : Int) ≤ 10 + (k : Int)) = true := by simp; omega
          have HBE : Hid (Below w.heap.size w wr) := Lib.hid (wbel_trans HB.out HB2.out)
          clear hsp HE HL HC
          go_wp2_with fail
          go_ret
          exact ⟨by first | rfl | simp [hw1, hw2, hw3, t6], HBE.out⟩
theorem wearSpreads_all (x : Int) (a : Option Addr) (len cap : Nat) (zs : List Int) (w : World) (hr : RowZ w a len zs ∧ len ≤ cap ∧ cap ≤ maxLen) :
    Calls Try.prog 5 #[.int .i64 x, .slice a len cap] w fun e w' => e = .returned (.bool true) ∧ Below w.heap.size w w' := by
  by_cases h : 400 < len
  · exact wearSpreads_big x a len cap w h
  · exact wearSpreads_small x a len cap zs w hr.1 hr.2.1 h
theorem wearSpreads_fr (x : Int) (a : Option Addr) (len cap : Nat) (zs : List Int) (w : World) (_ : (Lit.int .i64 x).wf = true) (hr : RowZ w a len zs ∧ len ≤ cap ∧ cap ≤ maxLen) :
    Calls Try.prog 5 #[.int .i64 x, .slice a len cap] w fun e w' => e = .returned (.bool true) ∧ Below w.heap.size w w' :=
  wearSpreads_all x a len cap zs w hr
end Go.Proofs.Ytjimgbeockfpmaa
