/- gabionref12.Check. -/
import Derived.Test.YtdljihemnfpkaaaMemRef
import Derived.Deep.DeepCutAuto
import Derived.BigQuiet
namespace Go.Proofs.Ytdljihemnfpkaaa
open Go.RowKit Go.Deep

/-- append of a whole row of ints. -/
theorem wpList_appVs {w : World} {ops : Array Oper} {rest : List Oper} {o : Oper} {a : Act} {Q : Exit → Act → World → Prop} (hgd : o.guard = none) (s x : Operand)
    (ho : o.op = .call { callee := .builtin .append, args := #[s, x], argTypes := #[29, 29] })
    (B : Nat) (sv : Value) (hs : a.eval s = sv) (hown : OwnI B w sv []) (ad : Option Addr) (len c : Nat) (L : List Int) (hx : a.eval x = .slice ad len c)
    (hr : RowI w ad len c L) (hB : B ≤ w.heap.size) (hlen : len ≤ 1000000)
    (h : ∀ v' w', OwnI B w' v' L → Below B w w' → wpList Try.prog ops Q rest (a.put o.dst v') w') : wpList Try.prog ops Q (o :: rest) a w := by
  obtain ⟨i0, hi, hz0, hz1, hz2⟩ := info_parts info_int2
  obtain ⟨r1, r2, r3, r4, r5, r6⟩ := hr
  have hvl : (valz L).length = L.length := by simp [valz]
  cases ad with
  | none =>
    obtain rfl : c = 0 := r4 rfl
    obtain rfl : len = 0 := by omega
    obtain rfl : L = [] := List.eq_nil_of_length_eq_zero r1
    exact wpList_append_own_none hgd s x _ ho B 3 i0 1 Try.underlying29 hi sv 0 [] hs hown hx (h _ _ hown (Below.refl _ _))
  | some ad =>
    refine wpList_append_own_at w hgd s x _ ho B 3 i0 _ 1 8 Try.underlying29 hi hz0 hz1 hz2 rfl (by decide) sv 0 [] hs hown ad len c (valz L) hx (by rw [hvl, r1]; simp) ?_ ?_ (by unfold maxLen; omega) (by omega) hB ?_
    · intro j u hj
      have hjl : j < len := by
        rcases Nat.lt_or_ge j len with h | h
        · exact h
        · rw [List.getElem?_eq_none (by rw [hvl, r1]; exact h)] at hj; cases hj
      obtain ⟨b, off, e, hc⟩ := r6 (by omega)
      cases e
      have hja : ((⟨b, off, none⟩ : Addr).add j) = ⟨b, off + j, none⟩ := by
        unfold Addr.add
        split
        · rename_i h; subst h; simp
        · rfl
      rw [hja, hc j hjl]
      simp [valz, show j < L.length by omega] at hj
      simp [List.getD, show j < L.length by omega, ← hj]
    · intro u hu
      simp [valz] at hu
      obtain ⟨y, _, rfl⟩ := hu
      rfl
    · intro v' w' h2 h3 _ h5
      refine h v' w' ?_ ((Below.refl B w).grown h3 hB (fun k hk => (hown.lt k hk).1))
      unfold OwnI
      rw [r1]
      simpa using h2
set_option maxRecDepth 100000 in
set_option maxHeartbeats 2000000 in
theorem refMemCheck_any (sq : Nat) (a : Option Addr) (n c : Nat) (sp de dn cs : Nat) (L : List Int) (w : World) (hr : RowI w a n c L) (hn : n ≤ 1000) (hcs : cs ≤ 16) (hsp : sp < 256) (r : Int) (hR : r = if setOk cs 20 L (sp : Int) (de : Int) (dn : Int) then 0 else 62) :
    Calls Try.prog 37 #[.agg #[.int .i64 (sq : Int), .slice a n c, .int .i64 (sp : Int), .int .i64 (de : Int), .int .i64 (dn : Int)], .agg #[.int .i64 (cs : Int), .int .i64 20, .int .i64 6, .int .i64 256]] w fun e w' => e = .returned (.int .i64 r) ∧ Below w.heap.size w w' := by
  obtain ⟨bad1, hb1⟩ : ∃ z, z = decide (n ≠ cs ∨ (de ≠ 255 ∧ cs ≤ de) ∨ 15 < dn) := ⟨_, rfl⟩
  obtain ⟨bad2, hb2⟩ : ∃ z, z = decide (0 < dn ∧ (de = 255 ∨ sp = 255)) := ⟨_, rfl⟩
  obtain ⟨LL, hLL⟩ : ∃ LL, LL = L ++ if (sp : Int) = 255 then [] else [(sp : Int)] := ⟨_, rfl⟩
  have HLN : Hid (L.length = n) := Lib.hid hr.1
  have HNC : Hid (bad1 = false → n = cs) := Lib.hid fun h => by rw [hb1] at h; simp at h; omega
  have HRR : Hid (r = if bad1 = true ∨ bad2 = true ∨ ¬ Apart cs LL then 62 else 0) := Lib.hid (by
    have hiff : setOk cs 20 L (sp : Int) (de : Int) (dn : Int) ↔ ¬ (bad1 = true ∨ bad2 = true ∨ ¬ Apart cs LL) := by
      rw [hb1, hb2, hLL]
      unfold setOk
      rw [hr.1]
      simp only [decide_eq_true_eq]
      by_cases hA : Apart cs (L ++ if (sp : Int) = 255 then [] else [(sp : Int)])
      · simp only [hA, and_true, not_true, or_false]; omega
      · simp [hA]
    rw [hR]
    by_cases h : setOk cs 20 L (sp : Int) (de : Int) (dn : Int)
    · rw [if_pos h, if_neg (hiff.1 h)]
    · rw [if_neg h, if_pos (Classical.not_not.1 fun h' => h (hiff.2 h'))])
  have HB1 := Lib.hid hb1
  have HB2 := Lib.hid hb2
  have HLL := Lib.hid hLL
  have HIN : Hid (∀ z ∈ LL, -9223372036854775808 ≤ z ∧ z ≤ 9223372036854775807) := Lib.hid (by
    intro z hz'
    rw [hLL, List.mem_append] at hz'
    rcases hz' with h | h
    · exact hr.2.2.2.2.1 z h
    · split at h
      · cases h
      · rw [List.mem_singleton] at h; subst h; omega)
  clear hb1 hb2 hLL hR
  go_enter Try.func37, Try.ntmps37
  go_upto_region 1 with fail
  obtain ⟨q0, q1, q2, q3⟩ := geoBox_new w #[.int .i64 (sq : Int), .slice a n c, .int .i64 (sp : Int), .int .i64 (de : Int), .int .i64 (dn : Int)] #[.int .i64 (cs : Int), .int .i64 20, .int .i64 6, .int .i64 256] 42 27
  obtain ⟨W, hW⟩ : ∃ x, x = (w.alloc (.cells #[.int .i64 (sq : Int), .slice a n c, .int .i64 (sp : Int), .int .i64 (de : Int), .int .i64 (dn : Int)] 42)).alloc (.cells #[.int .i64 (cs : Int), .int .i64 20, .int .i64 6, .int .i64 256] 27) := ⟨_, rfl⟩
  obtain ⟨B, hB⟩ : ∃ x, x = w.heap.size := ⟨_, rfl⟩
  rw [← hW] at q0 q1 q2 q3 ⊢
  rw [← hB] at q0 q1 q3 ⊢
  have HX : Hid (∀ x, Below W.heap.size W x → x.heap[B]? = some (.cells #[.int .i64 (sq : Int), .slice a n c, .int .i64 (sp : Int), .int .i64 (de : Int), .int .i64 (dn : Int)] 42 (0, 0)) ∧ x.heap[B + 1]? = some (.cells #[.int .i64 (cs : Int), .int .i64 20, .int .i64 6, .int .i64 256] 27 (0, 0)) ∧ RowI x a n c L ∧ Below w.heap.size w x) := Lib.hid fun x hx => ⟨(hx.block _ (by omega)).trans q0, (hx.block _ (by omega)).trans q1, rowI_below (rowI_below hr q2) hx, bel_trans q2 hx⟩
  have HWW : Hid (Below w.heap.size w W) := Lib.hid q2
  clear hW q0 q1 q2 q3 hr hB
  obtain ⟨hx0, hx1, hxr, _⟩ := HX.out W (Below.refl _ _)
  obtain ⟨s0, s1, s2, s3, s4⟩ := five_at hx0
  obtain ⟨g0, g1, g2, g3⟩ := mfour_at hx1
  clear hx0 hx1
  have HROW := Lib.hid hxr
  clear hxr
  go_cut [43] (fun t wx => t = .bool bad1 ∧ wx = W)
  case first =>
    rcases Classical.em (n = cs) with e1 | e1
    · have t1 : ((n : Int) != (cs : Int)) = false := by simp [e1]
      rcases (by omega : dn ≤ 15 ∨ 15 < dn) with e3 | e3
      · have t3 : decide ((15 : Int) < (dn : Int)) = false := by simp; omega
        rcases (by omega : de = 255 ∨ (de ≠ 255 ∧ de < cs) ∨ (de ≠ 255 ∧ cs ≤ de)) with e2 | e2 | e2
        · have t2 : ((de : Int) != 255) = false := by simp; omega
          have e : bad1 = false := by rw [HB1.out]; simp <;> omega
          clear e1 e2 e3
          go_wp2_with fail
          go_meet
          exact ⟨by (rw [e] <;> first | rfl | (simp; done) | (simp; omega)), rfl⟩
        · have t2 : ((de : Int) != 255) = true := by simp; omega
          have t4 : decide ((cs : Int) ≤ (de : Int)) = false := by simp; omega
          have t4' : decide (cs ≤ de) = false := by simp; omega
          have e : bad1 = false := by rw [HB1.out]; simp <;> omega
          clear e1 e2 e3
          go_wp2_with fail
          go_meet
          exact ⟨by (rw [e] <;> first | rfl | (simp; done) | (simp; omega)), rfl⟩
        · have t2 : ((de : Int) != 255) = true := by simp; omega
          have t4 : decide ((cs : Int) ≤ (de : Int)) = true := by simp; omega
          have t4' : decide (cs ≤ de) = true := by simp; omega
          have e : bad1 = true := by rw [HB1.out]; simp <;> omega
          clear e1 e2 e3
          go_wp2_with fail
          go_meet
          exact ⟨by (rw [e] <;> first | rfl | (simp; done) | (simp; omega)), rfl⟩
      · have t3 : decide ((15 : Int) < (dn : Int)) = true := by simp; omega
        have e : bad1 = true := by rw [HB1.out]; simp <;> omega
        rcases (by omega : de = 255 ∨ (de ≠ 255 ∧ de < cs) ∨ (de ≠ 255 ∧ cs ≤ de)) with e2 | e2 | e2
        · have t2 : ((de : Int) != 255) = false := by simp; omega
          clear e1 e2 e3
          go_wp2_with fail
          go_meet
          exact ⟨by (rw [e] <;> first | rfl | (simp; done) | (simp; omega)), rfl⟩
        · have t2 : ((de : Int) != 255) = true := by simp; omega
          have t4 : decide ((cs : Int) ≤ (de : Int)) = false := by simp; omega
          have t4' : decide (cs ≤ de) = false := by simp; omega
          clear e1 e2 e3
          go_wp2_with fail
          go_meet
          exact ⟨by (rw [e] <;> first | rfl | (simp; done) | (simp; omega)), rfl⟩
        · have t2 : ((de : Int) != 255) = true := by simp; omega
          have t4 : decide ((cs : Int) ≤ (de : Int)) = true := by simp; omega
          have t4' : decide (cs ≤ de) = true := by simp; omega
          clear e1 e2 e3
          go_wp2_with fail
          go_meet
          exact ⟨by (rw [e] <;> first | rfl | (simp; done) | (simp; omega)), rfl⟩
    · have t1 : ((n : Int) != (cs : Int)) = true := by simp; omega
      have e : bad1 = true := by rw [HB1.out]; simp <;> omega
      clear e1
      go_wp2_with fail
      go_meet
      exact ⟨by (rw [e] <;> first | rfl | (simp; done) | (simp; omega)), rfl⟩
  case rest =>
  obtain ⟨rfl, rfl⟩ := hcut
  cases bad1 with
  | true =>
    have E : Hid (r = 62) := Lib.hid (by rw [HRR.out]; simp)
    go_wp2_with fail
    go_ret
    exact ⟨by rw [E.out]; rfl, HWW.out⟩
  | false =>
  have e0 := HNC.out rfl
  subst e0
  go_upto_region 3 with fail
  go_cut [56] (fun t wx => t = .bool bad2 ∧ wx = wc)
  case first =>
    rcases (by omega : dn = 0 ∨ 0 < dn) with e1 | e1
    · have t5 : decide ((0 : Int) < (dn : Int)) = false := by simp; omega
      have t5' : decide (0 < dn) = false := by simp; omega
      have e : bad2 = false := by rw [HB2.out]; simp <;> omega
      clear e1
      go_wp2_with fail
      go_meet
      exact ⟨by (rw [e] <;> first | rfl | (simp; done) | (simp; omega)), rfl⟩
    · have t5 : decide ((0 : Int) < (dn : Int)) = true := by simp; omega
      have t5' : decide (0 < dn) = true := by simp; omega
      rcases (by omega : de = 255 ∨ de ≠ 255) with e2 | e2
      · have t2 : ((de : Int) == 255) = true := by simp; omega
        have e : bad2 = true := by rw [HB2.out]; simp <;> omega
        clear e1 e2
        go_wp2_with fail
        go_meet
        exact ⟨by (rw [e] <;> first | rfl | (simp; done) | (simp; omega)), rfl⟩
      · have t2 : ((de : Int) == 255) = false := by simp; omega
        rcases (by omega : sp = 255 ∨ sp ≠ 255) with e3 | e3
        · have e : bad2 = true := by rw [HB2.out]; simp <;> omega
          have t3 : ((sp : Int) == 255) = true := by simp; omega
          clear e1 e2 e3
          go_wp2_with fail
          go_meet
          exact ⟨by (rw [e] <;> first | rfl | (simp; done) | (simp; omega)), rfl⟩
        · have e : bad2 = false := by rw [HB2.out]; simp <;> omega
          have t3 : ((sp : Int) == 255) = false := by simp; omega
          clear e1 e2 e3
          go_wp2_with fail
          go_meet
          exact ⟨by (rw [e] <;> first | rfl | (simp; done) | (simp; omega)), rfl⟩
  case rest =>
  obtain ⟨rfl, rfl⟩ := hcut
  cases bad2 with
  | true =>
    have E : Hid (r = 62) := Lib.hid (by rw [HRR.out]; simp)
    go_wp2_with fail
    go_ret
    exact ⟨by rw [E.out]; rfl, HWW.out⟩
  | false =>
  have HRA : Hid (r = if Apart n LL then 0 else 62) := Lib.hid (by rw [HRR.out]; by_cases h : Apart n LL <;> simp [h])
  clear HRR HB1 HB2 HNC
  go_wp2_with (at_builtin; refine wpList_appVs rfl _ _ rfl wc.heap.size _ rfl (ownI_nil _ _) a n c L rfl HROW.out (Nat.le_refl _) (by omega) ?_)
  intro lv w1 ho hb1
  have HO1 := Lib.hid ho
  have HB1 := Lib.hid hb1
  clear ho s0 s1 s2 s3 s4 g0 g1 g2 g3
  obtain ⟨hx0, hx1, _, _⟩ := HX.out w1 hb1
  obtain ⟨s0, s1, s2, s3, s4⟩ := five_at hx0
  clear hx0 hx1 hb1
  obtain ⟨tsp, htsp⟩ : ∃ z, z = ((sp : Int) != 255) := ⟨_, rfl⟩
  have tq := htsp.symm
  have HTS := Lib.hid htsp
  clear htsp
  go_upto_if 63 with fail
  clear tq
  obtain ⟨V0, hV0⟩ : ∃ x, x = wc := ⟨_, rfl⟩
  rw [← hV0] at HX HROW HO1 HB1 HWW
  clear hV0
  go_cut [5] (fun v wx => OwnI V0.heap.size wx v LL ∧ Below V0.heap.size V0 wx)
  case first =>
    by_cases h5 : sp = 255
    · obtain rfl : tsp = false := by rw [HTS.out]; simp; omega
      have HOL : Hid (OwnI V0.heap.size w1 lv LL) := Lib.hid (by rw [HLL.out, if_pos (by omega), List.append_nil]; exact HO1.out)
      clear h5
      go_wp2_with fail
      go_meet
      exact ⟨HOL.out, HB1.out⟩
    · obtain rfl : tsp = true := by rw [HTS.out]; simp; omega
      go_wp2_with (at_builtin; refine wpList_appV rfl _ _ rfl V0.heap.size _ L rfl (ownI_below HO1.out (bel_alloc (Below.refl _ _) _)) ⟨w1.heap.size, 0, none⟩ (sp : Int) 1 rfl (cell_new1 _ _ _) (by simp; have := HB1.out.size; omega) (by rw [HLN.out]; omega) ?_)
      intro lv2 w4 own grow wh hb4
      have HOL : Hid (OwnI V0.heap.size w4 lv2 LL) := Lib.hid (by rw [HLL.out, if_neg (by omega)]; exact own)
      have HBL : Hid (Below V0.heap.size V0 w4) := Lib.hid ((bel_alloc HB1.out _).trans hb4)
      clear own grow wh hb4 h5
      go_wp2_with fail
      go_meet
      exact ⟨HOL.out, HBL.out⟩
  case rest =>
  obtain ⟨hol, hbl⟩ := hcut
  obtain ⟨la, lc, rfl, _, _⟩ := ownI_row hol HIN.out
  have HOL := Lib.hid hol
  have HBL := Lib.hid hbl
  clear hol hbl HO1 HB1 s0 s1 s2 s3 s4 HTS HROW
  have HLM : Hid (LL.length ≤ 17) := Lib.hid (by rw [HLL.out, List.length_append, HLN.out]; split <;> simp <;> omega)
  obtain ⟨N, hN⟩ : ∃ x, x = LL.length := ⟨_, rfl⟩
  rw [← hN] at HOL HLM
  rw [← hN]
  have HN := Lib.hid hN
  clear hN
  go_wp2_with fail
  go_loopw [6] (fun iv wr => ∃ k : Nat, k ≤ N ∧ iv = .int .i64 (k : Int) ∧ Apart n (LL.take k) ∧ OwnI V0.heap.size wr (.slice la N lc) LL ∧ Below V0.heap.size V0 wr) (fun iv _ => N - (intOf iv).toNat)
  case atStart => exact ⟨0, Nat.zero_le _, rfl, apart_nil n, HOL.out, HBL.out⟩
  case round =>
    obtain ⟨k, hk, rfl, hA, hO, hB⟩ := hrel
    have HA := Lib.hid hA
    have HOO := Lib.hid hO
    have HBB := Lib.hid hB
    clear hA hO hB HOL HBL
    have hN17 : N ≤ 17 := HLM.out
    by_cases hlt : k < N
    · have t1 : decide (k < N) = true := by simpa using hlt
      have hkl : k < LL.length := by rw [← HN.out]; exact hlt
      obtain ⟨la', lc', hle, hrow, _⟩ := ownI_row HOO.out HIN.out
      obtain ⟨rfl, _, rfl⟩ : la = la' ∧ N = LL.length ∧ lc = lc' := by simpa using hle
      obtain ⟨eb, eo, rfl, hcell, hx0, hx1⟩ := rowI_at hrow hkl
      obtain ⟨x, hx⟩ : ∃ x, x = LL.getD k 0 := ⟨_, rfl⟩
      rw [← hx] at hcell hx0 hx1
      have HXX := Lib.hid hx
      have HKL := Lib.hid hkl
      have HLT := Lib.hid hlt
      have i0 : (0 : Int) ≤ (k : Int) := by omega
      have i1 : (k : Int) < (N : Int) := by omega
      obtain ⟨_, hx1', _, _⟩ := HX.out wr HBB.out
      obtain ⟨g0, _, _, _⟩ := mfour_at hx1'
      clear hx hkl hrow hle hx1'
      by_cases h1 : x < 0
      · have q1 : decide (x < 0) = true := by simpa using h1
        have E : Hid (r = 62) := Lib.hid (by rw [HRA.out, if_neg (apart_not HKL.out (.inl (by rw [← HXX.out]; exact h1)))])
        have HE : Hid (∀ q, Below w.heap.size w (wr.drewN q)) := Lib.hid fun q => (HX.out _ (bel_trans HBB.out (mbel_drewN wr q))).2.2.2
        clear h1
        go_wp2_with fail
        go_quiet (fail)
        go_wp2_with fail
        go_ret
        exact ⟨by rw [E.out]; rfl, HE.out _⟩
      · have q1 : decide (x < 0) = false := by simpa using h1
        obtain ⟨m, rfl⟩ : ∃ m : Nat, x = (m : Int) := ⟨x.toNat, by omega⟩
        by_cases h2 : n < m
        · have q2 : decide ((n : Int) < (m : Int)) = true := by simpa using h2
          have q2' : decide (n < m) = true := by simpa using h2
          have E : Hid (r = 62) := Lib.hid (by rw [HRA.out, if_neg (apart_not HKL.out (.inr (.inl (by rw [← HXX.out]; omega))))])
          have HE : Hid (∀ q, Below w.heap.size w (wr.drewN q)) := Lib.hid fun q => (HX.out _ (bel_trans HBB.out (mbel_drewN wr q))).2.2.2
          clear h1 h2
          go_wp2_with fail
          go_quiet (fail)
          go_wp2_with fail
          go_ret
          exact ⟨by rw [E.out]; rfl, HE.out _⟩
        · have q2 : decide ((n : Int) < (m : Int)) = false := by simpa using h2
          have q2' : decide (n < m) = false := by simpa using h2
          have HMC : Hid (m ≤ n) := Lib.hid (by omega)
          clear h1 h2
          go_wp2_with fail
          go_quiet (fail)
          go_wp2_with fail
          generalize hwd : wr.drewN _ = wd
          have HOD : Hid (OwnI V0.heap.size wd (.slice (some ⟨eb, eo, none⟩) N lc) LL) := Lib.hid (by rw [← hwd]; exact ownI_below HOO.out (mbel_drewN wr _))
          have HBD : Hid (Below V0.heap.size V0 wd) := Lib.hid (by rw [← hwd]; exact bel_trans HBB.out (mbel_drewN wr _))
          clear hwd hcell g0 q1 q2 q2' HOO HBB
          go_loopw [7] (fun jv wy => ∃ j : Nat, j ≤ k ∧ jv = .int .i64 (j : Int) ∧ ¬ (m : Int) ∈ (LL.take k).take j ∧ OwnI V0.heap.size wy (.slice (some ⟨eb, eo, none⟩) N lc) LL ∧ Below V0.heap.size V0 wy) (fun jv _ => k - (intOf jv).toNat)
          case atStart => exact ⟨0, Nat.zero_le _, rfl, by simp, HOD.out, HBD.out⟩
          case round =>
            obtain ⟨j, hj, rfl, hnj, hO, hB⟩ := hrel
            have HNJ := Lib.hid hnj
            have HOY := Lib.hid hO
            have HBY := Lib.hid hB
            clear hnj hO hB HOD HBD
            by_cases hlj : j < k
            · have t2 : decide (j < k) = true := by simpa using hlj
              have HLJ := Lib.hid hlj
              have hjl : j < LL.length := Nat.lt_trans hlj HKL.out
              obtain ⟨la2, lc2, hle, hrow, _⟩ := ownI_row HOY.out HIN.out
              rw [← HN.out] at hle
              simp only [Value.slice.injEq, true_and] at hle
              obtain ⟨rfl, rfl⟩ := hle
              obtain ⟨b1, o1, hb1, hcj, _, _⟩ := rowI_at hrow hjl
              obtain ⟨b2, o2, hb2, hck, _, _⟩ := rowI_at hrow HKL.out
              cases hb1
              cases hb2
              rw [← HXX.out] at hck
              obtain ⟨y, hy⟩ : ∃ y, y = LL.getD j 0 := ⟨_, rfl⟩
              rw [← hy] at hcj
              have hyk : (LL.take k).getD j 0 = y := by rw [hy]; simp [List.getD, hlj]
              have hjk : j < (LL.take k).length := by rw [List.length_take]; omega
              have HY := Lib.hid (And.intro hyk hjk)
              have j0 : (0 : Int) ≤ (j : Int) := by omega
              have j1 : (j : Int) < (N : Int) := by omega
              clear hy hyk hjk hjl hrow
              by_cases hyx : y = (m : Int)
              · have q3 : (y == (m : Int)) = true := by simpa using hyx
                have E : Hid (r = 62) := Lib.hid (by
                  rw [HRA.out, if_neg (apart_not HKL.out (.inr (.inr ?_)))]
                  rw [← HXX.out, ← hyx, ← HY.out.1, List.getD, List.getElem?_eq_getElem HY.out.2]
                  exact List.getElem_mem _)
                have HE : Hid (∀ q, Below w.heap.size w (wr.drewN q)) := Lib.hid fun q => (HX.out _ (bel_trans HBY.out (mbel_drewN wr q))).2.2.2
                clear hyx
                go_wp2_with fail
                go_quiet (fail)
                go_wp2_with fail
                go_ret
                exact ⟨by rw [E.out]; rfl, HE.out _⟩
              · have q3 : (y == (m : Int)) = false := by simpa using hyx
                have HNN : Hid (¬ (m : Int) ∈ (LL.take k).take (j + 1)) := Lib.hid (by
                  rw [take_more _ j HY.out.2, HY.out.1, List.mem_append, List.mem_singleton]
                  intro h
                  rcases h with h | h
                  · exact HNJ.out h
                  · exact hyx h.symm)
                clear hyx
                go_wp2_with fail
                go_quiet (fail)
                go_wp2_with fail
                go_roundw
                case rel => exact ⟨j + 1, by have := HLJ.out; omega, by go_num, HNN.out, ownI_below HOY.out (mbel_drewN wr _), bel_trans HBY.out (mbel_drewN wr _)⟩
                case measure => have := HLJ.out; simp [intOf]; omega
            · obtain rfl : j = k := by omega
              have t2 : decide (j < j) = false := by simp
              have hno := HNJ.out
              rw [List.take_of_length_le (by rw [List.length_take]; omega)] at hno
              have HA2 := Lib.hid (apart_more HA.out HKL.out HXX.out.symm HMC.out hno)
              clear hno hlj
              go_wp2_with fail
              go_roundw
              case rel => exact ⟨j + 1, by have := HLT.out; omega, by go_num, HA2.out, HOY.out, HBY.out⟩
              case measure => have := HLT.out; simp [intOf]; omega
    · obtain rfl : k = N := by omega
      have t1 : decide (k < k) = false := by simp
      have E : Hid (r = 0) := Lib.hid (by
        have h1 := HA.out
        rw [List.take_of_length_le (by rw [HN.out]; exact Nat.le_refl _)] at h1
        rw [HRA.out, if_pos h1])
      have HE : Hid (Below w.heap.size w wr) := Lib.hid (HX.out wr HBB.out).2.2.2
      clear hlt
      go_wp2_with fail
      go_ret
      exact ⟨by rw [E.out]; rfl, HE.out⟩
end Go.Proofs.Ytdljihemnfpkaaa
