/- CursorMany: the walk. -/
import Derived.Test.YteemegigooafkaaLaid
import Derived.Test.YteemegigooafkaaTwoRows
import Derived.Test.YteemegigooafkaaFrameMany
namespace Go.Proofs.Yteemegigooafkaa
open Go.RowKit

theorem bel_dn {B : Nat} {w a : World} (h : Below B w a) (n : Nat) : Below B w (a.drewN n) := h.trans ⟨rfl, rfl, rfl, Nat.le_refl _, fun _ _ => rfl⟩

theorem own_none {B : Nat} {w : World} {sv : Value} {bs : List Nat} {a : Option Addr} {n c : Nat} (h : Own B w sv bs) (he : sv = .slice a n c) : a = none → c = 0 := by
  intro ha
  rcases h.1.2 with ⟨e, _⟩ | ⟨g, cap, cur, e, _⟩
  · rw [he] at e
    simp only [Value.slice.injEq] at e
    exact e.2.2
  · rw [he, ha] at e
    simp only [Value.slice.injEq] at e
    cases e.1
theorem far_of {B : Nat} {w : World} {pw : Nat} {sv : Value} {bs : List Nat} {x : Addr} (h : WR B w pw sv bs) (hx : x.block < B) : x.block ≠ pw ∧ some x.block ≠ sv.ownBlock :=
  ⟨by have := h.1; omega, fun e => by have := own_base h.2.2.1 _ e.symm; omega⟩

set_option maxRecDepth 100000 in
set_option maxHeartbeats 800000 in
theorem cursorMany_walk (a : Option Addr) (la ca : Nat) (xs : List Nat) (b : Option Addr) (lb cb : Nat) (ys : List Nat) (c : Option Addr) (lc cc : Nat) (zs : List Nat) (f : Option Addr) (lf cf : Nat) (ts : List Nat) (w : World)
    (hin : (InK .u8 256 w a la ca xs ∧ InK .u16 65536 w b lb cb ys ∧ InK .u32 4294967296 w c lc cc zs ∧ InK .u64 18446744073709551616 w f lf cf ts) ∧ ca ≤ reachBytes ∧ cb ≤ reachBytes ∧ cc ≤ reachBytes ∧ cf ≤ reachBytes) :
    Calls Try.prog 7 #[.agg #[.slice a la ca, .slice b lb cb, .slice c lc cc, .slice f lf cf]] w fun e w' => e = .returned (.bool true) ∧ Below w.heap.size w w' := by
  obtain ⟨⟨ia, ib, ic, ie⟩, ka, kb, kc, ke⟩ := hin
  have hla : la ≤ 140737488351232 := Nat.le_trans ia.2.1 ka
  have hlb : lb ≤ 140737488351232 := Nat.le_trans ib.2.1 kb
  have hlc : lc ≤ 140737488351232 := Nat.le_trans ic.2.1 kc
  have hlf : lf ≤ 140737488351232 := Nat.le_trans ie.2.1 ke
  by_cases h200 : 200 < la + lb + lc + lf
  · go_enter Try.func7, Try.ntmps7
    go_wp2_with fail
    go_quiet (fail)
    go_wp2_with fail
    refine (laid_any _).mono ?_
    rintro e w1 ⟨rfl, hb1⟩
    have hb1' : Below w.heap.size w w1 := (bel_dn (bel_alloc (Below.refl _ w) _) _).trans (hb1.mono (by simp))
    go_wp2_with fail
    refine (laid_any _).mono ?_
    rintro e w2 ⟨rfl, hb2⟩
    go_wp2
    go_ret
    exact ⟨rfl, bel_trans hb1' hb2⟩
  · have hq : la + lb + lc + lf ≤ 200 := by omega
    have hd : decide ((200 : Int) < (la : Int) + (lb : Int) + (lc : Int) + (lf : Int)) = false := by simp; omega
    clear h200
    go_enter Try.func7, Try.ntmps7
    go_wp2_with fail
    go_quiet (fail)
    go_wp2_with fail
    refine (laid_any _).mono ?_
    rintro e w1 ⟨rfl, hb1⟩
    have hb1' : Below w.heap.size w w1 := (bel_dn (bel_alloc (Below.refl _ w) _) _).trans (hb1.mono (by simp))
    clear hb1
    go_wp2_with fail
    have hz1 := hb1'.size
    have hwr := wr_new w1
    have hra := row_keep (w := w) (w' := w1.alloc (.cells #[.slice none 0 0] 28)) ia.1 (bel_alloc hb1' _) (Nat.le_refl _)
    have hbw := bel_alloc hb1' (.cells #[.slice none 0 0] 28)
    refine (wU8_any w1.heap.size w1.heap.size _ [] _ hwr (by simp) a la ca xs hra ia.2.2.2.1 (by simp; omega)).mono ?_
    rintro e w2 ⟨rfl, sv2, hw2, hm2⟩
    have hbw2 := hbw.trans ((hm2.below hwr (by simp)).mono hz1)
    have hz2 : w1.heap.size ≤ w2.heap.size := by have := hm2.size; simp at this; omega
    rw [List.nil_append] at hw2
    have hlx : xs.length = la := ia.1.1
    have hly : ys.length = lb := ib.1.1
    have hlz : zs.length = lc := ic.1.1
    have hlt : ts.length = lf := ie.1.1
    go_wp2_with fail
    refine (wU16_any w1.heap.size w1.heap.size sv2 xs _ hw2 hz2 b lb cb ys (rowK_below ib.1 hbw2) (fun h0 x hx => far_of hw2 (Nat.lt_of_lt_of_le (ib.2.2.2.2 x hx h0) hz1)) (by omega) (by omega)).mono ?_
    rintro e w3 ⟨rfl, sv3, hw3, hm3⟩
    have hbw3 := hbw2.trans ((hm3.below hw2 hz2).mono hz1)
    have hz3 : w1.heap.size ≤ w3.heap.size := Nat.le_trans hz2 hm3.size
    have hl3 : (xs ++ ys.flatMap (Crc.les 2)).length ≤ 1000 := by rw [List.length_append, flat_les_len]; omega
    obtain ⟨P3, hP3⟩ : ∃ P3, P3 = xs ++ ys.flatMap (Crc.les 2) := ⟨_, rfl⟩
    rw [← hP3] at hw3 hl3
    have HP3 := Lib.hid hP3
    clear hw2 hm2 hm3 hP3 hwr
    go_wp2_with fail
    refine (wU32_any w1.heap.size w1.heap.size sv3 P3 _ hw3 hz3 c lc cc zs (rowK_below ic.1 hbw3) (fun h0 x hx => far_of hw3 (Nat.lt_of_lt_of_le (ic.2.2.2.2 x hx h0) hz1)) (by omega) (by omega)).mono ?_
    rintro e w4 ⟨rfl, sv4, hw4, hm4⟩
    have hbw4 := hbw3.trans ((hm4.below hw3 hz3).mono hz1)
    have hz4 : w1.heap.size ≤ w4.heap.size := Nat.le_trans hz3 hm4.size
    have hl4 : (P3 ++ zs.flatMap (Crc.les 4)).length ≤ 3000 := by rw [List.length_append, flat_les_len]; omega
    obtain ⟨P4, hP4⟩ : ∃ P4, P4 = P3 ++ zs.flatMap (Crc.les 4) := ⟨_, rfl⟩
    rw [← hP4] at hw4 hl4
    have HP4 := Lib.hid hP4
    clear hw3 hm4 hP4 hbw2 hz2
    go_wp2_with fail
    refine (wU64_any w1.heap.size w1.heap.size sv4 P4 _ hw4 hz4 f lf cf ts (rowK_below ie.1 hbw4) (fun h0 x hx => far_of hw4 (Nat.lt_of_lt_of_le (ie.2.2.2.2 x hx h0) hz1)) (by omega) (by omega)).mono ?_
    rintro e w5 ⟨rfl, sv5, hw5, hm5⟩
    have hbw5 := hbw4.trans ((hm5.below hw4 hz4).mono hz1)
    have hz5 : w1.heap.size ≤ w5.heap.size := Nat.le_trans hz4 hm5.size
    have hl5 : (P4 ++ ts.flatMap (Crc.les 8)).length ≤ 6000 := by rw [List.length_append, flat_les_len]; omega
    obtain ⟨P5, hP5⟩ : ∃ P5, P5 = P4 ++ ts.flatMap (Crc.les 8) := ⟨_, rfl⟩
    rw [← hP5] at hw5 hl5
    have HP5 := Lib.hid hP5
    have HLX := Lib.hid hlx
    have HLY := Lib.hid hly
    have HLZ := Lib.hid hlz
    have HLT := Lib.hid hlt
    clear hw4 hm5 hP5 hbw3 hz3 hlx hly hlz hlt hbw4 hz4 hbw hra hl3 hl4
    obtain ⟨pw, hpw⟩ : ∃ pw, pw = w1.heap.size := ⟨_, rfl⟩
    rw [← hpw] at hw5 hz5 ⊢
    have hpz : w.heap.size ≤ pw := by omega
    clear hb1' hz1 hpw
    go_wp2_with (at_builtin; refine wpList_app rfl _ _ rfl pw _ _ rfl (own_nil _ _) a la ca xs rfl (row_keep ia.1 hbw5 (Nat.le_refl _)) ia.2.2.2.1 hz5 (by simp; omega) ?_)
    intro ov6 w6 hap6
    have hwa6 := wr_apd hw5 hap6 (aside_nil _ _)
    have ho6 := hap6.own
    have hR0 : xs.length ≤ 200 := by have := HLX.out; omega
    obtain ⟨R0, hRR0⟩ : ∃ R0, R0 = xs := ⟨_, rfl⟩
    rw [← hRR0] at ho6 hR0
    have HR0 := Lib.hid hRR0
    clear hRR0
    have hbw6 := hbw5.trans (hap6.below.mono hpz)
    have hz6 := Nat.le_trans hz5 hap6.below.size
    clear hw5 hap6 hbw5 hz5
    go_wp2
    go_loopw [8, 9] (fun out i wr => ∃ k : Nat, k ≤ lb ∧ i = .int .i64 k ∧ Own pw wr out (R0 ++ (ys.take k).flatMap (Crc.les 2)) ∧ WR pw wr pw sv5 P5 ∧ Aside pw sv5 out ∧ Below w.heap.size w wr ∧ pw ≤ wr.heap.size) (fun _ i _ => lb - (intOf i).toNat)
    case atStart => exact ⟨0, by omega, rfl, by simpa using ho6, hwa6.1, hwa6.2, hbw6, hz6⟩
    case round =>
      obtain ⟨k, hk, rfl, ho7, hw7, has7, hb7, hz7⟩ := hrel
      clear hwa6 ho6 hbw6 hz6
      by_cases hlt : k < lb
      · obtain ⟨b1, o1, n1, ha1, hc1, hn1, HN1⟩ := rowK_cell (rowK_below ib.1 hb7) hlt
        have HT := Lib.hid (flat_snoc 2 ys k (by have := ib.1.1; omega))
        have hle7 : (R0 ++ (ys.take k).flatMap (Crc.les 2)).length ≤ 100000 := by have h1 := lay_len 2 R0 ys k (by omega); omega
        have HA := Lib.hid ha1
        clear ha1
        rw [HA.out]
        go_wp2_with fail
        refine (bytes_any n1 2 _ (by omega) (by omega)).mono ?_
        rintro e w8 ⟨sv8, rfl, ho8, hb8⟩
        obtain ⟨a8, c8, hsv8, hr8, hm8⟩ := row_of_own ho8
        have hn8 := own_none ho8 hsv8
        subst hsv8
        rw [Crc.les_len] at hr8 hm8
        have ho9 := own_keep ho7 hb8
        have hw9 := wr_keep hw7 hb8
        have hb9 := bel_trans hb7 hb8
        have hz9 := Nat.le_trans hz7 hb8.size
        clear ho7 hw7 hb7 hz7 ho8 hb8
        have hll8 : (Crc.les 2 n1).length = 2 := Crc.les_len 2 n1
        have HL8 := Lib.hid hll8
        clear hll8
        go_wp2_with (at_builtin; refine wpList_app rfl _ _ rfl pw _ _ rfl ho9 a8 2 c8 (Crc.les 2 n1) rfl (by simpa [Crc.les_len] using hr8) hn8 hz9 (by omega) ?_)
        intro ov10 w10 hap10
        have hwa10 := wr_apd hw9 hap10 has7
        have ho10 : Own pw w10 ov10 (R0 ++ (ys.take (k + 1)).flatMap (Crc.les 2)) := by
          have h := hap10.own
          rw [HT.out, ← HN1.out, ← List.append_assoc]
          simpa [List.append_assoc] using h
        have hb10 := hb9.trans (hap10.below.mono hpz)
        have hz10 := Nat.le_trans hz9 hap10.below.size
        clear ho9 hw9 hap10 hb9 hz9 hr8 has7
        go_wp2
        go_roundw
        case rel => exact ⟨k + 1, by omega, by go_num, ho10, hwa10.1, hwa10.2, hb10, hz10⟩
        case measure => simp [intOf]; omega
      · have hkl : k = lb := by omega
        have ho6 : Own pw wr u8 (R0 ++ ys.flatMap (Crc.les 2)) := by
          have h := ho7
          rw [hkl, ← ib.1.1, List.take_length] at h
          exact h
        have hwa6 := And.intro hw7 has7
        have hbw6 := hb7
        have hz6 := hz7
        have hR1 : (R0 ++ ys.flatMap (Crc.les 2)).length ≤ 1000 := by rw [List.length_append, flat_les_len]; have := ib.1.1; omega
        obtain ⟨R1, hR1e⟩ : ∃ R1, R1 = R0 ++ ys.flatMap (Crc.les 2) := ⟨_, rfl⟩
        rw [← hR1e] at ho6 hR1
        have HR1 := Lib.hid hR1e
        clear hR1e ho7 hw7 has7 hb7 hz7 hkl
        go_wp2
        go_loopw [8, 10] (fun out i wr => ∃ k : Nat, k ≤ lc ∧ i = .int .i64 k ∧ Own pw wr out (R1 ++ (zs.take k).flatMap (Crc.les 4)) ∧ WR pw wr pw sv5 P5 ∧ Aside pw sv5 out ∧ Below w.heap.size w wr ∧ pw ≤ wr.heap.size) (fun _ i _ => lc - (intOf i).toNat)
        case atStart => exact ⟨0, by omega, rfl, by simpa using ho6, hwa6.1, hwa6.2, hbw6, hz6⟩
        case round =>
          obtain ⟨k, hk, rfl, ho7, hw7, has7, hb7, hz7⟩ := hrel
          clear hwa6 ho6 hbw6 hz6
          by_cases hlt : k < lc
          · obtain ⟨b1, o1, n1, ha1, hc1, hn1, HN1⟩ := rowK_cell (rowK_below ic.1 hb7) hlt
            have HT := Lib.hid (flat_snoc 4 zs k (by have := ic.1.1; omega))
            have hle7 : (R1 ++ (zs.take k).flatMap (Crc.les 4)).length ≤ 100000 := by have h1 := lay_len 4 R1 zs k (by omega); omega
            have HA := Lib.hid ha1
            clear ha1
            rw [HA.out]
            go_wp2_with fail
            refine (bytes_any n1 4 _ (by omega) (by omega)).mono ?_
            rintro e w8 ⟨sv8, rfl, ho8, hb8⟩
            obtain ⟨a8, c8, hsv8, hr8, hm8⟩ := row_of_own ho8
            have hn8 := own_none ho8 hsv8
            subst hsv8
            rw [Crc.les_len] at hr8 hm8
            have ho9 := own_keep ho7 hb8
            have hw9 := wr_keep hw7 hb8
            have hb9 := bel_trans hb7 hb8
            have hz9 := Nat.le_trans hz7 hb8.size
            clear ho7 hw7 hb7 hz7 ho8 hb8
            have hll8 : (Crc.les 4 n1).length = 4 := Crc.les_len 4 n1
            have HL8 := Lib.hid hll8
            clear hll8
            go_wp2_with (at_builtin; refine wpList_app rfl _ _ rfl pw _ _ rfl ho9 a8 4 c8 (Crc.les 4 n1) rfl (by simpa [Crc.les_len] using hr8) hn8 hz9 (by omega) ?_)
            intro ov10 w10 hap10
            have hwa10 := wr_apd hw9 hap10 has7
            have ho10 : Own pw w10 ov10 (R1 ++ (zs.take (k + 1)).flatMap (Crc.les 4)) := by
              have h := hap10.own
              rw [HT.out, ← HN1.out, ← List.append_assoc]
              simpa [List.append_assoc] using h
            have hb10 := hb9.trans (hap10.below.mono hpz)
            have hz10 := Nat.le_trans hz9 hap10.below.size
            clear ho9 hw9 hap10 hb9 hz9 hr8 has7
            go_wp2
            go_roundw
            case rel => exact ⟨k + 1, by omega, by go_num, ho10, hwa10.1, hwa10.2, hb10, hz10⟩
            case measure => simp [intOf]; omega
          · have hkl : k = lc := by omega
            have ho6 : Own pw wr u8 (R1 ++ zs.flatMap (Crc.les 4)) := by
              have h := ho7
              rw [hkl, ← ic.1.1, List.take_length] at h
              exact h
            have hwa6 := And.intro hw7 has7
            have hbw6 := hb7
            have hz6 := hz7
            have hR2 : (R1 ++ zs.flatMap (Crc.les 4)).length ≤ 3000 := by rw [List.length_append, flat_les_len]; have := ic.1.1; omega
            obtain ⟨R2, hR2e⟩ : ∃ R2, R2 = R1 ++ zs.flatMap (Crc.les 4) := ⟨_, rfl⟩
            rw [← hR2e] at ho6 hR2
            have HR2 := Lib.hid hR2e
            clear hR2e ho7 hw7 has7 hb7 hz7 hkl
            go_wp2
            go_loopw [8, 11] (fun out i wr => ∃ k : Nat, k ≤ lf ∧ i = .int .i64 k ∧ Own pw wr out (R2 ++ (ts.take k).flatMap (Crc.les 8)) ∧ WR pw wr pw sv5 P5 ∧ Aside pw sv5 out ∧ Below w.heap.size w wr ∧ pw ≤ wr.heap.size) (fun _ i _ => lf - (intOf i).toNat)
            case atStart => exact ⟨0, by omega, rfl, by simpa using ho6, hwa6.1, hwa6.2, hbw6, hz6⟩
            case round =>
              obtain ⟨k, hk, rfl, ho7, hw7, has7, hb7, hz7⟩ := hrel
              clear hwa6 ho6 hbw6 hz6
              by_cases hlt : k < lf
              · obtain ⟨b1, o1, n1, ha1, hc1, hn1, HN1⟩ := rowK_cell (rowK_below ie.1 hb7) hlt
                have HT := Lib.hid (flat_snoc 8 ts k (by have := ie.1.1; omega))
                have hle7 : (R2 ++ (ts.take k).flatMap (Crc.les 8)).length ≤ 100000 := by have h1 := lay_len 8 R2 ts k (by omega); omega
                have HA := Lib.hid ha1
                clear ha1
                rw [HA.out]
                go_wp2_with fail
                refine (bytes_any n1 8 _ (by omega) (by omega)).mono ?_
                rintro e w8 ⟨sv8, rfl, ho8, hb8⟩
                obtain ⟨a8, c8, hsv8, hr8, hm8⟩ := row_of_own ho8
                have hn8 := own_none ho8 hsv8
                subst hsv8
                rw [Crc.les_len] at hr8 hm8
                have ho9 := own_keep ho7 hb8
                have hw9 := wr_keep hw7 hb8
                have hb9 := bel_trans hb7 hb8
                have hz9 := Nat.le_trans hz7 hb8.size
                clear ho7 hw7 hb7 hz7 ho8 hb8
                have hll8 : (Crc.les 8 n1).length = 8 := Crc.les_len 8 n1
                have HL8 := Lib.hid hll8
                clear hll8
                go_wp2_with (at_builtin; refine wpList_app rfl _ _ rfl pw _ _ rfl ho9 a8 8 c8 (Crc.les 8 n1) rfl (by simpa [Crc.les_len] using hr8) hn8 hz9 (by omega) ?_)
                intro ov10 w10 hap10
                have hwa10 := wr_apd hw9 hap10 has7
                have ho10 : Own pw w10 ov10 (R2 ++ (ts.take (k + 1)).flatMap (Crc.les 8)) := by
                  have h := hap10.own
                  rw [HT.out, ← HN1.out, ← List.append_assoc]
                  simpa [List.append_assoc] using h
                have hb10 := hb9.trans (hap10.below.mono hpz)
                have hz10 := Nat.le_trans hz9 hap10.below.size
                clear ho9 hw9 hap10 hb9 hz9 hr8 has7
                go_wp2
                go_roundw
                case rel => exact ⟨k + 1, by omega, by go_num, ho10, hwa10.1, hwa10.2, hb10, hz10⟩
                case measure => simp [intOf]; omega
              · have hkl : k = lf := by omega
                have ho6 : Own pw wr u8 (R2 ++ ts.flatMap (Crc.les 8)) := by
                  have h := ho7
                  rw [hkl, ← ie.1.1, List.take_length] at h
                  exact h
                have hwa6 := And.intro hw7 has7
                have hbw6 := hb7
                have hz6 := hz7
                have hR3 : (R2 ++ ts.flatMap (Crc.les 8)).length ≤ 6000 := by rw [List.length_append, flat_les_len]; have := ie.1.1; omega
                obtain ⟨R3, hR3e⟩ : ∃ R3, R3 = R2 ++ ts.flatMap (Crc.les 8) := ⟨_, rfl⟩
                rw [← hR3e] at ho6 hR3
                have HR3 := Lib.hid hR3e
                clear hR3e ho7 hw7 has7 hb7 hz7 hkl
                go_wp2_with fail
                refine (wBytes_any pw pw sv5 P5 _ hwa6.1 (by omega)).mono ?_
                rintro e w11 ⟨sv11, rfl, ho11, hb11⟩
                obtain ⟨a11, c11, hsv11, hr11, hm11⟩ := row_of_own ho11
                subst hsv11
                obtain ⟨a12, c12, hsv12, hr12, hm12⟩ := row_of_own (own_keep ho6 hb11)
                subst hsv12
                have HE : Hid (R3 = P5) := by
                  unfold Hid
                  rw [HR3.out, HR2.out, HR1.out, HR0.out, HP5.out, HP4.out, HP3.out]
                rw [HE.out] at hr12 ⊢
                go_wp2_with fail
                refine (same_any _ _ _ _ _ _ _ _ hr11 hr12).mono ?_
                rintro e w' ⟨rfl, rfl⟩
                go_wp2
                go_ret
                exact ⟨rfl, bel_trans hbw6 hb11⟩

end Go.Proofs.Yteemegigooafkaa
