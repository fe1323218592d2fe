/- RecordSeals: the walk. -/
import Derived.Test.YtjnjkoodeacpdaaRSealed
import Derived.Test.YtjnjkoodeacpdaaRRefSeal
import Derived.Test.YtjnjkoodeacpdaaRFrame
import Derived.Deep.DeepCutAuto
namespace Go.Proofs.Ytjnjkoodeacpdaa
open Go.RowKit

theorem retOwn_cap {w w' : World} {bs : List Nat} {e : Ending} (h : RetOwn w bs e w') : ∃ a c, e = .returned (.slice a bs.length c) ∧ Row w' a bs.length bs ∧ bs.length ≤ c ∧ c ≤ maxLen ∧ Below w.heap.size w w' := by
  obtain ⟨a, c, rfl, hr, _, ho, hb⟩ := retOwn_len h
  refine ⟨a, c, rfl, hr, ?_, ?_, hb⟩
  · rcases ho.1.2 with ⟨e, h0⟩ | ⟨g, cap, cur, e, _, _, h1, h3, _⟩
    · omega
    · simp only [Value.slice.injEq] at e
      obtain ⟨_, _, rfl⟩ := e
      exact h1
  · rcases ho.1.2 with ⟨e, h0⟩ | ⟨g, cap, cur, e, _, _, h1, h3, _⟩
    · simp only [Value.slice.injEq] at e
      obtain ⟨_, _, rfl⟩ := e
      exact Nat.zero_le _
    · simp only [Value.slice.injEq] at e
      obtain ⟨_, _, rfl⟩ := e
      exact h3
theorem beq_geq (k : Nat) : decide ((1 : Int) ≤ (k : Int)) = decide (1 ≤ k) := by
  by_cases h : 1 ≤ k
  · rw [decide_eq_true h, decide_eq_true (by omega)]
  · rw [decide_eq_false h, decide_eq_false (by omega)]
set_option maxRecDepth 100000 in
set_option maxHeartbeats 3200000 in
theorem recordSeals_main (h : RH) (a : Option Addr) (len cap : Nat) (ds : List Nat) (a2 : Option Addr) (len2 cap2 : Nat) (be : List Nat) (w : World) (hf : h.Fits) (hin : InB w a len cap ds) (hin2 : InB w a2 len2 cap2 be) (h600 : len ≤ 600) (h100 : len2 ≤ 100) :
    Calls Try.prog 9 #[.agg h.cells, .slice a len cap, .slice a2 len2 cap2] w fun e w' => e = .returned (.bool true) ∧ Below w.heap.size w w' := by
  obtain ⟨hr, hlc, hcm, hn⟩ := hin
  obtain ⟨hr2, hlc2, hcm2, hn2⟩ := hin2
  have hcm_ := hcm
  have hcm2_ := hcm2
  unfold maxLen at hcm hcm2
  have d1 : decide ((600 : Int) < (len : Int)) = false := decide_eq_false (by omega)
  have d2 : decide ((100 : Int) < (len2 : Int)) = false := decide_eq_false (by omega)
  have HOF := Lib.hid (lawOf_any h hf)
  have hh0 := hdr_new h w
  unfold RH.cells
  go_enter Try.func9, Try.ntmps9
  go_upto_region 3 with fail
  obtain ⟨W1, hW1⟩ : ∃ W1, W1 = w.alloc (.cells #[.int .u8 (h.ki : Int), .int .u32 (h.ep : Int), .int .u32 (h.ba : Int), .int .u16 (h.ix : Int), .int .u16 (h.ct : Int), .int .u32 (h.bl : Int), .int .u32 (h.mo : Int)] 86) := ⟨_, rfl⟩
  have hb1 : Below w.heap.size w W1 := by rw [hW1]; exact bel_alloc (Below.refl _ w) _
  have hz1 : w.heap.size < W1.heap.size := by rw [hW1]; simp
  rw [← hW1] at hh0 ⊢
  clear hW1
  have hr1 := row_keep hr hb1 (Nat.le_refl _)
  have hr21 := row_keep hr2 hb1 (Nat.le_refl _)
  have hseal := seal_any h hf a len cap ds a2 len2 cap2 be W1 hr1 (by omega) hr21 hlc2 hcm2_ hn2 (by omega)
  unfold RH.cells at hseal
  obtain ⟨c0, c1, c2, c3, c4, c5, c6⟩ := hh0
  go_wp2_with fail
  refine hseal.mono ?_
  intro e w2 h2
  obtain ⟨a3, k3, rfl, hr3, hk3, hm3, hb2⟩ := retOwn_cap h2
  rw [sealB_len] at hr3 hk3 ⊢
  have hh2 : HdrAt h w.heap.size w2 := HdrAt.below ⟨c0, c1, c2, c3, c4, c5, c6⟩ hb2 hz1
  have hb02 := bel_trans hb1 hb2
  have hz2 : w.heap.size < w2.heap.size := by have := hb2.size; omega
  clear hseal h2 hb1 hb2 hr1 hr21 hz1 c0 c1 c2 c3 c4 c5 c6
  go_wp2_with fail
  refine (open_any a len cap ds a3 64 k3 (sealB h ds be) w2 (row_keep hr hb02 (Nat.le_refl _)) (by omega) hr3 hk3 hm3).mono ?_
  rintro e w3 ⟨rfl, hb3⟩
  have hh3 := hh2.below hb3 hz2
  have hb03 := bel_trans hb02 hb3
  have hz3 : w.heap.size < w3.heap.size := by have := hb3.size; omega
  have hr33 := row_keep hr3 hb3 (Nat.le_refl _)
  clear hh2 hb02 hb3 hr3
  obtain ⟨X, hX⟩ : ∃ X, openH ds (sealB h ds be) = X := ⟨_, rfl⟩
  obtain ⟨D, hD⟩ : ∃ D, decide (OpenOk ds (sealB h ds be)) = D := ⟨_, rfl⟩
  have hDk : D = decide (1 ≤ h.ki ∧ h.ki ≤ 6) := by rw [← hD]; exact decide_eq_decide.2 (openOk_seal hf ds be)
  have hXk : X = if D = true then h else RH.zero := by
    rw [← hX, ← hD]
    unfold openH
    by_cases hk : OpenOk ds (sealB h ds be)
    · rw [if_pos hk, decide_eq_true hk, if_pos rfl]; exact takeH_seal hf ds be
    · rw [if_neg hk, decide_eq_false hk]; rfl
  rw [hX, hD]
  have hx4 := hdr_new X w3
  unfold RH.cells
  have hb34 : Below w3.heap.size w3 (w3.alloc (.cells #[.int .u8 (X.ki : Int), .int .u32 (X.ep : Int), .int .u32 (X.ba : Int), .int .u16 (X.ix : Int), .int .u16 (X.ct : Int), .int .u32 (X.bl : Int), .int .u32 (X.mo : Int)] 86)) := bel_alloc (Below.refl _ w3) _
  obtain ⟨W4, hW4⟩ : ∃ W4, W4 = w3.alloc (.cells #[.int .u8 (X.ki : Int), .int .u32 (X.ep : Int), .int .u32 (X.ba : Int), .int .u16 (X.ix : Int), .int .u16 (X.ct : Int), .int .u32 (X.bl : Int), .int .u32 (X.mo : Int)] 86) := ⟨_, rfl⟩
  rw [← hW4] at hx4 hb34
  have hz4 : W4.heap.size = w3.heap.size + 1 := by rw [hW4]; simp
  have hh4 := hh3.below hb34 hz3
  have hr34 := row_keep hr33 hb34 (Nat.le_refl _)
  have hb04 := bel_trans hb03 hb34
  have HW4 := Lib.hid hW4
  have HDK := Lib.hid hDk
  have HXK := Lib.hid hXk
  clear hX hD hDk hXk hb34 hh3 hb03 hr33 hW4
  obtain ⟨c0, c1, c2, c3, c4, c5, c6⟩ := hh4
  go_upto_region 5 with fail
  rw [← HW4.out]
  go_cut [10] (fun s10 wx => s10 = .bool D ∧ wx = W4)
  case first =>
    by_cases k1 : 1 ≤ h.ki
    · have e1 : decide ((1 : Int) ≤ (h.ki : Int)) = true := decide_eq_true (by omega)
      by_cases k6 : h.ki ≤ 6
      · have e2 : decide ((h.ki : Int) ≤ 6) = true := decide_eq_true (by omega)
        have HE : Hid (D = true) := Lib.hid (by rw [HDK.out]; exact decide_eq_true ⟨k1, k6⟩)
        clear k1 k6
        go_wp2
        go_meet
        exact ⟨by rw [HE.out], rfl⟩
      · have e2 : decide ((h.ki : Int) ≤ 6) = false := decide_eq_false (by omega)
        have HE : Hid (D = false) := Lib.hid (by rw [HDK.out]; exact decide_eq_false fun q => k6 q.2)
        clear k1 k6
        go_wp2
        go_meet
        exact ⟨by rw [HE.out], rfl⟩
    · have e1 : decide ((1 : Int) ≤ (h.ki : Int)) = false := decide_eq_false (by omega)
      have HE : Hid (D = false) := Lib.hid (by rw [HDK.out]; exact decide_eq_false fun q => k1 q.1)
      clear k1
      go_wp2
      go_meet
      exact ⟨by rw [HE.out], rfl⟩
  case rest =>
    obtain ⟨rfl, rfl⟩ := hcut
    go_wp2_with fail
    refine (sealed_any wc).mono ?_
    rintro e w5 ⟨rfl, hb5⟩
    have hh5 : HdrAt h w.heap.size w5 := HdrAt.below ⟨c0, c1, c2, c3, c4, c5, c6⟩ hb5 (by omega)
    have hx5 := hx4.below hb5 (by omega)
    have hr35 := row_keep hr34 hb5 (Nat.le_refl _)
    have hb05 := bel_trans hb04 hb5
    have HZ5 := Lib.hid (show w3.heap.size < w5.heap.size by have := hb5.size; omega)
    have HZ3 := Lib.hid hz3
    clear c0 c1 c2 c3 c4 c5 c6 hb5 hb04 hr34 hx4 hz4 hz3 HW4
    obtain ⟨c0, c1, c2, c3, c4, c5, c6⟩ := hh5
    go_wp2_with fail
    have hof := HOF.out w5
    unfold RH.cells at hof
    refine hof.mono ?_
    rintro e w6 ⟨rfl, hb6⟩
    have hb06 := bel_trans hb05 hb6
    have hh6 : HdrAt h w.heap.size w6 := HdrAt.below ⟨c0, c1, c2, c3, c4, c5, c6⟩ hb6 (by have := HZ3.out; have := HZ5.out; omega)
    have hx6 := hx5.below hb6 HZ5.out
    have hr36 := row_keep hr35 hb6 (Nat.le_refl _)
    have HZ6 := Lib.hid (show w3.heap.size < w6.heap.size by have := hb6.size; have := HZ5.out; omega)
    clear hof c0 c1 c2 c3 c4 c5 c6 hb6 hb05 hr35 hx5
    have href := refSeal_any h hf a len cap ds a2 len2 cap2 be w6 (row_keep hr hb06 (Nat.le_refl _)) (by omega) hn (row_keep hr2 hb06 (Nat.le_refl _)) hlc2 hcm2_ hn2 (by omega)
    unfold RH.wide at href ⊢
    go_wp2_with fail
    refine href.mono ?_
    intro e w7 h7
    obtain ⟨a7, k7, rfl, hr7, _, _, hb7⟩ := retOwn_cap h7
    rw [sealB_len] at hr7 ⊢
    have hb07 := bel_trans hb06 hb7
    have hh7 := hh6.below hb7 (by have := HZ3.out; have := HZ6.out; omega)
    have hx7 := hx6.below hb7 HZ6.out
    have hr37 := row_keep hr36 hb7 (Nat.le_refl _)
    clear href h7 hb7 hb06 hr36 hx6 hh6
    go_wp2_with fail
    refine (sameB_any a3 64 k3 a7 64 k7 _ _ w7 hr37 hr7).mono ?_
    rintro e w8 ⟨rfl, rfl⟩
    rw [decide_eq_true rfl]
    obtain ⟨c0, c1, c2, c3, c4, c5, c6⟩ := hh7
    obtain ⟨x0, x1, x2, x3, x4, x5, x6⟩ := hx7
    cases D with
    | true =>
      have hX : X = h := HXK.out
      subst hX
      have hq := eql_hdr X X w8
      rw [eqH_self] at hq
      unfold RH.cells at hq
      go_wp2
      go_ret
      exact ⟨rfl, hb07⟩
    | false =>
      have hX : X = RH.zero := HXK.out
      subst hX
      have hq := eql_hdr RH.zero RH.zero w8
      rw [eqH_self] at hq
      unfold RH.cells RH.zero at hq
      go_wp2
      go_ret
      exact ⟨rfl, hb07⟩
theorem recordSeals_walk (h : RH) (a : Option Addr) (len cap : Nat) (ds : List Nat) (a2 : Option Addr) (len2 cap2 : Nat) (be : List Nat) (w : World) (hf : h.Fits) (hin : InB w a len cap ds) (hin2 : InB w a2 len2 cap2 be) :
    Calls Try.prog 9 #[.agg h.cells, .slice a len cap, .slice a2 len2 cap2] w fun e w' => e = .returned (.bool true) ∧ Below w.heap.size w w' := by
  by_cases h600 : len ≤ 600
  · by_cases h100 : len2 ≤ 100
    · exact recordSeals_main h a len cap ds a2 len2 cap2 be w hf hin hin2 h600 h100
    · have d1 : decide ((600 : Int) < (len : Int)) = false := decide_eq_false (by omega)
      have d2 : decide ((100 : Int) < (len2 : Int)) = true := decide_eq_true (by omega)
      have hm := Nat.le_trans hin2.2.1 hin2.2.2.1
      unfold maxLen at hm
      have hb1 := bel_alloc (Below.refl _ w) (.cells h.cells 86)
      unfold RH.cells at hb1 ⊢
      clear hin hin2 hf
      go_enter Try.func9, Try.ntmps9
      go_wp2_with fail
      refine (sealed_any _).mono ?_
      rintro e w1 ⟨rfl, hb⟩
      have hb2 := bel_trans hb1 hb
      go_wp2
      go_ret
      exact ⟨rfl, hb2⟩
  · have d1 : decide ((600 : Int) < (len : Int)) = true := decide_eq_true (by omega)
    have hm := Nat.le_trans hin.2.1 hin.2.2.1
    unfold maxLen at hm
    have hb1 := bel_alloc (Below.refl _ w) (.cells h.cells 86)
    unfold RH.cells at hb1 ⊢
    clear hin hin2 hf
    go_enter Try.func9, Try.ntmps9
    go_wp2_with fail
    refine (sealed_any _).mono ?_
    rintro e w1 ⟨rfl, hb⟩
    have hb2 := bel_trans hb1 hb
    go_wp2
    go_ret
    exact ⟨rfl, hb2⟩

end Go.Proofs.Ytjnjkoodeacpdaa
