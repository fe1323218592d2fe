/- StageSpots: the walk. -/
import Derived.Test.YtallambldbhibaaStgF
namespace Go.Proofs.Ytallambldbhibaa
open Go.RowKit Go.Deep

set_option maxRecDepth 100000 in
set_option maxHeartbeats 2000000 in
theorem stageSpots_out (ch n k b q f : Int) (w : World) (hk : n < 0 ∨ (roomN (stgN ch) 5 : Int) ≤ n) (HSN : Hid (∀ x : World, Calls Try.prog 39 #[.agg #[.int .i64 (stgN ch : Int), .int .i64 20, .int .i64 5, .int .i64 256], .int .i64 n] x fun e w' => e = .returned (.tuple #[.int .i64 0, .int .i64 0, .int .i64 34]) ∧ Below x.heap.size x w')) (HSK : Hid (∀ x : World, Calls Try.prog 39 #[.agg #[.int .i64 (stgN ch : Int), .int .i64 20, .int .i64 5, .int .i64 256], .int .i64 k] x fun e w' => e = .returned (.tuple #[.int .i64 b, .int .i64 q, .int .i64 f]) ∧ Below x.heap.size x w')) :
    Calls Try.prog 7 #[.int .i64 ch, .int .i64 n, .int .i64 k] w fun e w' => e = .returned (.bool true) ∧ Below w.heap.size w w' := by
  have HSH := Lib.hid fun x : World => stgShapeL_any ch x
  have HTW := Lib.hid twice_any
  obtain ⟨N, P, R, hN, hP, hR, hN3, hN8, hP1, hP4, hRoom, p1, p1', p2, p3, hgood⟩ := stgHead ch
  rw [← hN] at HSH hk HSN HSK
  rw [hRoom] at hk
  have HRM := Lib.hid fun x : World => room_any N 20 5 256 x hgood
  rw [hRoom, show ((20 : Nat) : Int) = 20 from rfl, show ((5 : Nat) : Int) = 5 from rfl, show ((256 : Nat) : Int) = 256 from rfl] at HRM
  obtain ⟨b0, hb0⟩ : ∃ b0, b0 = decide ((0 : Int) ≤ n) := ⟨_, rfl⟩
  obtain ⟨b1, hb1⟩ : ∃ b1, b1 = decide (n < (R : Int)) := ⟨_, rfl⟩
  have t0 : decide ((0 : Int) ≤ n) = b0 := hb0.symm
  have t1 : decide (n < (R : Int)) = b1 := hb1.symm
  have hor : b0 = false ∨ (b0 = true ∧ b1 = false) := by
    rw [hb0, hb1]
    by_cases q : 0 ≤ n
    · right; exact ⟨by simpa using q, by simp; omega⟩
    · left; simpa using q
  clear hN hP hR hRoom hgood hN3 hN8 hk hb0 hb1 hP1 hP4
  rcases hor with rfl | ⟨rfl, rfl⟩
  · go_enter Try.func7, Try.ntmps7
    go_wp2_with fail
    ((with_reducible refine (HSH.out _).mono ?_))
    rintro e w1 ⟨rfl, hb1⟩
    have l2 := heap_alloc_new w1 (.cells #[.int .i64 (N : Int), .int .i64 20, .int .i64 5, .int .i64 256] 54)
    have hb2 := bel_trans hb1 (bel_alloc (Below.refl _ w1) (.cells #[.int .i64 (N : Int), .int .i64 20, .int .i64 5, .int .i64 256] 54))
    go_upto_region 2 with fail
    obtain ⟨w2, hw2⟩ : ∃ x, x = w1.alloc (.cells #[.int .i64 (N : Int), .int .i64 20, .int .i64 5, .int .i64 256] 54) := ⟨_, rfl⟩
    obtain ⟨gb, hgb⟩ : ∃ x, x = w1.heap.size := ⟨_, rfl⟩
    rw [← hw2, ← hgb] at l2
    rw [← hw2] at hb2
    rw [← hw2, ← hgb]
    have HL2 := Lib.hid l2
    have HB2 := Lib.hid hb2
    obtain ⟨g0, g1, g2, g3⟩ := four_at l2
    clear hw2 hgb l2 hb1 hb2
    go_wp2_with fail
    ((with_reducible refine (HSN.out _).mono ?_))
    rintro e w3 ⟨rfl, hb3⟩
    have HL3 := Lib.hid ((hb3.block _ (Array.getElem?_eq_some_iff.1 HL2.out).1).trans HL2.out)
    have HB3 := Lib.hid (bel_trans HB2.out hb3)
    clear hb3 g0 g1 g2 g3
    obtain ⟨g0, g1, g2, g3⟩ := four_at HL3.out
    go_wp2_with fail
    ((with_reducible refine (HSK.out _).mono ?_))
    rintro e w4 ⟨rfl, hb4⟩
    have HL4 := Lib.hid ((hb4.block _ (Array.getElem?_eq_some_iff.1 HL3.out).1).trans HL3.out)
    have HB4 := Lib.hid (bel_trans HB3.out hb4)
    clear hb4 g0 g1 g2 g3
    go_wp2_with fail
    ((with_reducible refine (HTW.out _).mono ?_))
    rintro e w5 ⟨rfl, hb5⟩
    have HL5 := Lib.hid ((hb5.block _ (Array.getElem?_eq_some_iff.1 HL4.out).1).trans HL4.out)
    have HB5 := Lib.hid (bel_trans HB4.out hb5)
    clear hb5
    obtain ⟨g0, g1, g2, g3⟩ := four_at HL5.out
    go_wp2_with fail
    ((with_reducible refine (HRM.out _).mono ?_))
    rintro e w6 ⟨rfl, hb6⟩
    have HB6 := Lib.hid (bel_trans HB5.out hb6)
    clear hb6 g0 g1 g2 g3
    go_wp2
    go_ret
    exact ⟨rfl, HB6.out⟩
  · go_enter Try.func7, Try.ntmps7
    go_wp2_with fail
    ((with_reducible refine (HSH.out _).mono ?_))
    rintro e w1 ⟨rfl, hb1⟩
    have l2 := heap_alloc_new w1 (.cells #[.int .i64 (N : Int), .int .i64 20, .int .i64 5, .int .i64 256] 54)
    have hb2 := bel_trans hb1 (bel_alloc (Below.refl _ w1) (.cells #[.int .i64 (N : Int), .int .i64 20, .int .i64 5, .int .i64 256] 54))
    go_upto_region 2 with fail
    obtain ⟨w2, hw2⟩ : ∃ x, x = w1.alloc (.cells #[.int .i64 (N : Int), .int .i64 20, .int .i64 5, .int .i64 256] 54) := ⟨_, rfl⟩
    obtain ⟨gb, hgb⟩ : ∃ x, x = w1.heap.size := ⟨_, rfl⟩
    rw [← hw2, ← hgb] at l2
    rw [← hw2] at hb2
    rw [← hw2, ← hgb]
    have HL2 := Lib.hid l2
    have HB2 := Lib.hid hb2
    obtain ⟨g0, g1, g2, g3⟩ := four_at l2
    clear hw2 hgb l2 hb1 hb2
    go_wp2_with fail
    ((with_reducible refine (HSN.out _).mono ?_))
    rintro e w3 ⟨rfl, hb3⟩
    have HL3 := Lib.hid ((hb3.block _ (Array.getElem?_eq_some_iff.1 HL2.out).1).trans HL2.out)
    have HB3 := Lib.hid (bel_trans HB2.out hb3)
    clear hb3 g0 g1 g2 g3
    obtain ⟨g0, g1, g2, g3⟩ := four_at HL3.out
    go_wp2_with fail
    ((with_reducible refine (HSK.out _).mono ?_))
    rintro e w4 ⟨rfl, hb4⟩
    have HL4 := Lib.hid ((hb4.block _ (Array.getElem?_eq_some_iff.1 HL3.out).1).trans HL3.out)
    have HB4 := Lib.hid (bel_trans HB3.out hb4)
    clear hb4 g0 g1 g2 g3
    go_wp2_with fail
    ((with_reducible refine (HTW.out _).mono ?_))
    rintro e w5 ⟨rfl, hb5⟩
    have HL5 := Lib.hid ((hb5.block _ (Array.getElem?_eq_some_iff.1 HL4.out).1).trans HL4.out)
    have HB5 := Lib.hid (bel_trans HB4.out hb5)
    clear hb5
    obtain ⟨g0, g1, g2, g3⟩ := four_at HL5.out
    go_wp2_with fail
    ((with_reducible refine (HRM.out _).mono ?_))
    rintro e w6 ⟨rfl, hb6⟩
    have HB6 := Lib.hid (bel_trans HB5.out hb6)
    clear hb6 g0 g1 g2 g3
    go_wp2
    go_ret
    exact ⟨rfl, HB6.out⟩
set_option maxRecDepth 100000 in
set_option maxHeartbeats 2000000 in
theorem stageSpots_in (ch n k a m b q f : Int) (w : World) (hk : 0 ≤ n ∧ n < (roomN (stgN ch) 5 : Int)) (HSN : Hid (∀ x : World, Calls Try.prog 39 #[.agg #[.int .i64 (stgN ch : Int), .int .i64 20, .int .i64 5, .int .i64 256], .int .i64 n] x fun e w' => e = .returned (.tuple #[.int .i64 a, .int .i64 m, .int .i64 0]) ∧ Below x.heap.size x w')) (HSK : Hid (∀ x : World, Calls Try.prog 39 #[.agg #[.int .i64 (stgN ch : Int), .int .i64 20, .int .i64 5, .int .i64 256], .int .i64 k] x fun e w' => e = .returned (.tuple #[.int .i64 b, .int .i64 q, .int .i64 f]) ∧ Below x.heap.size x w')) (ha : a = n.tdiv ((stgN ch / 2 : Nat) : Int)) (hm : m = 2 * n.tmod ((stgN ch / 2 : Nat) : Int)) (hf : f ≠ 0 ∨ n = k ∨ a ≠ b ∨ m ≠ q) :
    Calls Try.prog 7 #[.int .i64 ch, .int .i64 n, .int .i64 k] w fun e w' => e = .returned (.bool true) ∧ Below w.heap.size w w' := by
  have HA := Lib.hid ha
  have HM := Lib.hid hm
  clear ha hm
  have HSH := Lib.hid fun x : World => stgShapeL_any ch x
  have HTW := Lib.hid twice_any
  obtain ⟨N, P, R, hN, hP, hR, hN3, hN8, hP1, hP4, hRoom, p1, p1', p2, p3, hgood⟩ := stgHead ch
  rw [← hN] at HSH hk HSN HSK
  rw [hRoom] at hk
  have HRM := Lib.hid fun x : World => room_any N 20 5 256 x hgood
  rw [hRoom, show ((20 : Nat) : Int) = 20 from rfl, show ((5 : Nat) : Int) = 5 from rfl, show ((256 : Nat) : Int) = 256 from rfl] at HRM
  rw [← hN, ← hP] at HA HM
  have t0 : decide ((0 : Int) ≤ n) = true := by simpa using hk.1
  have t1 : decide (n < (R : Int)) = true := by simpa using hk.2
  have nz : (P : Int) ≠ 0 := by omega
  have nz' : ((P : Int) == 0) = false := by simp; omega
  have hn1 : n ≤ 1000 := by omega
  obtain ⟨x1, x2, x3⟩ := quo_fits n P hk.1 hn1 hP1 (by omega)
  have a1 : wrap64 (n.tdiv (P : Int)) = a := x1.trans HA.out.symm
  have m1 : wrap64 (n.tmod (P : Int)) = n.tmod (P : Int) := x2
  have m2 : wrap64 (2 * n.tmod (P : Int)) = m := x3.trans HM.out.symm
  have a2 : (a == a) = true := by simp
  have m3 : (m == m) = true := by simp
  obtain ⟨c0, hc0⟩ : ∃ c, c = (f != 0) := ⟨_, rfl⟩
  obtain ⟨c1, hc1⟩ : ∃ c, c = (n == k) := ⟨_, rfl⟩
  obtain ⟨c2, hc2⟩ : ∃ c, c = (a != b) := ⟨_, rfl⟩
  obtain ⟨c3, hc3⟩ : ∃ c, c = (m != q) := ⟨_, rfl⟩
  have s0 : (f != 0) = c0 := hc0.symm
  have s1 : (n == k) = c1 := hc1.symm
  have s2 : (a != b) = c2 := hc2.symm
  have s3 : (m != q) = c3 := hc3.symm
  have hor : c0 = true ∨ (c0 = false ∧ c1 = true) ∨ (c0 = false ∧ c1 = false ∧ c2 = true) ∨ (c0 = false ∧ c1 = false ∧ c2 = false ∧ c3 = true) := by
    rw [hc0, hc1, hc2, hc3]
    by_cases q0 : f = 0
    · by_cases q1 : n = k
      · right; left; simp [q0, q1]
      · by_cases q2 : a = b
        · by_cases q3 : m = q
          · rcases hf with h | h | h | h <;> contradiction
          · right; right; right; simp [q0, q1, q2, q3]
        · right; right; left; simp [q0, q1, q2]
    · left; simp [q0]
  clear hN hP hR hRoom hgood hN3 hN8 hk hc0 hc1 hc2 hc3 hP1 hP4 x1 x2 x3 hn1 hf
  go_enter Try.func7, Try.ntmps7
  go_wp2_with fail
  ((with_reducible refine (HSH.out _).mono ?_))
  rintro e w1 ⟨rfl, hb1⟩
  have l2 := heap_alloc_new w1 (.cells #[.int .i64 (N : Int), .int .i64 20, .int .i64 5, .int .i64 256] 54)
  have hb2 := bel_trans hb1 (bel_alloc (Below.refl _ w1) (.cells #[.int .i64 (N : Int), .int .i64 20, .int .i64 5, .int .i64 256] 54))
  go_upto_region 2 with fail
  obtain ⟨w2, hw2⟩ : ∃ x, x = w1.alloc (.cells #[.int .i64 (N : Int), .int .i64 20, .int .i64 5, .int .i64 256] 54) := ⟨_, rfl⟩
  obtain ⟨gb, hgb⟩ : ∃ x, x = w1.heap.size := ⟨_, rfl⟩
  rw [← hw2, ← hgb] at l2
  rw [← hw2] at hb2
  rw [← hw2, ← hgb]
  have HL2 := Lib.hid l2
  have HB2 := Lib.hid hb2
  obtain ⟨g0, g1, g2, g3⟩ := four_at l2
  clear hw2 hgb l2 hb1 hb2
  go_wp2_with fail
  ((with_reducible refine (HSN.out _).mono ?_))
  rintro e w3 ⟨rfl, hb3⟩
  have HL3 := Lib.hid ((hb3.block _ (Array.getElem?_eq_some_iff.1 HL2.out).1).trans HL2.out)
  have HB3 := Lib.hid (bel_trans HB2.out hb3)
  clear hb3 g0 g1 g2 g3
  obtain ⟨g0, g1, g2, g3⟩ := four_at HL3.out
  go_wp2_with fail
  ((with_reducible refine (HSK.out _).mono ?_))
  rintro e w4 ⟨rfl, hb4⟩
  have HL4 := Lib.hid ((hb4.block _ (Array.getElem?_eq_some_iff.1 HL3.out).1).trans HL3.out)
  have HB4 := Lib.hid (bel_trans HB3.out hb4)
  clear hb4 g0 g1 g2 g3
  go_wp2_with fail
  ((with_reducible refine (HTW.out _).mono ?_))
  rintro e w5 ⟨rfl, hb5⟩
  have HL5 := Lib.hid ((hb5.block _ (Array.getElem?_eq_some_iff.1 HL4.out).1).trans HL4.out)
  have HB5 := Lib.hid (bel_trans HB4.out hb5)
  clear hb5
  obtain ⟨g0, g1, g2, g3⟩ := four_at HL5.out
  go_wp2_with fail
  ((with_reducible refine (HRM.out _).mono ?_))
  rintro e w6 ⟨rfl, hb6⟩
  have HB6 := Lib.hid (bel_trans HB5.out hb6)
  clear hb6 g0 g1 g2 g3
  rcases hor with rfl | ⟨rfl, rfl⟩ | ⟨rfl, rfl, rfl⟩ | ⟨rfl, rfl, rfl, rfl⟩
  · go_wp2
    go_ret
    exact ⟨rfl, HB6.out⟩
  · go_wp2
    go_ret
    exact ⟨rfl, HB6.out⟩
  · go_wp2
    go_ret
    exact ⟨rfl, HB6.out⟩
  · go_wp2
    go_ret
    exact ⟨rfl, HB6.out⟩
theorem stageSpots_all (ch n k : Int) (w : World) :
    Calls Try.prog 7 #[.int .i64 ch, .int .i64 n, .int .i64 k] w fun e w' => e = .returned (.bool true) ∧ Below w.heap.size w w' := by
  have hg := stgGood ch
  have hout : ∀ z : Int, (z < 0 ∨ (roomN (stgN ch) 5 : Int) ≤ z) → Hid (∀ x : World, Calls Try.prog 39 #[.agg #[.int .i64 (stgN ch : Int), .int .i64 20, .int .i64 5, .int .i64 256], .int .i64 z] x fun e w' => e = .returned (.tuple #[.int .i64 0, .int .i64 0, .int .i64 34]) ∧ Below x.heap.size x w') := fun z hz => Lib.hid fun x => spot_range (stgN ch) 20 5 256 z x hg hz
  have hin : ∀ z : Nat, z < roomN (stgN ch) 5 → Hid (∀ x : World, Calls Try.prog 39 #[.agg #[.int .i64 (stgN ch : Int), .int .i64 20, .int .i64 5, .int .i64 256], .int .i64 (z : Int)] x fun e w' => e = .returned (.tuple #[.int .i64 (rowN (stgN ch) z : Int), .int .i64 (firN (stgN ch) z : Int), .int .i64 0]) ∧ Below x.heap.size x w') := fun z hz => Lib.hid fun x => spot_ok (stgN ch) 20 5 256 z x hg hz
  by_cases hn : 0 ≤ n ∧ n < (roomN (stgN ch) 5 : Int)
  · obtain ⟨z, rfl⟩ : ∃ z : Nat, n = (z : Int) := ⟨n.toNat, by omega⟩
    have hz : z < roomN (stgN ch) 5 := by omega
    have ea : (rowN (stgN ch) z : Int) = ((z : Int)).tdiv ((stgN ch / 2 : Nat) : Int) := by unfold rowN; rw [Int.tdiv_eq_ediv_of_nonneg (by omega)]; simp
    have em : (firN (stgN ch) z : Int) = 2 * ((z : Int)).tmod ((stgN ch / 2 : Nat) : Int) := by unfold firN; rw [Int.tmod_eq_emod_of_nonneg (by omega)]; simp
    by_cases hk : 0 ≤ k ∧ k < (roomN (stgN ch) 5 : Int)
    · obtain ⟨y, rfl⟩ : ∃ y : Nat, k = (y : Int) := ⟨k.toNat, by omega⟩
      have hy : y < roomN (stgN ch) 5 := by omega
      refine stageSpots_in ch z y _ _ _ _ _ w hn (hin z hz) (hin y hy) ea em ?_
      by_cases e : z = y
      · right; left; rw [e]
      · right; right
        by_cases e1 : rowN (stgN ch) z = rowN (stgN ch) y
        · right
          intro e2
          have e3 : firN (stgN ch) z = firN (stgN ch) y := by omega
          apply e
          unfold rowN at e1
          unfold firN at e3
          have h1 := Nat.div_add_mod z (stgN ch / 2)
          have h2 := Nat.div_add_mod y (stgN ch / 2)
          have e4 : z % (stgN ch / 2) = y % (stgN ch / 2) := by omega
          rw [← h1, ← h2, e1, e4]
        · left; omega
    · exact stageSpots_in ch z k _ _ _ _ _ w hn (hin z hz) (hout k (by omega)) ea em (.inl (by omega))
  · by_cases hk : 0 ≤ k ∧ k < (roomN (stgN ch) 5 : Int)
    · obtain ⟨y, rfl⟩ : ∃ y : Nat, k = (y : Int) := ⟨k.toNat, by omega⟩
      exact stageSpots_out ch n y _ _ _ w (by omega) (hout n (by omega)) (hin y (by omega))
    · exact stageSpots_out ch n k _ _ _ w (by omega) (hout n (by omega)) (hout k (by omega))
theorem stageSpots_fr (ch n k : Int) (w : World) (_ : (Lit.int .i64 ch).wf = true) (_ : (Lit.int .i64 n).wf = true) (_ : (Lit.int .i64 k).wf = true) :
    Calls Try.prog 7 #[.int .i64 ch, .int .i64 n, .int .i64 k] w fun e w' => e = .returned (.bool true) ∧ Below w.heap.size w w' := stageSpots_all ch n k w
end Go.Proofs.Ytallambldbhibaa
