/- gabionref17.Decode: the walk. -/
import Derived.Test.YtnnaijeapapehaaInRefDec
import Derived.Deep.DeepCutAuto
namespace Go.Proofs.Ytnnaijeapapehaa
open Go.RowKit

theorem refDec_len (a : Option Addr) (len cap : Nat) (w : World) (h : len ≠ 64) :
    Calls Try.prog 15 #[.slice a len cap] w fun e w' => e = .returned (.tuple #[.agg #[.int .i64 0, .int .i64 0, .int .i64 0, .slice none 0 0], .int .i64 62]) ∧ Below w.heap.size w w' := by
  have t1 : ((len : Int) != 64) = true := by simp; omega
  clear h
  go_enter Try.func15, Try.ntmps15
  go_wp2
  exact bodyPost_ret (v := .tuple #[.agg #[.int .i64 0, .int .i64 0, .int .i64 0, .slice none 0 0], .int .i64 62]) (by simp [results, Try.results15, go_sem]) rfl ⟨rfl, bel_alloc (Below.refl _ _) _⟩
set_option maxRecDepth 100000 in
set_option maxHeartbeats 4000000 in
theorem refDec_no (b off cap : Nat) (bs : List Nat) (w : World) (hr : Row w (some ⟨b, off, none⟩) 64 bs) (hc : 64 ≤ cap) (hbad : badI bs) :
    Calls Try.prog 15 #[.slice (some ⟨b, off, none⟩) 64 cap] w fun e w' => e = .returned (.tuple #[.agg #[.int .i64 0, .int .i64 0, .int .i64 0, .slice none 0 0], .int .i64 62]) ∧ Below w.heap.size w w' := by
  obtain ⟨V, hV⟩ : ∃ x, x = w.alloc (.cells #[.int .i64 0, .int .i64 0, .int .i64 0, .slice none 0 0] 34) := ⟨_, rfl⟩
  obtain ⟨p, hp⟩ : ∃ x, x = w.heap.size := ⟨_, rfl⟩
  have hvb : Below w.heap.size w V := by rw [hV]; exact bel_alloc (Below.refl _ _) _
  have hvh : V.heap[p]? = some (.cells #[.int .i64 0, .int .i64 0, .int .i64 0, .slice none 0 0] 34 (0, 0)) := by rw [hV, hp]; exact heap_alloc_new _ _
  have hpl : p < V.heap.size := (Array.getElem?_eq_some_iff.1 hvh).1
  have HR := Lib.hid (row_keep hr hvb (Nat.le_refl _))
  have HX : Hid (∀ x : World, Below V.heap.size V x → x.heap[p]? = some (.cells #[.int .i64 0, .int .i64 0, .int .i64 0, .slice none 0 0] 34 (0, 0)) ∧ Below w.heap.size w x ∧ Row x (some ⟨b, off, none⟩) 64 bs) := Lib.hid fun x hx => ⟨(hx.block p hpl).trans hvh, bel_trans hvb hx, row_keep HR.out hx (Nat.le_refl _)⟩
  have HP : Hid (w.heap.size ≤ p) := Lib.hid (by omega)
  have h0 : V.cell? ⟨b, off, none⟩ = some (.int .u8 ((bs.getD 0 0 : Nat) : Int)) := by
    obtain ⟨b', off', x, e, hc, _, hx⟩ := row_cell HR.out (show 0 < 64 by omega)
    cases e
    have hx : x = bs.getD 0 0 := hx.out
    rw [hx] at hc
    exact hc
  have h1 : V.cell? ⟨b, off + 1, none⟩ = some (.int .u8 ((bs.getD 1 0 : Nat) : Int)) := by
    obtain ⟨b', off', x, e, hc, _, hx⟩ := row_cell HR.out (show 1 < 64 by omega)
    cases e
    have hx : x = bs.getD 1 0 := hx.out
    rw [hx] at hc
    exact hc
  have n4 : ¬ cap = 48 := by omega
  have n5 : 48 ≤ cap := by omega
  have n6 : (48 : Int) ≤ (cap : Int) := by omega
  have HZ : Hid (Calls Try.prog 36 #[.slice (some ⟨b, off + 48, none⟩) 16 (cap - 48)] V fun e w' => e = .returned (.bool (zeros (bs.drop 48))) ∧ Below V.heap.size V w') := Lib.hid (refIsZero_any (c := cap - 48) (rowR_suffix HR.out 48 (by omega)) (by omega))
  have HA : Hid (∀ x : World, Below V.heap.size V x → Calls Try.prog 36 #[.slice (some ⟨b, off, none⟩) 64 cap] x fun e w' => e = .returned (.bool (zeros bs)) ∧ Below x.heap.size x w') := Lib.hid fun x hx => refIsZero_any (HX.out x hx).2.2 (by omega)
  have HBAD := Lib.hid hbad
  obtain ⟨k0, hk0⟩ : ∃ k, bs.getD 0 0 = k := ⟨_, rfl⟩
  obtain ⟨k1, hk1⟩ : ∃ k, bs.getD 1 0 = k := ⟨_, rfl⟩
  obtain ⟨z1, hz1⟩ : ∃ z, zeros (bs.drop 48) = z := ⟨_, rfl⟩
  obtain ⟨z2, hz2⟩ : ∃ z, zeros bs = z := ⟨_, rfl⟩
  unfold badI at hbad
  rw [hk0, hk1, hz1, hz2] at hbad
  rw [hk0] at h0
  rw [hk1] at h1
  rw [hz1] at HZ
  rw [hz2] at HA
  clear hk0 hk1 hz1 hz2 hr hvb hvh hpl HBAD
  go_enter Try.func15, Try.ntmps15
  go_upto_region 1 with fail
  rw [← hV, ← hp]
  clear hV hp
  by_cases c0 : 2 < k0
  · have t0 : decide ((2 : Int) < (k0 : Int)) = true := by simp; omega
    clear hbad c0
    obtain ⟨d0, d1, d2, d3⟩ := pt_four (HX.out V (Below.refl _ _)).1
    have yf := pt_free (HX.out V (Below.refl _ _)).1
    have f0 := yf 0
    have f1 := yf 1
    have f2 := yf 2
    have f3 := yf 3
    clear yf
    go_wp2_with fail
    obtain ⟨r0, r1, r2, r3⟩ := pt_four (pt_put4 (HX.out V (Below.refl _ _)).1 (.int .i64 0) (.int .i64 0) (.int .i64 0) (.slice none 0 0))
    refine bodyPost_ret (v := .tuple #[.agg #[.int .i64 0, .int .i64 0, .int .i64 0, .slice none 0 0], .int .i64 62]) ?_ rfl ⟨rfl, ((((HX.out V (Below.refl _ _)).2.1.setCell (p := ⟨p, 0, none⟩) HP.out _).setCell (p := ⟨p, 1, none⟩) HP.out _).setCell (p := ⟨p, 2, none⟩) HP.out _).setCell (p := ⟨p, 3, none⟩) HP.out _⟩
    simp [results, Try.results15, go_sem, r0, r1, r2, r3]
  have t0 : decide ((2 : Int) < (k0 : Int)) = false := by simp; omega
  by_cases c1 : k1 = 0
  rotate_left
  · have t1 : ((k1 : Int) != 0) = true := by simp; omega
    clear hbad c0 c1
    obtain ⟨d0, d1, d2, d3⟩ := pt_four (HX.out V (Below.refl _ _)).1
    have yf := pt_free (HX.out V (Below.refl _ _)).1
    have f0 := yf 0
    have f1 := yf 1
    have f2 := yf 2
    have f3 := yf 3
    clear yf
    go_wp2_with fail
    obtain ⟨r0, r1, r2, r3⟩ := pt_four (pt_put4 (HX.out V (Below.refl _ _)).1 (.int .i64 0) (.int .i64 0) (.int .i64 0) (.slice none 0 0))
    refine bodyPost_ret (v := .tuple #[.agg #[.int .i64 0, .int .i64 0, .int .i64 0, .slice none 0 0], .int .i64 62]) ?_ rfl ⟨rfl, ((((HX.out V (Below.refl _ _)).2.1.setCell (p := ⟨p, 0, none⟩) HP.out _).setCell (p := ⟨p, 1, none⟩) HP.out _).setCell (p := ⟨p, 2, none⟩) HP.out _).setCell (p := ⟨p, 3, none⟩) HP.out _⟩
    simp [results, Try.results15, go_sem, r0, r1, r2, r3]
  have t1 : ((k1 : Int) != 0) = false := by simp; omega
  cases z1 with
  | false =>
    clear hbad c0 c1
    go_wp2_with fail
    ((with_reducible refine HZ.out.mono ?_))
    rintro e w1 ⟨rfl, hb1⟩
    have HB1 := Lib.hid hb1
    clear hb1
    obtain ⟨d0, d1, d2, d3⟩ := pt_four (HX.out w1 (HB1.out)).1
    have yf := pt_free (HX.out w1 (HB1.out)).1
    have f0 := yf 0
    have f1 := yf 1
    have f2 := yf 2
    have f3 := yf 3
    clear yf
    go_wp2_with fail
    obtain ⟨r0, r1, r2, r3⟩ := pt_four (pt_put4 (HX.out w1 (HB1.out)).1 (.int .i64 0) (.int .i64 0) (.int .i64 0) (.slice none 0 0))
    refine bodyPost_ret (v := .tuple #[.agg #[.int .i64 0, .int .i64 0, .int .i64 0, .slice none 0 0], .int .i64 62]) ?_ rfl ⟨rfl, ((((HX.out w1 (HB1.out)).2.1.setCell (p := ⟨p, 0, none⟩) HP.out _).setCell (p := ⟨p, 1, none⟩) HP.out _).setCell (p := ⟨p, 2, none⟩) HP.out _).setCell (p := ⟨p, 3, none⟩) HP.out _⟩
    simp [results, Try.results15, go_sem, r0, r1, r2, r3]
  | true =>
    have c2 : k0 = 0 ∧ z2 = false := by
      rcases hbad with h | h | h | h
      · omega
      · omega
      · cases h
      · exact h
    obtain ⟨c3, rfl⟩ := c2
    have t2 : ((k0 : Int) == 0) = true := by simp; omega
    clear hbad c0 c1 c3
    go_wp2_with fail
    ((with_reducible refine HZ.out.mono ?_))
    rintro e w1 ⟨rfl, hb1⟩
    have HB1 := Lib.hid hb1
    clear hb1
    have h0' := pt_step h0 HB1.out
    go_wp2_with fail
    ((with_reducible refine (HA.out _ HB1.out).mono ?_))
    rintro e w2 ⟨rfl, hb2⟩
    have HB2 := Lib.hid (bel_trans HB1.out hb2)
    clear hb2
    obtain ⟨d0, d1, d2, d3⟩ := pt_four (HX.out w2 (HB2.out)).1
    have yf := pt_free (HX.out w2 (HB2.out)).1
    have f0 := yf 0
    have f1 := yf 1
    have f2 := yf 2
    have f3 := yf 3
    clear yf
    go_wp2_with fail
    obtain ⟨r0, r1, r2, r3⟩ := pt_four (pt_put4 (HX.out w2 (HB2.out)).1 (.int .i64 0) (.int .i64 0) (.int .i64 0) (.slice none 0 0))
    refine bodyPost_ret (v := .tuple #[.agg #[.int .i64 0, .int .i64 0, .int .i64 0, .slice none 0 0], .int .i64 62]) ?_ rfl ⟨rfl, ((((HX.out w2 (HB2.out)).2.1.setCell (p := ⟨p, 0, none⟩) HP.out _).setCell (p := ⟨p, 1, none⟩) HP.out _).setCell (p := ⟨p, 2, none⟩) HP.out _).setCell (p := ⟨p, 3, none⟩) HP.out _⟩
    simp [results, Try.results15, go_sem, r0, r1, r2, r3]
end Go.Proofs.Ytnnaijeapapehaa
