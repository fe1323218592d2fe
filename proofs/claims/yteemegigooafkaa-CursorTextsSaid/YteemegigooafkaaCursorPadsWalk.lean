/- CursorPads: the walk. -/
import Derived.Test.YteemegigooafkaaPadsBy
import Derived.Test.YteemegigooafkaaItems
namespace Go.Proofs.Yteemegigooafkaa
open Go.RowKit

theorem wf_i64 {n : Int} (h : (Lit.int .i64 n).wf = true) : -9223372036854775808 ≤ n ∧ n ≤ 9223372036854775807 := by
  have hm : IntKind.i64.min = -9223372036854775808 := by decide
  have hM : IntKind.i64.max = 9223372036854775807 := by decide
  simp [Lit.wf, hm, hM] at h
  omega
theorem padTo_both (bs : List Nat) (n : Int) : bs.length ≤ (padTo bs n).length ∧ (padTo bs n).length ≤ bs.length + n.toNat := by
  unfold padTo
  rw [List.length_append, List.length_replicate]
  omega
theorem padTo_twice (bs : List Nat) (n : Int) : padTo (padTo bs n) n = padTo bs n := by
  have h : n.toNat - (padTo bs n).length = 0 := by
    unfold padTo
    rw [List.length_append, List.length_replicate]
    omega
  generalize hx : padTo bs n = X at *
  unfold padTo
  rw [h]
  simp
theorem padTo_zero (bs : List Nat) (n : Int) (len : Nat) (hl : bs.length = len) : ∀ i, i < (padTo bs n).length - len → ((padTo bs n).drop len).getD i 0 = 0 := fun i hi => by
  subst hl
  have h1 : (padTo bs n).drop bs.length = List.replicate (n.toNat - bs.length) 0 := by unfold padTo; simp
  rw [h1]
  simp [List.getD_eq_getElem?_getD, List.getElem?_replicate]
  split <;> rfl
theorem row_aside {pw : Nat} {w4 w5 : World} {sv : Value} {X Y : List Nat} {a : Option Addr} {c n : Nat} (hw : WR pw w4 pw sv X) (ho : Own w4.heap.size w5 (.slice a n c) Y) : ∀ x, a = some x → x.block ≠ pw ∧ some x.block ≠ sv.ownBlock := fun x hx => by
  have h1 : pw < w4.heap.size := World.block_lt_of_cell? w4 ⟨pw, 0, none⟩ (cell_of_heap1 hw.2.1)
  have h2 := own_base ho x.block (by rw [hx]; rfl)
  refine ⟨by omega, fun h => ?_⟩
  have h3 := own_base hw.2.2.1 x.block h.symm
  omega
theorem row_moved {w w' : World} {pw : Nat} {sv sv' : Value} {a : Option Addr} {len : Nat} {bs : List Nat} (h : Row w a len bs) (hm : Moved w pw sv sv' w') (hne : ∀ x, a = some x → x.block ≠ pw ∧ some x.block ≠ sv.ownBlock) : Row w' a len bs := by
  obtain ⟨h1, h2, h3⟩ := h
  refine ⟨h1, h2, fun h0 => ?_⟩
  obtain ⟨b, off, rfl, hc⟩ := h3 h0
  exact ⟨b, off, rfl, fun i hi => moved_cell hm (hc i hi) (hne _ rfl)⟩
theorem frozen_new (w : World) (t : TypeId) : (w.alloc (.cells #[.bool false] t)).frozen? ⟨w.heap.size, 0, none⟩ = false := by
  have h := heap_alloc_new w (.cells #[.bool false] t)
  unfold World.frozen?
  rw [show (w.alloc (.cells #[.bool false] t)).heap[(⟨w.heap.size, 0, none⟩ : Addr).block]? = some (.cells #[.bool false] t) from h]
  rfl
theorem setOne_after {w5 W w7 : World} {t : TypeId} (hq : SetOne (w5.alloc (.cells #[.bool false] t)) w5.heap.size (.bool true) W) (hb : Below (w5.alloc (.cells #[.bool false] t)).heap.size W w7) :
    Below w5.heap.size w5 w7 ∧ w7.cell? ⟨w5.heap.size, 0, none⟩ = some (.bool true) := by
  obtain ⟨W2, h2, rfl⟩ := hq
  have hs : (w5.alloc (.cells #[.bool false] t)).heap.size = w5.heap.size + 1 := by simp
  have hn := heap_alloc_new w5 (.cells #[.bool false] t)
  have h3 : W2.heap[w5.heap.size]? = some (.cells #[.bool false] t (0, 0)) := by rw [h2.block _ (by omega)]; exact hn
  have hc : W2.cell? ⟨w5.heap.size, 0, none⟩ = some (.bool false) := cell_of_heap1 h3
  refine ⟨?_, ?_⟩
  · exact ((bel_alloc (Below.refl _ w5) _).trans ((h2.mono (B' := w5.heap.size) (by omega)).setCell (p := ⟨w5.heap.size, 0, none⟩) (Nat.le_refl _) _)).trans (hb.mono (by omega))
  · rw [hb.cell (p := ⟨w5.heap.size, 0, none⟩) (by rw [hs]; exact Nat.lt_succ_self _)]
    simp [go_sem, hc]

set_option maxRecDepth 100000 in
set_option maxHeartbeats 800000 in
theorem cursorPads_walk (a : Option Addr) (len cap : Nat) (bs : List Nat) (n : Int) (w : World) (hin : InB w a len cap bs) (hwf : (Lit.int .i64 n).wf = true) :
    Calls Try.prog 9 #[.slice a len cap, .int .i64 n] w fun e w' => e = .returned (.bool true) ∧ Below w.heap.size w w' := by
  obtain ⟨hr, hlc, hcm, hnone⟩ := hin
  obtain ⟨hn0, hn1⟩ := wf_i64 hwf
  by_cases hbig : 400 < len ∨ 3000 < n
  · go_enter Try.func9, Try.ntmps9
    go_wp2_with fail
    obtain ⟨w0, hw0⟩ : ∃ w0, w0 = w.alloc (.cells #[.slice a len cap] 26) := ⟨_, rfl⟩
    have hb0 : Below w.heap.size w w0 := by rw [hw0]; exact bel_alloc (Below.refl _ w) _
    have hc0 : w0.cell? ⟨w.heap.size, 0, none⟩ = some (.slice a len cap) := by rw [hw0]; exact cell_new1 _ _ _
    rw [← hw0]
    clear hw0
    refine (laid_any _).mono ?_
    rintro e w1 ⟨rfl, hb1⟩
    have hc1 := below_cell hb1 hc0
    have hb01 := bel_trans hb0 hb1
    clear hc0 hb0 hb1
    by_cases h4 : 400 < len
    · have hg1 : decide ((len : Int) > 400) = true := by simp; omega
      go_wp2_with fail
      refine (laid_any _).mono ?_
      rintro e w2 ⟨rfl, hb2⟩
      go_wp2
      go_ret
      exact ⟨rfl, bel_trans hb01 hb2⟩
    · have h3 : 3000 < n := by omega
      have hg1 : decide ((len : Int) > 400) = false := by simp; omega
      have hg2 : decide (n > 3000) = true := by simp; omega
      go_wp2_with fail
      refine (laid_any _).mono ?_
      rintro e w2 ⟨rfl, hb2⟩
      go_wp2
      go_ret
      exact ⟨rfl, bel_trans hb01 hb2⟩
  · have hl4 : len ≤ 400 := by omega
    have hn3 : n ≤ 3000 := by omega
    have hg1 : decide ((len : Int) > 400) = false := by simp; omega
    have hg2 : decide (n > 3000) = false := by simp; omega
    have hmf : ∀ (fn : Fn) (first cap : Array Value) (w : World), (Instr.makeFunc fn first cap).run Try.prog w = .ok (.func fn first cap) w := fun _ _ _ _ => rfl
    go_enter Try.func9, Try.ntmps9
    go_wp2_with fail
    obtain ⟨w0, hw0⟩ : ∃ w0, w0 = w.alloc (.cells #[.slice a len cap] 26) := ⟨_, rfl⟩
    have hb0 : Below w.heap.size w w0 := by rw [hw0]; exact bel_alloc (Below.refl _ w) _
    have hc0 : w0.cell? ⟨w.heap.size, 0, none⟩ = some (.slice a len cap) := by rw [hw0]; exact cell_new1 _ _ _
    rw [← hw0]
    clear hw0
    refine (laid_any _).mono ?_
    rintro e w1 ⟨rfl, hb1⟩
    have hc1 := below_cell hb1 hc0
    have hb01 := bel_trans hb0 hb1
    clear hc0 hb0 hb1
    have hz1 := hb01.size
    have hs0 : w.heap.size < w1.heap.size := World.block_lt_of_cell? w1 ⟨w.heap.size, 0, none⟩ hc1
    have hwr := wr_new w1
    have hba : Below w1.heap.size w1 (w1.alloc (.cells #[.slice none 0 0] 28)) := bel_alloc (Below.refl _ w1) _
    have hc2 := below_cell hba hc1
    have hrw : Row w a len bs := hr
    obtain ⟨pw, hpw⟩ : ∃ pw, pw = w1.heap.size := ⟨_, rfl⟩
    obtain ⟨w2, hw2⟩ : ∃ w2, w2 = w1.alloc (.cells #[.slice none 0 0] 28) := ⟨_, rfl⟩
    have hz2 : pw ≤ w2.heap.size := by rw [hw2, hpw]; simp
    have HC2 : Hid (w2.cell? ⟨w.heap.size, 0, none⟩ = some (.slice a len cap)) := by rw [hw2]; exact hc2
    have HBA : Hid (Below pw w1 w2) := by rw [hw2, hpw]; exact hba
    have HWR : Hid (WR pw w2 pw (.slice none 0 0) []) := by rw [hw2, hpw]; exact hwr
    have hsp : w.heap.size < pw := by omega
    have HPW := Lib.hid hpw
    clear hwr hba hpw
    go_wp2_with fail
    rw [← hw2, ← HPW.out]
    have hb02 : Below w.heap.size w w2 := hb01.trans (HBA.out.mono (Nat.le_of_lt hsp))
    have hr2 : Row w2 a len bs := row_keep hr hb02 (Nat.le_refl _)
    refine (raw_any pw pw _ _ _ HWR.out hz2 a len cap bs hr2 hnone (by simp; omega)).mono ?_
    rintro e w3 ⟨rfl, sv3, hw3, hm3⟩
    rw [List.nil_append] at hw3
    have hb3 := hm3.below HWR.out hz2
    have hz3 := Nat.le_trans hz2 hb3.size
    have hc3 : w3.cell? ⟨w.heap.size, 0, none⟩ = some (.slice a len cap) := by rw [hb3.cell (p := ⟨w.heap.size, 0, none⟩) (by show w.heap.size < pw; omega)]; exact HC2.out
    have hb03 : Below w.heap.size w w3 := hb02.trans (hb3.mono (by omega))
    clear hm3 hb3 hb01 hb02 hc1 hc2 hw2
    have hblen := hr.1
    go_wp2_with fail
    refine (wPad_any pw pw sv3 bs _ hw3 hz3 n hn0 (by omega) (by omega)).mono ?_
    rintro e w4 ⟨rfl, sv4, hw4, hm4⟩
    have hb4 := hm4.below hw3 hz3
    have hz4 := Nat.le_trans hz3 hb4.size
    have hc4 : w4.cell? ⟨w.heap.size, 0, none⟩ = some (.slice a len cap) := by rw [hb4.cell (p := ⟨w.heap.size, 0, none⟩) (by show w.heap.size < pw; omega)]; exact hc3
    have hb04 : Below w.heap.size w w4 := hb03.trans (hb4.mono (by omega))
    obtain ⟨X, hX⟩ : ∃ X, X = padTo bs n := ⟨_, rfl⟩
    have hX1 : bs.length ≤ X.length ∧ X.length ≤ bs.length + n.toNat := by rw [hX]; exact padTo_both bs n
    have hX2 : padTo X n = X := by rw [hX]; exact padTo_twice bs n
    have hX3 : ∀ i, i < X.length - len → (X.drop len).getD i 0 = 0 := by rw [hX]; exact padTo_zero bs n len hblen
    rw [← hX] at hw4
    have HX := Lib.hid hX
    clear hX hm4 hb4 hb03 hc3 hw3 hz3
    go_wp2_with fail
    refine (wBytes_any pw pw sv4 X _ hw4 (by omega)).mono ?_
    intro e w5 h5
    obtain ⟨a5, c5, rfl, hr5, hn5, ho5, hb5⟩ := retOwn_len h5
    have has := row_aside hw4 ho5
    have hc5 := below_cell hb5 hc4
    have hw5 := wr_keep hw4 hb5
    have hb05 := bel_trans hb04 hb5
    have hz5 := Nat.le_trans hz4 hb5.size
    clear h5 hb5 hc4 hw4 hb04 hz4 ho5
    go_wp2_with fail
    have hb6 : Below w5.heap.size w5 (w5.alloc (.cells #[.bool false] 4)) := bel_alloc (Below.refl _ w5) _
    have hcB := below_cell hb6 hc5
    have hcZ : (w5.alloc (.cells #[.bool false] 4)).cell? ⟨w5.heap.size, 0, none⟩ = some (.bool false) := cell_new1 _ _ _
    have hfZ : (w5.alloc (.cells #[.bool false] 4)).frozen? ⟨w5.heap.size, 0, none⟩ = false := frozen_new _ _
    have hcall : ∀ (args : Array Value) (wx : World), (callFunc 44 args).run Try.prog wx = .ok (.enter 44 args) wx := fun args wx => by simp [go_sem]
    refine (read_ok a5 X.length c5 X _ _ _ _ (row_alloc hr5 _) hn5 (by omega) hcall (padsBy w.heap.size w5.heap.size len cap a (.bool false) _ X hcB hcZ hfZ (by omega) (by omega) hX3)).mono ?_
    rintro e w7 ⟨rfl, W2, hq, hb7⟩
    obtain ⟨hb57, hc7z⟩ := setOne_after hq hb7
    have hc7 := below_cell hb57 hc5
    have hb07 := bel_trans hb05 hb57
    have hrb7 := row_keep hr hb07 (Nat.le_refl _)
    have hr57 := row_keep hr5 hb57 (Nat.le_refl _)
    have hw7 := wr_keep hw5 hb57
    have hz7 := Nat.le_trans hz5 hb57.size
    clear hq hb7 hb57 hcB hcZ hfZ hc5 hw5 hb05 hz5 hb6
    go_wp2_with fail
    refine (refPad_any a len cap bs _ hrb7 hlc hcm hnone (by omega) n hn0 (by omega)).mono ?_
    intro e w8 h8
    rw [← HX.out] at h8
    obtain ⟨a8, c8, rfl, hr8, _, _, hb8⟩ := retOwn_len h8
    have hr58 := row_keep hr57 hb8 (Nat.le_refl _)
    have hw8 := wr_keep hw7 hb8
    have hz8 := Nat.le_trans hz7 hb8.size
    have hb08 := bel_trans hb07 hb8
    clear h8 hb8 hr57 hw7 hz7 hb07 hrb7
    obtain ⟨LX, hLX⟩ : ∃ LX, LX = X.length := ⟨_, rfl⟩
    have hLX4 : LX ≤ 4000 := by omega
    rw [← hLX] at hr58 hr8 ⊢
    have HLX := Lib.hid hLX
    clear hLX hX3
    go_wp2_with fail
    refine (same_any _ _ _ _ _ _ _ _ hr58 hr8).mono ?_
    rintro e w' ⟨rfl, rfl⟩
    go_wp2_with fail
    refine (wPad_any pw pw sv4 X _ hw8 hz8 n hn0 (by omega) (by omega)).mono ?_
    rintro e w9 ⟨rfl, sv9, hw9, hm9⟩
    rw [hX2] at hw9
    have hb9 := hm9.below hw8 hz8
    have hr59 := row_moved hr58 hm9 has
    have hb09 : Below w.heap.size w w9 := hb08.trans (hb9.mono (Nat.le_of_lt hsp))
    clear hm9 hb9 hw8
    go_wp2_with fail
    refine (wBytes_any pw pw sv9 X _ hw9 (by omega)).mono ?_
    intro e w10 h10
    obtain ⟨a10, c10, rfl, hr10, _, _, hb10⟩ := retOwn_len h10
    have hr510 := row_keep hr59 hb10 (Nat.le_refl _)
    clear h10
    rw [← HLX.out] at hr10 ⊢
    go_wp2_with fail
    refine (same_any _ _ _ _ _ _ _ _ hr10 hr510).mono ?_
    rintro e w' ⟨rfl, rfl⟩
    go_wp2
    go_ret
    exact ⟨rfl, bel_trans hb09 hb10⟩

end Go.Proofs.Yteemegigooafkaa
