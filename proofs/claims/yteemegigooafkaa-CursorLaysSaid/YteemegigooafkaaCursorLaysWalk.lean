/- CursorLays: the walk. -/
import Derived.Test.YteemegigooafkaaItems
namespace Go.Proofs.Yteemegigooafkaa
open Go.RowKit

theorem row_items {w wr : World} {A : Option Addr} {L C : Nat} {bs : List Nat} (h : InK .u8 256 w A L C bs) (hb : Below w.heap.size w wr) : Row wr A L bs := row_keep (w := w) h.1 hb (Nat.le_refl _)

set_option maxRecDepth 100000 in
set_option maxHeartbeats 800000 in
theorem cursorLays_walk (a : Option Addr) (n cap : Nat) (K : Nat → Int) (N : Nat → Nat) (A : Nat → Option Addr) (L C : Nat → Nat) (B : Nat → List Nat) (w : World) (h : InItems w a n cap K N A L C B) :
    Calls Try.prog 3 #[.slice a n cap] w fun e w' => e = .returned (.bool true) ∧ Below w.heap.size w w' := by
  by_cases hl : Light n L
  · go_enter Try.func3, Try.ntmps3
    go_wp2_with fail
    refine (laid_any _).mono ?_
    rintro e w1 ⟨rfl, hb1⟩
    go_wp2_with fail
    refine (light_yes a n cap K N A L C B _ (items_keep h hb1) hl).mono ?_
    rintro e w' ⟨rfl, rfl⟩
    obtain ⟨hnc, hcm, hp, hi⟩ := h
    obtain ⟨h40, h400⟩ := hl
    have HL := Lib.hid h400
    clear h400
    have hz1 := hb1.size
    have hwr := wr_new w1
    have hb2 : Below w.heap.size w (w1.alloc (.cells #[.slice none 0 0] 28)) := bel_alloc hb1 _
    obtain ⟨pw, hpw⟩ : ∃ pw, pw = w1.heap.size := ⟨_, rfl⟩
    rw [← hpw] at hwr hz1
    have hz2 : pw ≤ (w1.alloc (.cells #[.slice none 0 0] 28)).heap.size := by simp; omega
    have HPW := Lib.hid hpw
    clear hpw
    go_wp2
    rw [← HPW.out]
    obtain ⟨w2, hw2⟩ : ∃ w2, w2 = w1.alloc (.cells #[.slice none 0 0] 28) := ⟨_, rfl⟩
    rw [← hw2] at hwr hb2 hz2 ⊢
    clear hw2 hb1 HPW
    go_loopw [4, 5] (fun out i wr => ∃ (k : Nat) (sv : Value) (X : List Nat), k ≤ n ∧ i = .int .i64 k ∧ WR pw wr pw sv X ∧ Own pw wr out X ∧ Aside pw sv out ∧ Below w.heap.size w wr ∧ pw ≤ wr.heap.size ∧ X.length ≤ 600 * k) (fun _ i _ => n - (intOf i).toNat)
    case atStart => exact ⟨0, _, [], by omega, rfl, hwr, own_nil _ _, aside_nil _ _, hb2, hz2, by simp⟩
    case round =>
      obtain ⟨k, sv, X, hk, rfl, hw3, ho3, ha3, hb3, hz3, hX3⟩ := hrel
      clear hwr hb2 hz2
      by_cases hlt : k < n
      · obtain ⟨b, off, hba, hc⟩ := hp (by omega)
        obtain ⟨hK, hN, hIB⟩ := hi k hlt
        obtain ⟨c0, c1, c2⟩ := hc k hlt
        have d0 := below_cell hb3 c0
        have d1 := below_cell hb3 c1
        have d2 := below_cell hb3 c2
        have hL := HL.out k hlt
        have hrk := row_items hIB hb3
        have hff : 0 < L k → ∀ x, A k = some x → x.block < pw := fun h0 x hx => Nat.lt_of_lt_of_le (hIB.2.2.2.2 x hx h0) hz1
        have HA := Lib.hid hba
        clear hba hc c0 c1 c2
        rw [HA.out]
        go_wp2_with fail
        have hbl : (B k).length ≤ 400 := by have := hIB.1.1; omega
        refine (lay_any pw pw sv X X _ (K k) (N k) (L k) (C k) (A k) (B k) wr hw3 ho3 ha3 hz3 hN hrk hIB.2.2.2.1 hL hff (by omega) (by omega)).mono ?_
        rintro e w4 ⟨ov4, sv4, rfl, hw4, ho4, ha4, hb4⟩
        have hX4 := layItem_len (K k) (N k) (B k) X hbl
        have hb34 := hb3.trans (hb4.mono hz1)
        have hz4 := Nat.le_trans hz3 hb4.size
        obtain ⟨X4, hXX⟩ : ∃ X4, X4 = layItem (K k) (N k) (B k) X := ⟨_, rfl⟩
        rw [← hXX] at hw4 ho4 hX4
        clear hw3 ho3 ha3 hb3 hz3 hb4 hXX d0 d1 d2
        go_wp2
        go_roundw
        case rel => exact ⟨k + 1, sv4, X4, by omega, by go_num, hw4, ho4, ha4, hb34, hz4, by omega⟩
        case measure => simp [intOf]; omega
      · clear hp
        obtain ⟨a5, c5, hov, hr5, _⟩ := row_of_own ho3
        subst hov
        have hXl : X.length ≤ 30000 := by omega
        go_wp2_with fail
        refine (wBytes_any pw pw sv X _ hw3 (by omega)).mono ?_
        intro e w5 h5
        obtain ⟨a6, c6, rfl, hr6, _, _, hb6⟩ := retOwn_len h5
        have hr56 := row_keep hr5 hb6 (Nat.le_refl _)
        have hw6 := wr_keep hw3 hb6
        obtain ⟨LX, hLX⟩ : ∃ LX, LX = X.length := ⟨_, rfl⟩
        rw [← hLX] at hr56 hr6 ⊢
        clear hLX h5
        go_wp2_with fail
        refine (same_any _ _ _ _ _ _ _ _ hr6 hr56).mono ?_
        rintro e w' ⟨rfl, rfl⟩
        go_wp2_with fail
        refine (wBytes_any pw pw sv X _ hw6 (by omega)).mono ?_
        intro e w7 h7
        obtain ⟨a8, c8, rfl, hr8, _, _, hb8⟩ := retOwn_len h7
        have hr78 := row_keep hr56 hb8 (Nat.le_refl _)
        go_wp2_with fail
        refine (same_any _ _ _ _ _ _ _ _ hr8 hr78).mono ?_
        rintro e w' ⟨rfl, rfl⟩
        go_wp2
        go_ret
        exact ⟨rfl, bel_trans (bel_trans hb3 hb6) hb8⟩
  · go_enter Try.func3, Try.ntmps3
    go_wp2_with fail
    refine (laid_any _).mono ?_
    rintro e w1 ⟨rfl, hb1⟩
    go_wp2_with fail
    refine (light_no a n cap K N A L C B _ (items_keep h hb1) hl).mono ?_
    rintro e w' ⟨rfl, rfl⟩
    go_wp2_with fail
    refine (laid_any _).mono ?_
    rintro e w2 ⟨rfl, hb2⟩
    go_wp2
    go_ret
    exact ⟨rfl, bel_trans hb1 hb2⟩

end Go.Proofs.Yteemegigooafkaa
