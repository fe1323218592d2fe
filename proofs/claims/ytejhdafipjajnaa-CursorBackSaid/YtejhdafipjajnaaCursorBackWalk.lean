/- CursorBack: the walk. -/
import Derived.Test.YtejhdafipjajnaaBackBy
namespace Go.Proofs.Ytejhdafipjajnaa
open Go.RowKit

theorem rests_len (K : Nat → Int) (N : Nat → Nat) (B : Nat → List Nat) (n : Nat) (hB : ∀ i, i < n → (B i).length ≤ 400) : ∀ m, m ≤ n → (rests K N B 0 m).length ≤ 600 * m := by
  intro m
  induction m with
  | zero => intro _; simp [rests]
  | succ m ih =>
    intro hm
    have h1 := ih (by omega)
    rw [rests_snoc, List.length_append, Nat.zero_add]
    have h2 : (enc (K m) (N m) (B m)).length ≤ 600 := by
      by_cases h6 : K m = 6
      · rw [h6, enc_six]; simp
      · have h3 := layItem_len (K m) (N m) (B m) [] (hB m (by omega))
        rw [layItem_enc _ _ _ _ h6] at h3
        simpa using h3
    omega

set_option maxRecDepth 100000 in
set_option maxHeartbeats 800000 in
theorem cursorBack_walk (a : Option Addr) (n cap : Nat) (K : Nat → Int) (N : Nat → Nat) (A : Nat → Option Addr) (L C : Nat → Nat) (B : Nat → List Nat) (w : World) (h : InItems w a n cap K N A L C B) :
    Calls Try.prog 3 #[.slice a n cap] w fun e w' => e = .returned (.bool true) ∧ Below w.heap.size w w' := by
  have hb0 : Below w.heap.size w (w.alloc (.cells #[.slice a n cap] 22)) := bel_alloc (Below.refl _ w) _
  have hc0 := cell_new1 w (.slice a n cap) 22
  by_cases hl : Light n L
  · go_enter Try.func3, Try.ntmps3
    go_wp2_with fail
    refine (laid_any _).mono ?_
    rintro e w1 ⟨rfl, hb1⟩
    have hc1 := below_cell hb1 hc0
    have hb01 := bel_trans hb0 hb1
    clear hb0 hc0 hb1
    go_wp2_with fail
    refine (light_yes a n cap K N A L C B _ (items_keep h hb01) hl).mono ?_
    rintro e w' ⟨rfl, rfl⟩
    have hz1 := hb01.size
    have hwr := wr_new w1
    have hba : Below w1.heap.size w1 (w1.alloc (.cells #[.slice none 0 0] 28)) := bel_alloc (Below.refl _ w1) _
    have hc2 := below_cell hba hc1
    have hsp := World.block_lt_of_cell? w1 ⟨w.heap.size, 0, none⟩ hc1
    have hb02 := bel_trans hb01 hba
    obtain ⟨pw, hpw⟩ : ∃ pw, pw = w1.heap.size := ⟨_, rfl⟩
    obtain ⟨al, hal⟩ : ∃ al, al = w.heap.size := ⟨_, rfl⟩
    rw [← hpw] at hwr hz1 hsp
    rw [← hal] at hc1 hc2
    have hsp2 : al < pw := by rw [hal]; exact hsp
    have hz2 : pw ≤ (w1.alloc (.cells #[.slice none 0 0] 28)).heap.size := by simp; omega
    have HPW := Lib.hid hpw
    have HAL := Lib.hid hal
    have hale : w.heap.size ≤ al := by omega
    clear hpw hba hb01 hal hsp
    go_wp2_with fail
    rw [← HPW.out, ← HAL.out]
    obtain ⟨w2, hw2⟩ : ∃ w2, w2 = w1.alloc (.cells #[.slice none 0 0] 28) := ⟨_, rfl⟩
    rw [← hw2] at hwr hb02 hz2 hc2 ⊢
    have HIT := Lib.hid h
    have HL := Lib.hid hl
    have hnc : n ≤ cap := h.1
    have hcm : cap ≤ maxLen := h.2.1
    have h40 : n ≤ 40 := hl.1
    clear hw2 HPW hc1 h hl
    go_loopw [4] (fun i wr => ∃ (k : Nat) (sv : Value) (X : List Nat), k ≤ n ∧ i = .int .i64 k ∧ WR pw wr pw sv X ∧ Below pw w2 wr ∧ Hid (X = rests K N B 0 k)) (fun i _ => n - (intOf i).toNat)
    case atStart => exact ⟨0, _, [], by omega, rfl, hwr, Below.refl _ _, Lib.hid rfl⟩
    case round =>
      obtain ⟨k, sv, X, hk, rfl, hw3, hb23, HX⟩ := hrel
      clear hwr
      have hz3 := Nat.le_trans hz2 hb23.size
      have hc3 : wr.cell? ⟨al, 0, none⟩ = some (.slice a n cap) := by rw [hb23.cell (p := ⟨al, 0, none⟩) hsp2]; exact hc2
      have hb03 : Below w.heap.size w wr := hb02.trans (hb23.mono hz1)
      have hXl : X.length ≤ 600 * k := by
        rw [HX.out]
        exact rests_len K N B n (fun i hi => by have := (HIT.out.2.2.2 i hi).2.2.1.1; have := HL.out.2 i hi; omega) k hk
      by_cases hlt : k < n
      · obtain ⟨b, off, hba, hc⟩ := HIT.out.2.2.1 (by omega)
        obtain ⟨hK, hN, hIB⟩ := HIT.out.2.2.2 k hlt
        obtain ⟨c0, c1, c2⟩ := hc k hlt
        have d0 := below_cell hb03 c0
        have d1 := below_cell hb03 c1
        have d2 := below_cell hb03 c2
        have hL := HL.out.2 k hlt
        have hrk : Row wr (A k) (L k) (B k) := row_keep hIB.1 hb03 (Nat.le_refl _)
        have hff : 0 < L k → ∀ x, A k = some x → x.block < pw := fun h0 x hx => Nat.lt_of_lt_of_le (hIB.2.2.2.2 x hx h0) hz1
        have HA := Lib.hid hba
        have hst : Hid (rests K N B 0 (k + 1) = rests K N B 0 k ++ enc (K k) (N k) (B k)) := by
          have h1 := rests_snoc K N B k 0
          rw [Nat.zero_add] at h1
          exact h1
        clear hba hc c0 c1 c2
        rw [HA.out] at hc3 ⊢
        by_cases h6 : K k = 6
        · have hE : Hid (X = rests K N B 0 (k + 1)) := by
            show X = _
            rw [hst.out, h6, enc_six, List.append_nil]; exact HX.out
          rw [h6] at d0
          clear h6
          go_wp2
          go_roundw
          case rel => exact ⟨k + 1, sv, X, by omega, by go_num, hw3, hb23, hE⟩
          case measure => simp [intOf]; omega
        · have hd6 : (K k != 6) = true := by simpa using h6
          have hbl : (B k).length ≤ 400 := by have := hIB.1.1; omega
          have hE : Hid (layItem (K k) (N k) (B k) X = rests K N B 0 (k + 1)) := by
            show layItem (K k) (N k) (B k) X = _
            rw [layItem_enc _ _ _ _ h6, hst.out, ← HX.out]
          clear h6
          go_wp2_with fail
          refine (lay_any pw pw sv X [] _ (K k) (N k) (L k) (C k) (A k) (B k) wr hw3 (own_nil _ _) (aside_nil _ _) hz3 hN hrk hIB.2.2.2.1 hL hff (by omega) (by simp)).mono ?_
          rintro e w4 ⟨ov4, sv4, rfl, hw4, _, _, hb4⟩
          rw [hE.out] at hw4
          have hb24 := hb23.trans hb4
          clear hw3 hb23 hb03 hz3 hb4 d0 d1 d2 hrk
          go_wp2
          go_roundw
          case rel => exact ⟨k + 1, sv4, _, by omega, by go_num, hw4, hb24, Lib.hid rfl⟩
          case measure => simp [intOf]; omega
      · obtain rfl : k = n := by omega
        clear hc2 hb02 hz2
        obtain ⟨cS, cL, fS, fL⟩ := two_new wr (.bool true) (.int .i64 (-1)) 4 3
        have hb34 : Below wr.heap.size wr ((wr.alloc (.cells #[.bool true] 4)).alloc (.cells #[.int .i64 (-1)] 3)) := bel_alloc (bel_alloc (Below.refl _ wr) _) _
        have hc4 := below_cell hb34 hc3
        have hw4 := wr_keep hw3 hb34
        have hb04 := bel_trans hb03 hb34
        have haw : al < wr.heap.size := World.block_lt_of_cell? wr ⟨al, 0, none⟩ hc3
        clear hb34 hw3
        go_wp2_with fail
        refine (wBytes_any pw pw sv X _ hw4 (by omega)).mono ?_
        intro e w5 h5
        obtain ⟨a5, c5, rfl, hr5, hn5, _, hb45⟩ := retOwn_len h5
        have hc5 := below_cell hb45 hc4
        have cS5 := below_cell hb45 cS
        have cL5 := below_cell hb45 cL
        have fS5 := (hb45.frozen (p := ⟨wr.heap.size, 0, none⟩) (World.block_lt_of_cell? _ ⟨wr.heap.size, 0, none⟩ cS)).trans fS
        have fL5 := (hb45.frozen (p := ⟨wr.heap.size + 1, 0, none⟩) (World.block_lt_of_cell? _ ⟨wr.heap.size + 1, 0, none⟩ cL)).trans fL
        have hb05 := bel_trans hb04 hb45
        have hwz := hb03.size
        obtain ⟨aS, haS⟩ : ∃ aS, aS = wr.heap.size := ⟨_, rfl⟩
        obtain ⟨aL, haL⟩ : ∃ aL, aL = wr.heap.size + 1 := ⟨_, rfl⟩
        rw [← haS] at cS5 fS5 haw
        rw [← haL] at cL5 fL5
        have hX5 : X.length ≤ 30000 := by omega
        have p2 : w.heap.size ≤ aS := by omega
        have p3 : w.heap.size ≤ aL := by omega
        have p5 : aS ≠ aL := by omega
        have p6 : al ≠ aL := by omega
        have HAS := Lib.hid haS
        have HAL2 := Lib.hid haL
        clear h5 hb45 hc4 cS cL fS fL hw4 hb04 hc3 haS haL hwz hXl
        have hmf : ∀ (fn : Fn) (first cap : Array Value) (w : World), (Instr.makeFunc fn first cap).run Try.prog w = .ok (.func fn first cap) w := fun _ _ _ _ => rfl
        go_wp2_with fail
        rw [← HAL2.out, ← HAS.out]
        have hcall : ∀ (args : Array Value) (wx : World), (callFunc 12 args).run Try.prog wx = .ok (.enter 12 args) wx := fun args wx => by simp [go_sem]
        have hby := backBy al aS aL a k cap K N A L C B w w5 _ HIT.out HL.out hb05 hale p2 p3 (Nat.ne_of_lt haw) p5 p6 hc5 cS5 fS5 cL5 fL5 (by rw [← HX.out]; exact hX5)
        rw [← HX.out] at hby
        have hrok := read_ok a5 X.length c5 X _ _ _ _ hr5 hn5 (by omega) hcall hby
        with_reducible refine hrok.mono ?_
        rintro e w7 ⟨rfl, W2, ⟨hq1, hq2, hq3⟩, hb57, _⟩
        have hb07 : Below w.heap.size w w7 := hq1.trans (hb57.mono hb05.size)
        have cS7 : w7.cell? ⟨aS, 0, none⟩ = some (.bool true) := by rw [hb57.cell (p := ⟨aS, 0, none⟩) (World.block_lt_of_cell? w5 ⟨aS, 0, none⟩ cS5)]; exact hq2
        have cL7 : w7.cell? ⟨aL, 0, none⟩ = some (.int .i64 0) := by rw [hb57.cell (p := ⟨aL, 0, none⟩) (World.block_lt_of_cell? w5 ⟨aL, 0, none⟩ cL5)]; exact hq3
        clear hrok hby hcall hq1 hq2 hq3 hb57 cS5 cL5 fS5 fL5 hc5 hr5
        go_wp2
        go_ret
        exact ⟨rfl, hb07⟩
  · go_enter Try.func3, Try.ntmps3
    go_wp2_with fail
    refine (laid_any _).mono ?_
    rintro e w1 ⟨rfl, hb1⟩
    have hc1 := below_cell hb1 hc0
    have hb01 := bel_trans hb0 hb1
    clear hb0 hc0 hb1
    go_wp2_with fail
    refine (light_no a n cap K N A L C B _ (items_keep h hb01) hl).mono ?_
    rintro e w' ⟨rfl, rfl⟩
    go_wp2_with fail
    refine (laid_any _).mono ?_
    rintro e w2 ⟨rfl, hb2⟩
    go_wp2
    go_ret
    exact ⟨rfl, bel_trans hb01 hb2⟩

end Go.Proofs.Ytejhdafipjajnaa
