/- BmapPieces: the walk. -/
import Derived.Test.YtgfchjchanfcgaaBmPieces
namespace Go.Proofs.Ytgfchjchanfcgaa
open Go.RowKit

theorem bel_drewN' (w : World) (n : Nat) : Below w.heap.size w (w.drewN n) := ⟨rfl, rfl, rfl, Nat.le_refl _, fun _ _ => rfl⟩
theorem cell_to {x y : World} {B o : Nat} {v : Value} (hb : Below x.heap.size x y) (h : x.cell? ⟨B, o, none⟩ = some v) : y.cell? ⟨B, o, none⟩ = some v :=
  (hb.cell (p := ⟨B, o, none⟩) (World.block_lt_of_cell? x _ h)).trans h
theorem flatT_len (G : List (Nat × Nat × Nat)) : (G.flatMap cellsT).length = G.length * 3 := by
  induction G with
  | nil => rfl
  | cons g G ih => rw [List.flatMap_cons, List.length_append, ih, List.length_cons]; simp [cellsT]; omega
theorem flatT_at (G : List (Nat × Nat × Nat)) (i : Nat) (t : Nat × Nat × Nat) (hi : G[i]? = some t) : (G.flatMap cellsT)[i * 3]? = some (.int .i64 (t.1 : Int)) ∧ (G.flatMap cellsT)[i * 3 + 1]? = some (.int .i64 (t.2.1 : Int)) ∧ (G.flatMap cellsT)[i * 3 + 2]? = some (.int .i64 (t.2.2 : Int)) := by
  induction G generalizing i with
  | nil => simp at hi
  | cons g G ih =>
    cases i with
    | zero => simp at hi; subst hi; simp [cellsT]
    | succ i =>
      obtain ⟨h1, h2, h3⟩ := ih i (by simpa using hi)
      have e1 : (i + 1) * 3 = i * 3 + 3 := by omega
      rw [List.flatMap_cons, e1]
      simp only [cellsT, List.cons_append, List.nil_append, List.getElem?_cons_succ]
      exact ⟨by simpa using h1, by simpa using h2, by simpa using h3⟩
theorem cellsT_own {B : Nat} {w : World} {sv : Value} {G : List (Nat × Nat × Nat)} (h : OwnT B w sv G) : ∃ a cap, sv = .slice a G.length cap ∧ G.length ≤ cap ∧ cap ≤ maxLen ∧ (a = none → G.length = 0) ∧ ∀ i t, G[i]? = some t → ∃ g, a = some ⟨g, 0, none⟩ ∧ ∀ x : World, Below w.heap.size w x →
    x.cell? ⟨g, i * 3, none⟩ = some (.int .i64 (t.1 : Int)) ∧ x.cell? ⟨g, i * 3 + 1, none⟩ = some (.int .i64 (t.2.1 : Int)) ∧ x.cell? ⟨g, i * 3 + 2, none⟩ = some (.int .i64 (t.2.2 : Int)) := by
  have h' : w.ownsRow B 39 3 sv G.length (G.flatMap cellsT) := h
  rcases h'.2 with ⟨rfl, h0⟩ | ⟨g, cap, cur, rfl, _, _, hc, hm, _⟩
  · exact ⟨none, 0, by rw [h0], by omega, Nat.zero_le _, fun _ => h0, fun i t hi => by rw [List.eq_nil_of_length_eq_zero h0] at hi; simp at hi⟩
  · refine ⟨_, cap, rfl, hc, hm, (fun h => by cases h), fun i t hi => ⟨g, rfl, fun x hx => ?_⟩⟩
    obtain ⟨h1, h2, h3⟩ := flatT_at G i t hi
    have hl : i < G.length := by
      rcases Nat.lt_or_ge i G.length with h | h
      · exact h
      · rw [List.getElem?_eq_none h] at hi; cases hi
    have c1 := (h'.cellAt (i * 3) (by omega)).trans h1
    have c2 := (h'.cellAt (i * 3 + 1) (by omega)).trans h2
    have c3 := (h'.cellAt (i * 3 + 2) (by omega)).trans h3
    have st : ∀ {o v}, w.cell? ⟨g, o, none⟩ = some v → x.cell? ⟨g, o, none⟩ = some v := fun {o v} h => (hx.cell (p := ⟨g, o, none⟩) (World.block_lt_of_cell? w _ h)).trans h
    exact ⟨st c1, st c2, st c3⟩
theorem pcs_nil (s : Nat) : ∀ f p q, q ≤ f → pcs s f p q = [] → q = 0
  | 0, _, _, h, _ => by omega
  | f + 1, p, q, _, e => by
    rcases Nat.eq_zero_or_pos q with h0 | h0
    · exact h0
    · rw [pcs_step s f p q (by omega)] at e; cases e
theorem pcs_at (s : Nat) {L : List (Nat × Nat × Nat)} {i f p q : Nat} (hi : i < L.length) (hd : L.drop i = pcs s f p q) : ∃ g, f = g + 1 ∧ q ≠ 0 ∧ L[i]? = some (p / s, p % s, min q (s - p % s)) ∧ L.drop (i + 1) = pcs s g (p + min q (s - p % s)) (q - min q (s - p % s)) := by
  have hq : q ≠ 0 := by
    rintro rfl
    rw [pcs_zero] at hd
    have := congrArg List.length hd
    simp at this
    omega
  cases f with
  | zero =>
    have := congrArg List.length hd
    simp [pcs] at this
    omega
  | succ g =>
    rw [pcs_step s g p q hq] at hd
    refine ⟨g, rfl, hq, ?_, ?_⟩
    · have := congrArg (·[0]?) hd
      simpa using this
    · have := congrArg List.tail hd
      simpa using this
theorem pcs_last (s : Nat) {L : List (Nat × Nat × Nat)} {i g p q : Nat} (hs : 1 ≤ s) (hd : L.drop (i + 1) = pcs s g (p + min q (s - p % s)) (q - min q (s - p % s))) (hi : i < L.length - 1) : p % s + min q (s - p % s) = s := by
  have hm := Nat.mod_lt p (show s > 0 by omega)
  rcases Nat.lt_or_ge q (s - p % s) with h | h
  · exfalso
    rw [Nat.min_eq_left (by omega), Nat.sub_self, pcs_zero] at hd
    have := congrArg List.length hd
    simp at this
    omega
  · rw [Nat.min_eq_right h]; omega
theorem piece_nums (p q s r d m c l e : Nat) (hp : p ≤ 3000000000) (hq : q ≤ 3000000000) (hs : 1 ≤ s) (hs1 : s ≤ 9223372036854775807) (hr : r = p % s) (hd : d = p / s) (hc : c = s - r) (hr0 : r < s) (hm : m ≤ q) (he : e = l - 1) (hl : 1 ≤ l) (hl5 : l ≤ 5000) :
    (p : Int).tmod (s : Int) = (r : Int) ∧ IntKind.i64.wrap ((p : Int).tdiv (s : Int)) = (d : Int) ∧ (p : Int) % (s : Int) = (r : Int) ∧ wrap64 ((p : Int) / (s : Int)) = (d : Int) ∧ IntKind.i64.wrap ((s : Int) - (r : Int)) = (c : Int) ∧
    IntKind.i64.wrap ((l : Int) - 1) = (e : Int) ∧ IntKind.i64.wrap ((p : Int) + (m : Int)) = ((p + m : Nat) : Int) ∧ IntKind.i64.wrap ((q : Int) - (m : Int)) = ((q - m : Nat) : Int) := by
  have e1 : (p : Int) / (s : Int) = (d : Int) := by rw [hd]; rfl
  have e2 : (p : Int) % (s : Int) = (r : Int) := by rw [hr]; rfl
  have hd0 : d ≤ p := by rw [hd]; exact Nat.div_le_self _ _
  have e3 : (p : Int).tmod (s : Int) = (r : Int) := by rw [hr]; rfl
  have e4 : IntKind.i64.wrap ((p : Int).tdiv (s : Int)) = (d : Int) := by rw [IntWalk.i64_quo _ _ ⟨by omega, by omega, by omega⟩]; exact e1
  have e5 : wrap64 ((p : Int) / (s : Int)) = (d : Int) := by rw [e1]; clear e1 e2 e3 e4 hr hd; unfold wrap64; omega
  clear hr hd
  refine ⟨e3, e4, e2, e5, ?_, ?_, ?_, ?_⟩ <;> clear e1 e2 e3 e4 e5 <;> rw [IntKind.wrap_i64] <;> omega
theorem wrap_sum (r m s : Nat) (h : r + m = s) (hs : s ≤ 9223372036854775807) : IntKind.i64.wrap ((r : Int) + (m : Int)) = (s : Int) := by rw [IntKind.wrap_i64]; omega
set_option maxRecDepth 100000 in
set_option maxHeartbeats 1600000 in
theorem bmapPieces_good (a n s : Nat) (w : World) (ha : a ≤ 2147483648) (hn : n ≤ 5000) (hs : 1 ≤ s) (hs1 : s ≤ 9223372036854775807) :
    Calls Try.prog 4 #[.int .i64 (a : Int), .int .i64 (n : Int), .int .i64 (s : Int)] w fun e w' => e = .returned (.bool true) ∧ Below w.heap.size w w' := by
  have HF := Lib.hid found_any
  have t1 : decide ((a : Int) < 0) = false := by simp
  have t2 : decide (2147483648 < (a : Int)) = false := by simp; omega
  have t3 : decide ((n : Int) < 0) = false := by simp
  have t4 : decide (1048576 < (n : Int)) = false := by simp; omega
  have t5 : decide ((s : Int) < 1) = false := by simp; omega
  have t6 : decide (5000 < (n : Int)) = false := by simp; omega
  have HP := Lib.hid fun x : World => pieces_any a n s x ha hn hs hs1
  obtain ⟨L, hL⟩ : ∃ L, L = pcs s n a n := ⟨_, rfl⟩
  rw [← hL] at HP
  have hLl : L.length ≤ n := by rw [hL]; exact pcs_len s n a n
  have HL := Lib.hid hL
  clear hL
  go_enter Try.func4, Try.ntmps4
  go_wp2_with fail
  ((with_reducible refine (HP.out _).mono ?_))
  rintro e w1 ⟨v, rfl, hown, hb1⟩
  obtain ⟨la, lc, rfl, hlc, hlm, hln, hat⟩ := cellsT_own hown
  have HB1 := Lib.hid hb1
  have HAT := Lib.hid hat
  have HLN := Lib.hid hln
  unfold maxLen at hlm
  clear hown hb1 hat hln
  go_wp2_with fail
  go_loopw [0, 1, 10] (fun x y z wr => ∃ (i f p q : Nat), i ≤ L.length ∧ z = .int .i64 (i : Int) ∧ x = .int .i64 (p : Int) ∧ y = .int .i64 (q : Int) ∧ q ≤ f ∧ p + q ≤ a + n ∧ L.drop i = pcs s f p q ∧ Below w1.heap.size w1 wr) (fun _ _ z _ => L.length - (intOf z).toNat)
  case atStart => exact ⟨0, n, a, n, Nat.zero_le _, rfl, rfl, rfl, Nat.le_refl _, Nat.le_refl _, by rw [List.drop_zero]; exact HL.out, Below.refl _ _⟩
  case round =>
    obtain ⟨i, f, p, q, hi, rfl, rfl, rfl, hqf, hpq, hd, hbel⟩ := hrel
    by_cases hlt : i < L.length
    · obtain ⟨g, rfl, hq, hli, hd2⟩ := pcs_at s hlt hd
      obtain ⟨m0, m1, r0, d0⟩ := pc_facts p q s hs hq
      have hlast := fun h => pcs_last s hs hd2 h
      obtain ⟨r, hr⟩ : ∃ r, r = p % s := ⟨_, rfl⟩
      obtain ⟨d, hdd⟩ : ∃ d, d = p / s := ⟨_, rfl⟩
      rw [← hr] at m0 m1 r0
      rw [← hdd] at d0
      rw [← hr] at hli hd2 hlast
      rw [← hdd] at hli
      obtain ⟨m, hm⟩ : ∃ m, m = min q (s - r) := ⟨_, rfl⟩
      rw [← hm] at hli hd2 m0 m1 hlast
      have hms : m ≤ s - r := by omega
      obtain ⟨b, rfl, hc⟩ := HAT.out i _ hli
      obtain ⟨c0, c1, c2⟩ := hc wr hbel
      simp only at c0 c1 c2
      have HBE := Lib.hid hbel
      have HD2 := Lib.hid hd2
      have HLS := Lib.hid hlast
      have i1 : (0 : Int) ≤ (i : Int) := by omega
      have i2 : (i : Int) < (L.length : Int) := by omega
      have HR := Lib.hid hr
      have HDD := Lib.hid hdd
      clear hc hli hd hd2 hlast hbel hr hdd hm
      go_upto_region 11 with fail
      obtain ⟨X, hX⟩ : ∃ x, x = wr.alloc (.cells #[.int .i64 (d : Int), .int .i64 (r : Int), .int .i64 (m : Int)] 39) := ⟨_, rfl⟩
      obtain ⟨px, hpx⟩ : ∃ x, x = wr.heap.size := ⟨_, rfl⟩
      have hh : X.heap[px]? = some (.cells #[.int .i64 (d : Int), .int .i64 (r : Int), .int .i64 (m : Int)] 39 (0, 0)) := by rw [hX, hpx]; exact heap_alloc_new _ _
      obtain ⟨z0, z1, z2, -⟩ := three_cells hh
      have HBX : Hid (Below w1.heap.size w1 X) := Lib.hid (by rw [hX]; exact bel_alloc HBE.out _)
      rw [← hX, ← hpx]
      clear hX hpx hh c0 c1 c2
      have nz : (s : Int) ≠ 0 := by omega
      obtain ⟨c, hc⟩ : ∃ c, c = s - r := ⟨_, rfl⟩
      obtain ⟨e, he⟩ : ∃ e, e = L.length - 1 := ⟨_, rfl⟩
      have k1 : decide ((m : Int) < 1) = false := by simp; omega
      have k2 : decide ((r : Int) < 0) = false := by simp
      have k3 : decide ((c : Int) < (m : Int)) = false := by simp; omega
      have k4 : decide (c < m) = false := by simp; omega
      have HU := Lib.hid (piece_nums p q s r d m c L.length e (by omega) (by omega) hs hs1 HR.out HDD.out hc r0 m1 he (by omega) (by omega))
      by_cases hl : i < L.length - 1
      · have k5 : decide ((i : Int) < (e : Int)) = true := by simp; omega
        have k6 : decide (i < e) = true := by simp; omega
        have u7 : IntKind.i64.wrap ((r : Int) + (m : Int)) = (s : Int) := wrap_sum r m s (HLS.out hl) hs1
        clear hl hc he
        obtain ⟨u1, u2, u1', u2', u3, u4, -, -⟩ := HU.out
        go_quiet (fail)
        have hq0 : Below X.heap.size X (X.drewN nq) := (bel_drewN' X nq)
        obtain ⟨Y, hY⟩ : ∃ Y, Y = X.drewN nq := ⟨_, rfl⟩
        rw [← hY] at hq0 ⊢
        have y2 := cell_to hq0 z2
        have HBY := Lib.hid (bel_trans HBX.out hq0)
        clear u1 u2 u1' u2' u3 u4 k1 k2 k3 k4 k5 k6 u7 hY hq0 z0 z1 z2
        obtain ⟨-, -, -, -, -, -, u5, u6⟩ := HU.out
        go_wp2_with fail
        go_quiet (fail)
        have HBZ := Lib.hid (bel_trans HBY.out (bel_drewN' Y nq))
        go_wp2_with fail
        go_roundw
        case rel => exact ⟨i + 1, g, p + m, q - m, by omega, by go_num, by go_num, rfl, by omega, by omega, HD2.out, HBZ.out⟩
        case measure => simp [intOf]; omega
      · have k5 : decide ((i : Int) < (e : Int)) = false := by simp; omega
        have k6 : decide (i < e) = false := by simp; omega
        clear hl hc he
        obtain ⟨u1, u2, u1', u2', u3, u4, -, -⟩ := HU.out
        go_quiet (fail)
        have hq0 : Below X.heap.size X (X.drewN nq) := (bel_drewN' X nq)
        obtain ⟨Y, hY⟩ : ∃ Y, Y = X.drewN nq := ⟨_, rfl⟩
        rw [← hY] at hq0 ⊢
        have y2 := cell_to hq0 z2
        have HBY := Lib.hid (bel_trans HBX.out hq0)
        clear u1 u2 u1' u2' u3 u4 k1 k2 k3 k4 k5 k6 hY hq0 z0 z1 z2
        obtain ⟨-, -, -, -, -, -, u5, u6⟩ := HU.out
        go_wp2_with fail
        go_quiet (fail)
        have HBZ := Lib.hid (bel_trans HBY.out (bel_drewN' Y nq))
        go_wp2_with fail
        go_roundw
        case rel => exact ⟨i + 1, g, p + m, q - m, by omega, by go_num, by go_num, rfl, by omega, by omega, HD2.out, HBZ.out⟩
        case measure => simp [intOf]; omega
    · obtain rfl : i = L.length := by omega
      obtain rfl : q = 0 := pcs_nil s f p q hqf (by rw [← hd, List.drop_length])
      have HBE := Lib.hid (bel_trans HB1.out hbel)
      clear hd hbel
      go_wp2_with fail
      ((with_reducible refine (HF.out _).mono ?_))
      rintro e w2 ⟨rfl, hb2⟩
      have HB2 := Lib.hid (bel_trans HBE.out hb2)
      clear hb2
      go_wp2_with fail
      go_ret
      exact ⟨rfl, HB2.out⟩
set_option maxRecDepth 100000 in
set_option maxHeartbeats 1600000 in
theorem bmapPieces_mid (a n s : Int) (w : World) (h1 : 5000 < n) (h2 : n ≤ 1048576) :
    Calls Try.prog 4 #[.int .i64 a, .int .i64 n, .int .i64 s] w fun e w' => e = .returned (.bool true) ∧ Below w.heap.size w w' := by
  have HF := Lib.hid found_any
  have t1 : decide (5000 < n) = true := by simpa using h1
  have t2 : decide (n ≤ 1048576) = true := by simpa using h2
  go_enter Try.func4, Try.ntmps4
  go_wp2_with fail
  ((with_reducible refine (HF.out _).mono ?_))
  rintro e w2 ⟨rfl, hb2⟩
  have HB2 := Lib.hid hb2
  clear hb2
  go_wp2_with fail
  go_ret
  exact ⟨rfl, HB2.out⟩
set_option maxRecDepth 100000 in
set_option maxHeartbeats 1600000 in
theorem bmapPieces_bad (a n s : Int) (w : World) (h : a < 0 ∨ 2147483648 < a ∨ n < 0 ∨ 1048576 < n ∨ s < 1) (h0 : n ≤ 5000 ∨ 1048576 < n) :
    Calls Try.prog 4 #[.int .i64 a, .int .i64 n, .int .i64 s] w fun e w' => e = .returned (.bool true) ∧ Below w.heap.size w w' := by
  have HF := Lib.hid found_any
  have HP := Lib.hid fun x : World => pieces_bad a n s x h
  obtain ⟨b0, hb0⟩ : ∃ b, decide (5000 < n) = b := ⟨_, rfl⟩
  obtain ⟨b1, hb1⟩ : ∃ b, decide (n ≤ 1048576) = b := ⟨_, rfl⟩
  obtain ⟨b2, hb2⟩ : ∃ b, decide (a < 0) = b := ⟨_, rfl⟩
  obtain ⟨b3, hb3⟩ : ∃ b, decide (n < 0) = b := ⟨_, rfl⟩
  obtain ⟨b4, hb4⟩ : ∃ b, decide (2147483648 < a) = b := ⟨_, rfl⟩
  obtain ⟨b5, hb5⟩ : ∃ b, decide (1048576 < n) = b := ⟨_, rfl⟩
  obtain ⟨b6, hb6⟩ : ∃ b, decide (s < 1) = b := ⟨_, rfl⟩
  have hg : (b0 && b1) = false := by rw [← hb0, ← hb1]; simp; omega
  have hor : b2 = true ∨ b3 = true ∨ b4 = true ∨ b5 = true ∨ b6 = true := by
    rw [← hb2, ← hb3, ← hb4, ← hb5, ← hb6]; simp; omega
  clear h h0
  cases b0 <;> cases b1 <;> first | (exfalso; revert hg; decide) | skip
  all_goals clear hg
  all_goals cases b2
  all_goals first | (cases b3; all_goals first | (cases b4; all_goals first | (cases b5; all_goals first | (cases b6; all_goals first | (exfalso; revert hor; decide) | skip) | skip) | skip) | skip) | skip
  all_goals clear hor
  all_goals
    go_enter Try.func4, Try.ntmps4
    go_wp2_with fail
    ((with_reducible refine (HP.out _).mono ?_))
    rintro e w1 ⟨rfl, rfl⟩
    go_wp2_with fail
    ((with_reducible refine (HF.out _).mono ?_))
    rintro e w2 ⟨rfl, hb2'⟩
    have HB2 := Lib.hid hb2'
    clear hb2'
    go_wp2_with fail
    go_ret
    exact ⟨rfl, HB2.out⟩
theorem bmapPieces_walk (a n s : Int) (w : World) (_ : (Lit.int .i64 a).wf = true) (_ : (Lit.int .i64 n).wf = true) (hs : (Lit.int .i64 s).wf = true) :
    Calls Try.prog 4 #[.int .i64 a, .int .i64 n, .int .i64 s] w fun e w' => e = .returned (.bool true) ∧ Below w.heap.size w w' := by
  have hm : IntKind.i64.min = -9223372036854775808 := by decide
  have hM : IntKind.i64.max = 9223372036854775807 := by decide
  simp [Lit.wf, hm, hM] at hs
  by_cases h1 : 5000 < n ∧ n ≤ 1048576
  · exact bmapPieces_mid a n s w h1.1 h1.2
  by_cases h2 : a < 0 ∨ 2147483648 < a ∨ n < 0 ∨ 1048576 < n ∨ s < 1
  · exact bmapPieces_bad a n s w h2 (by omega)
  · obtain ⟨a, rfl⟩ := Int.eq_ofNat_of_zero_le (show 0 ≤ a by omega)
    obtain ⟨n, rfl⟩ := Int.eq_ofNat_of_zero_le (show 0 ≤ n by omega)
    obtain ⟨s, rfl⟩ := Int.eq_ofNat_of_zero_le (show 0 ≤ s by omega)
    exact bmapPieces_good a n s w (by omega) (by omega) (by omega) (by omega)
end Go.Proofs.Ytgfchjchanfcgaa
