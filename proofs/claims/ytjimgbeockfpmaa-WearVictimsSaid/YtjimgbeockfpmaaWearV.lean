/- The document's Victim. -/
import Derived.Test.YtjimgbeockfpmaaWearR
namespace Go.Proofs.Ytjimgbeockfpmaa
open Go.RowKit

theorem first_is {O : SegV → SegV → Int} (ho : GoodOrd O) (K : Int) (G : List SegV) : ∀ n, ∃ r, FirstIs O K G n r
  | 0 => ⟨-1, first_zero⟩
  | n + 1 => by
    obtain ⟨r, h⟩ := first_is ho K G n
    by_cases hk : (G.getD n SegV.nil).k = K
    · by_cases hr : r = -1
      · subst hr; exact ⟨_, first_one ho h hk⟩
      · obtain ⟨m, rfl, _⟩ := first_lt h hr
        by_cases hl : O (G.getD n SegV.nil) (G.getD m SegV.nil) < 0
        · exact ⟨_, first_new ho h hk hl⟩
        · exact ⟨_, first_old h hl⟩
    · exact ⟨_, first_skip h hk⟩
def coldB (G : List SegV) : Bool := decide (8 < spreadE G)
theorem victim_is (G : List SegV) : ∃ r, VictimIs G r := by
  unfold VictimIs
  split
  · exact first_is goodE _ _ _
  · exact first_is goodV _ _ _
/-- What is compared first, and then. -/
def keyA (c : Bool) (s : SegV) : Int := if c then (s.e : Int) else s.l
def keyC (c : Bool) (s : SegV) : Int := if c then s.l else (s.e : Int)
/-- Does k stand ahead of i? -/
def Ahead (c : Bool) (G : List SegV) (i k : Nat) : Prop :=
  keyA c (G.getD k SegV.nil) < keyA c (G.getD i SegV.nil) ∨ (keyA c (G.getD k SegV.nil) = keyA c (G.getD i SegV.nil) ∧ (keyC c (G.getD k SegV.nil) < keyC c (G.getD i SegV.nil) ∨ (keyC c (G.getD k SegV.nil) = keyC c (G.getD i SegV.nil) ∧ k < i)))
def NoneUpto (c : Bool) (G : List SegV) (i n : Nat) : Prop := ∀ k, k < n → k ≠ i → (G.getD k SegV.nil).k = 2 → ¬ Ahead c G i k
instance (c : Bool) (G : List SegV) (i k : Nat) : Decidable (Ahead c G i k) := by unfold Ahead; infer_instance
instance (c : Bool) (G : List SegV) (i n : Nat) : Decidable (NoneUpto c G i n) := by unfold NoneUpto; infer_instance
/-- One that stands ahead of none is the first. -/
theorem victim_hit {G : List SegV} {i : Nat} (hi : i < G.length) (hk : (G.getD i SegV.nil).k = 2) (h : NoneUpto (coldB G) G i G.length) : VictimIs G (i : Int) := by
  unfold VictimIs
  unfold coldB NoneUpto Ahead keyA keyC at h
  split
  · rename_i hs
    refine .inr ⟨i, hi, rfl, hk, fun j hj hjk => ?_⟩
    rw [ordE_lt, ordE_lt]
    by_cases e : j = i
    · subst e; omega
    · have := h j hj e hjk
      simp only [hs, decide_true, if_true] at this
      omega
  · rename_i hs
    refine .inr ⟨i, hi, rfl, hk, fun j hj hjk => ?_⟩
    rw [ordV_lt, ordV_lt]
    by_cases e : j = i
    · subst e; omega
    · have := h j hj e hjk
      simp only [hs, decide_false, if_false, Bool.false_eq_true] at this
      omega
/-- The first one stands ahead of none, but of all others. -/
theorem victim_miss {G : List SegV} {m i : Nat} (h : VictimIs G (m : Int)) (hi : i < G.length) (hk : (G.getD i SegV.nil).k = 2) (hn : NoneUpto (coldB G) G i G.length) : i = m := by
  have := victim_same (victim_hit hi hk hn) h
  omega
theorem upto_skip {c : Bool} {G : List SegV} {i n : Nat} (h : n = i ∨ (G.getD n SegV.nil).k ≠ 2 ∨ ¬ Ahead c G i n) : NoneUpto c G i (n + 1) ↔ NoneUpto c G i n := by
  constructor
  · intro q k hk; exact q k (by omega)
  · intro q k hk hne hkk
    rcases Nat.lt_or_ge k n with r | r
    · exact q k r hne hkk
    · obtain rfl : k = n := by omega
      rcases h with h | h | h
      · exact absurd h hne
      · exact absurd hkk h
      · exact h
theorem upto_not {c : Bool} {G : List SegV} {i n : Nat} (h1 : n ≠ i) (h2 : (G.getD n SegV.nil).k = 2) (h : Ahead c G i n) : ¬ NoneUpto c G i (n + 1) := fun q => q n (by omega) h1 h2 h
def leZ (G : List SegV) (k : Nat) : Int := if k = 0 then 0 else (leE G k : Int)
def moZ (G : List SegV) (k : Nat) : Int := if k = 0 then 0 else (moE G k : Int)
theorem leE_one (G : List SegV) : leE G 1 = (G.getD 0 SegV.nil).e := by show min _ _ = _; simp [leE]
theorem moE_one (G : List SegV) : moE G 1 = (G.getD 0 SegV.nil).e := by show max _ _ = _; simp [moE]
theorem victim_lt {G : List SegV} {r : Int} (h : VictimIs G r) : r = -1 ∨ ∃ m : Nat, r = (m : Int) ∧ m < G.length := by
  unfold VictimIs at h
  split at h
  · by_cases hr : r = -1
    · exact .inl hr
    · exact .inr (first_lt h hr)
  · by_cases hr : r = -1
    · exact .inl hr
    · exact .inr (first_lt h hr)
theorem victim_kind {G : List SegV} {m : Nat} (h : VictimIs G (m : Int)) : (G.getD m SegV.nil).k = 2 := by
  unfold VictimIs at h
  split at h
  all_goals
    rcases h with ⟨q, _⟩ | ⟨m', _, q, h3, _⟩
    · omega
    · obtain rfl : m = m' := by omega
      exact h3
theorem none_ahead {G : List SegV} {m : Nat} (h : VictimIs G (m : Int)) : NoneUpto (coldB G) G m G.length := by
  unfold VictimIs at h
  unfold NoneUpto Ahead keyA keyC coldB
  split at h
  · rename_i hs
    rcases h with ⟨q, _⟩ | ⟨m', _, q, _, h4⟩
    · omega
    · obtain rfl : m = m' := by omega
      intro k hk hne hkk
      have := h4 k hk hkk
      rw [ordE_lt, ordE_lt] at this
      simp only [hs, decide_true, if_true]
      omega
  · rename_i hs
    rcases h with ⟨q, _⟩ | ⟨m', _, q, _, h4⟩
    · omega
    · obtain rfl : m = m' := by omega
      intro k hk hne hkk
      have := h4 k hk hkk
      rw [ordV_lt, ordV_lt] at this
      simp only [hs, decide_false, if_false, Bool.false_eq_true]
      omega
set_option maxRecDepth 100000 in
set_option maxHeartbeats 8000000 in
theorem refVictim_any (a : Option Addr) (len cap : Nat) (G : List SegV) (w : World) (hr : RowH w a len G) (hl : len ≤ 1000) :
    Calls Try.prog 10 #[.slice a len cap] w fun e w' => ∃ r, e = .returned (.int .i64 r) ∧ VictimIs G r ∧ Below w.heap.size w w' := by
  have HR := Lib.hid hr
  have hlen := hr.1
  clear hr
  go_enter Try.func10, Try.ntmps10
  go_wp2_with fail
  go_loopw [5, 3, 4] (fun i t u wr => ∃ (k : Nat), k ≤ len ∧ i = .int .i64 (k : Int) ∧ t = .int .i64 (leZ G k) ∧ u = .int .i64 (moZ G k) ∧ Below w.heap.size w wr) (fun i _ _ _ => len - (intOf i).toNat)
  case atStart => exact ⟨0, Nat.zero_le _, rfl, rfl, rfl, Below.refl _ _⟩
  case round =>
    obtain ⟨k, hk, rfl, rfl, rfl, hB⟩ := hrel
    have HB := Lib.hid hB
    clear hB
    by_cases hlt : k < len
    · have t1 : decide (k < len) = true := by simpa using hlt
      have hr1 := HR.out.step HB.out
      obtain ⟨b, off, rfl, hbs, hc⟩ := rowH_at hr1 hlt
      obtain ⟨c0, c1, c2⟩ := hc k hlt
      obtain ⟨g, hg⟩ : ∃ g, g = G.getD k SegV.nil := ⟨_, rfl⟩
      rw [← hg] at c0 c1 c2
      have HG := Lib.hid hg
      clear hr1 hc hg
      have hk0 : (0 : Int) ≤ (k : Int) := by omega
      have hk1 : (k : Int) < (len : Int) := by omega
      rcases Nat.eq_zero_or_pos k with h0 | h0
      · subst h0
        have e1 : leZ G (0 + 1) = (g.e : Int) := by
          show (if 0 + 1 = 0 then _ else _) = _
          rw [if_neg (by decide), HG.out]; exact congrArg Int.ofNat (leE_one G)
        have e2 : moZ G (0 + 1) = (g.e : Int) := by
          show (if 0 + 1 = 0 then _ else _) = _
          rw [if_neg (by decide), HG.out]; exact congrArg Int.ofNat (moE_one G)
        have E1 := Lib.hid e1
        have E2 := Lib.hid e2
        clear e1 e2
        go_wp2_with fail
        go_roundw
        case rel => exact ⟨0 + 1, by omega, by go_num, by rw [E1.out], by rw [E2.out], HB.out⟩
        case measure => simp [intOf]; omega
      · have t2 : ((k : Int) == 0) = false := by simp; omega
        have z1 : leZ G k = (leE G k : Int) := if_neg (by omega)
        have z2 : moZ G k = (moE G k : Int) := if_neg (by omega)
        rw [z1, z2]
        clear z1 z2
        have e1 : leZ G (k + 1) = ((min (leE G k) g.e : Nat) : Int) := by
          show (if k + 1 = 0 then _ else _) = _
          rw [if_neg (by omega), HG.out]; rfl
        have e2 : moZ G (k + 1) = ((max (moE G k) g.e : Nat) : Int) := by
          show (if k + 1 = 0 then _ else _) = _
          rw [if_neg (by omega), HG.out]; rfl
        have hmm := leE_le_moE G k
        by_cases hA : g.e < leE G k
        · have t3 : decide ((g.e : Int) < (leE G k : Int)) = true := by simp; omega
          have t3' : decide (g.e < leE G k) = true := by simpa using hA
          have t4 : decide ((moE G k : Int) < (g.e : Int)) = false := by simp; omega
          have t4' : decide (moE G k < g.e) = false := by simp; omega
          rw [Nat.min_eq_right (by omega)] at e1
          rw [Nat.max_eq_left (by omega)] at e2
          have E1 := Lib.hid e1
          have E2 := Lib.hid e2
          clear e1 e2 hA hmm
          go_wp2_with fail
          go_roundw
          case rel => exact ⟨k + 1, by omega, by go_num, by rw [E1.out], by rw [E2.out], HB.out⟩
          case measure => simp [intOf]; omega
        · have t3 : decide ((g.e : Int) < (leE G k : Int)) = false := by simp; omega
          have t3' : decide (g.e < leE G k) = false := by simp; omega
          rw [Nat.min_eq_left (by omega)] at e1
          by_cases hC : moE G k < g.e
          · have t4 : decide ((moE G k : Int) < (g.e : Int)) = true := by simp; omega
            have t4' : decide (moE G k < g.e) = true := by simpa using hC
            rw [Nat.max_eq_right (by omega)] at e2
            have E1 := Lib.hid e1
            have E2 := Lib.hid e2
            clear e1 e2 hA hC hmm
            go_wp2_with fail
            go_roundw
            case rel => exact ⟨k + 1, by omega, by go_num, by rw [E1.out], by rw [E2.out], HB.out⟩
            case measure => simp [intOf]; omega
          · have t4 : decide ((moE G k : Int) < (g.e : Int)) = false := by simp; omega
            have t4' : decide (moE G k < g.e) = false := by simp; omega
            rw [Nat.max_eq_left (by omega)] at e2
            have E1 := Lib.hid e1
            have E2 := Lib.hid e2
            clear e1 e2 hA hC hmm
            go_wp2_with fail
            go_roundw
            case rel => exact ⟨k + 1, by omega, by go_num, by rw [E1.out], by rw [E2.out], HB.out⟩
            case measure => simp [intOf]; omega
    · obtain rfl : k = len := by omega
      have t1 : decide (k < k) = false := by simp
      have hsub : wrap64 (moZ G k - leZ G k) = (spreadE G : Int) := by
        unfold moZ leZ spreadE
        rw [hlen]
        by_cases h : k = 0
        · rw [if_pos h, if_pos h, if_pos h, IntWalk.wrap64_in _ (by omega)]; rfl
        · rw [if_neg h, if_neg h, if_neg h]
          have h1 := leE_le_moE G k
          have h2 := moE_lt HR.out.2.1 k
          rw [IntWalk.wrap64_in _ (by omega)]
          omega
      obtain ⟨cb, hcb⟩ : ∃ c, c = coldB G := ⟨_, rfl⟩
      have hdc : decide ((8 : Int) < (spreadE G : Int)) = cb := by
        rw [hcb]; unfold coldB; exact decide_eq_decide.2 (by omega)
      have hdc2 : decide (8 < spreadE G) = cb := by
        rw [hcb]; rfl
      obtain ⟨r0, hr0⟩ := victim_is G
      have HV := Lib.hid hr0
      have HCB := Lib.hid hcb
      have HR2 := Lib.hid (HR.out.step HB.out)
      clear hr0 hcb
      rename World => wy
      go_wp2_with fail
      first | rw [hdc] | rw [hdc2] | skip
      clear hsub hdc hdc2
      go_loopw [7] (fun i wr => ∃ (j : Nat), j ≤ k ∧ i = .int .i64 (j : Int) ∧ (∀ m : Nat, r0 = (m : Int) → j ≤ m) ∧ Below wy.heap.size wy wr) (fun i _ => k - (intOf i).toNat)
      case atStart => exact ⟨0, Nat.zero_le _, rfl, fun _ _ => Nat.zero_le _, Below.refl _ _⟩
      case round =>
        obtain ⟨i, hik, rfl, hle, hB2⟩ := hrel
        have HLE := Lib.hid hle
        have HB2 := Lib.hid hB2
        clear hle hB2
        by_cases hlt2 : i < k
        · have t2 : decide (i < k) = true := by simpa using hlt2
          obtain ⟨b, off, rfl, hbs, hc⟩ := rowH_at (HR2.out.step HB2.out) hlt2
          obtain ⟨c0, c1, c2⟩ := hc i hlt2
          have HC := Lib.hid hc
          obtain ⟨g, hg⟩ : ∃ g, g = G.getD i SegV.nil := ⟨_, rfl⟩
          rw [← hg] at c0 c1 c2
          have HG := Lib.hid hg
          clear hc hg
          have i0 : (0 : Int) ≤ (i : Int) := by omega
          have i1 : (i : Int) < (k : Int) := by omega
          by_cases hK : g.k = 2
          · rw [hK] at c0
            have HC0 := Lib.hid c0
            have HC1 := Lib.hid c1
            have HC2 := Lib.hid c2
            rename World => wz
            obtain ⟨wx, hwx⟩ : ∃ x : World, x = wz := ⟨_, rfl⟩
            have HX := Lib.hid hwx
            clear hwx
            go_wp2_with fail
            clear c0 c1 c2
            go_loopw [9, 8] (fun kv fv wr => ∃ (j : Nat), j ≤ k ∧ kv = .int .i64 (j : Int) ∧ fv = .bool (decide (NoneUpto cb G i j)) ∧ Below wx.heap.size wx wr) (fun kv _ _ => k - (intOf kv).toNat)
            case atStart => exact ⟨0, Nat.zero_le _, rfl, by rw [decide_eq_true]; intro j hj; omega, by rw [HX.out]; exact Below.refl _ _⟩
            case round =>
              obtain ⟨j, hjk, rfl, rfl, hB3⟩ := hrel
              rw [HX.out] at hB3
              have HB3 := Lib.hid hB3
              clear hB3
              by_cases hlt3 : j < k
              · have t3 : decide (j < k) = true := by simpa using hlt3
                obtain ⟨d0, d1, d2⟩ := HC.out j hlt3
                replace d0 := wcell_step d0 HB3.out
                replace d1 := wcell_step d1 HB3.out
                replace d2 := wcell_step d2 HB3.out
                obtain ⟨h, hh⟩ : ∃ g, g = G.getD j SegV.nil := ⟨_, rfl⟩
                rw [← hh] at d0 d1 d2
                have HH := Lib.hid hh
                clear hh
                have j0 : (0 : Int) ≤ (j : Int) := by omega
                have j1 : (j : Int) < (k : Int) := by omega
                obtain ⟨fb, hfb⟩ : ∃ f, f = decide (NoneUpto cb G i j) := ⟨_, rfl⟩
                rw [← hfb]
                have HF := Lib.hid hfb
                clear hfb
                by_cases hji : j = i
                · have t4 : ((j : Int) == (i : Int)) = true := by simp; omega
                  have hn : Hid (decide (NoneUpto cb G i (j + 1)) = fb) := Lib.hid (by rw [HF.out]; exact decide_eq_decide.2 (upto_skip (.inl hji)))
                  have t4' : (j == i) = true := by simpa using hji
                  clear hji
                  go_wp2_with fail
                  go_roundw
                  case rel => exact ⟨j + 1, by omega, by go_num, by rw [hn.out], HX.out ▸ HB3.out⟩
                  case measure => simp [intOf]; omega
                · have t4 : ((j : Int) == (i : Int)) = false := by simp; omega
                  have t4' : (j == i) = false := by simpa using hji
                  by_cases hkk : h.k = 2
                  · rw [hkk] at d0
                    have e1 := wcell_step HC1.out HB3.out
                    have e2 := wcell_step HC2.out HB3.out
                    have HKK : Hid ((G.getD j SegV.nil).k = 2) := Lib.hid (by rw [← HH.out]; exact hkk)
                    have HJI := Lib.hid hji
                    clear hji hkk
                    cases cb with
                    | true =>
                      by_cases q1 : (h.e : Int) < (g.e : Int)
                      · have hn : Hid (decide (NoneUpto true G i (j + 1)) = false) := Lib.hid (decide_eq_false (upto_not HJI.out HKK.out (by
                          unfold Ahead keyA keyC
                          rw [← HH.out, ← HG.out]
                          simp only [if_true]
                          omega)))
                        have p1 : decide ((h.e : Int) < (g.e : Int)) = true := by simp; omega
                        have p1n : decide (h.e < g.e) = true := by simp; omega
                        clear q1
                        go_upto_region 19 with fail
                        go_region
                        go_upto_region 20 with fail
                        go_region
                        go_wp2_with fail
                        go_roundw
                        case rel => exact ⟨j + 1, by omega, by go_num, by rw [hn.out], HX.out ▸ HB3.out.drew.drew⟩
                        case measure => simp [intOf]; omega
                      · by_cases q2 : (h.e : Int) = (g.e : Int)
                        · by_cases q3 : h.l < g.l
                          · have hn : Hid (decide (NoneUpto true G i (j + 1)) = false) := Lib.hid (decide_eq_false (upto_not HJI.out HKK.out (by
                              unfold Ahead keyA keyC
                              rw [← HH.out, ← HG.out]
                              simp only [if_true]
                              omega)))
                            have p1 : decide ((h.e : Int) < (g.e : Int)) = false := by simp; omega
                            have p1n : decide (h.e < g.e) = false := by simp; omega
                            have p2 : ((h.e : Int) == (g.e : Int)) = true := by simp; omega
                            have p2n : (h.e == g.e) = true := by simp; omega
                            have p3 : decide (h.l < g.l) = true := by simp; omega
                            clear q1 q2 q3
                            go_upto_region 19 with fail
                            go_region
                            go_upto_region 20 with fail
                            go_region
                            go_wp2_with fail
                            go_roundw
                            case rel => exact ⟨j + 1, by omega, by go_num, by rw [hn.out], HX.out ▸ HB3.out.drew.drew⟩
                            case measure => simp [intOf]; omega
                          · by_cases q4 : h.l = g.l
                            · by_cases q5 : j < i
                              · have hn : Hid (decide (NoneUpto true G i (j + 1)) = false) := Lib.hid (decide_eq_false (upto_not HJI.out HKK.out (by
                                  unfold Ahead keyA keyC
                                  rw [← HH.out, ← HG.out]
                                  simp only [if_true]
                                  omega)))
                                have p1 : decide ((h.e : Int) < (g.e : Int)) = false := by simp; omega
                                have p1n : decide (h.e < g.e) = false := by simp; omega
                                have p2 : ((h.e : Int) == (g.e : Int)) = true := by simp; omega
                                have p2n : (h.e == g.e) = true := by simp; omega
                                have p3 : decide (h.l < g.l) = false := by simp; omega
                                have p4 : (h.l == g.l) = true := by simp; omega
                                have p5 : decide ((j : Int) < (i : Int)) = true := by simp; omega
                                have p5n : decide (j < i) = true := by simp; omega
                                clear q1 q2 q3 q4 q5
                                go_upto_region 19 with fail
                                go_region
                                go_upto_region 20 with fail
                                go_region
                                go_wp2_with fail
                                go_roundw
                                case rel => exact ⟨j + 1, by omega, by go_num, by rw [hn.out], HX.out ▸ HB3.out.drew.drew⟩
                                case measure => simp [intOf]; omega
                              · have hn : Hid (decide (NoneUpto true G i (j + 1)) = fb) := Lib.hid (by rw [HF.out]; exact decide_eq_decide.2 (upto_skip (.inr (.inr (by
                                  unfold Ahead keyA keyC
                                  rw [← HH.out, ← HG.out]
                                  simp only [if_true]
                                  omega)))))
                                have p1 : decide ((h.e : Int) < (g.e : Int)) = false := by simp; omega
                                have p1n : decide (h.e < g.e) = false := by simp; omega
                                have p2 : ((h.e : Int) == (g.e : Int)) = true := by simp; omega
                                have p2n : (h.e == g.e) = true := by simp; omega
                                have p3 : decide (h.l < g.l) = false := by simp; omega
                                have p4 : (h.l == g.l) = true := by simp; omega
                                have p5 : decide ((j : Int) < (i : Int)) = false := by simp; omega
                                have p5n : decide (j < i) = false := by simp; omega
                                clear q1 q2 q3 q4 q5
                                go_upto_region 19 with fail
                                go_region
                                go_upto_region 20 with fail
                                go_region
                                go_wp2_with fail
                                go_roundw
                                case rel => exact ⟨j + 1, by omega, by go_num, by rw [hn.out], HX.out ▸ HB3.out.drew.drew⟩
                                case measure => simp [intOf]; omega
                            · have hn : Hid (decide (NoneUpto true G i (j + 1)) = fb) := Lib.hid (by rw [HF.out]; exact decide_eq_decide.2 (upto_skip (.inr (.inr (by
                                unfold Ahead keyA keyC
                                rw [← HH.out, ← HG.out]
                                simp only [if_true]
                                omega)))))
                              have p1 : decide ((h.e : Int) < (g.e : Int)) = false := by simp; omega
                              have p1n : decide (h.e < g.e) = false := by simp; omega
                              have p2 : ((h.e : Int) == (g.e : Int)) = true := by simp; omega
                              have p2n : (h.e == g.e) = true := by simp; omega
                              have p3 : decide (h.l < g.l) = false := by simp; omega
                              have p4 : (h.l == g.l) = false := by simp; omega
                              clear q1 q2 q3 q4
                              go_upto_region 19 with fail
                              go_region
                              go_upto_region 20 with fail
                              go_region
                              go_wp2_with fail
                              go_roundw
                              case rel => exact ⟨j + 1, by omega, by go_num, by rw [hn.out], HX.out ▸ HB3.out.drew.drew⟩
                              case measure => simp [intOf]; omega
                        · have hn : Hid (decide (NoneUpto true G i (j + 1)) = fb) := Lib.hid (by rw [HF.out]; exact decide_eq_decide.2 (upto_skip (.inr (.inr (by
                            unfold Ahead keyA keyC
                            rw [← HH.out, ← HG.out]
                            simp only [if_true]
                            omega)))))
                          have p1 : decide ((h.e : Int) < (g.e : Int)) = false := by simp; omega
                          have p1n : decide (h.e < g.e) = false := by simp; omega
                          have p2 : ((h.e : Int) == (g.e : Int)) = false := by simp; omega
                          have p2n : (h.e == g.e) = false := by simp; omega
                          clear q1 q2
                          go_upto_region 19 with fail
                          go_region
                          go_upto_region 20 with fail
                          go_region
                          go_wp2_with fail
                          go_roundw
                          case rel => exact ⟨j + 1, by omega, by go_num, by rw [hn.out], HX.out ▸ HB3.out.drew.drew⟩
                          case measure => simp [intOf]; omega
                    | false =>
                      by_cases q1 : h.l < g.l
                      · have hn : Hid (decide (NoneUpto false G i (j + 1)) = false) := Lib.hid (decide_eq_false (upto_not HJI.out HKK.out (by
                          unfold Ahead keyA keyC
                          rw [← HH.out, ← HG.out]
                          simp only [if_false, Bool.false_eq_true]
                          omega)))
                        have p1 : decide (h.l < g.l) = true := by simp; omega
                        clear q1
                        go_upto_region 19 with fail
                        go_region
                        go_upto_region 20 with fail
                        go_region
                        go_wp2_with fail
                        go_roundw
                        case rel => exact ⟨j + 1, by omega, by go_num, by rw [hn.out], HX.out ▸ HB3.out.drew.drew⟩
                        case measure => simp [intOf]; omega
                      · by_cases q2 : h.l = g.l
                        · by_cases q3 : (h.e : Int) < (g.e : Int)
                          · have hn : Hid (decide (NoneUpto false G i (j + 1)) = false) := Lib.hid (decide_eq_false (upto_not HJI.out HKK.out (by
                              unfold Ahead keyA keyC
                              rw [← HH.out, ← HG.out]
                              simp only [if_false, Bool.false_eq_true]
                              omega)))
                            have p1 : decide (h.l < g.l) = false := by simp; omega
                            have p2 : (h.l == g.l) = true := by simp; omega
                            have p3 : decide ((h.e : Int) < (g.e : Int)) = true := by simp; omega
                            have p3n : decide (h.e < g.e) = true := by simp; omega
                            clear q1 q2 q3
                            go_upto_region 19 with fail
                            go_region
                            go_upto_region 20 with fail
                            go_region
                            go_wp2_with fail
                            go_roundw
                            case rel => exact ⟨j + 1, by omega, by go_num, by rw [hn.out], HX.out ▸ HB3.out.drew.drew⟩
                            case measure => simp [intOf]; omega
                          · by_cases q4 : (h.e : Int) = (g.e : Int)
                            · by_cases q5 : j < i
                              · have hn : Hid (decide (NoneUpto false G i (j + 1)) = false) := Lib.hid (decide_eq_false (upto_not HJI.out HKK.out (by
                                  unfold Ahead keyA keyC
                                  rw [← HH.out, ← HG.out]
                                  simp only [if_false, Bool.false_eq_true]
                                  omega)))
                                have p1 : decide (h.l < g.l) = false := by simp; omega
                                have p2 : (h.l == g.l) = true := by simp; omega
                                have p3 : decide ((h.e : Int) < (g.e : Int)) = false := by simp; omega
                                have p3n : decide (h.e < g.e) = false := by simp; omega
                                have p4 : ((h.e : Int) == (g.e : Int)) = true := by simp; omega
                                have p4n : (h.e == g.e) = true := by simp; omega
                                have p5 : decide ((j : Int) < (i : Int)) = true := by simp; omega
                                have p5n : decide (j < i) = true := by simp; omega
                                clear q1 q2 q3 q4 q5
                                go_upto_region 19 with fail
                                go_region
                                go_upto_region 20 with fail
                                go_region
                                go_wp2_with fail
                                go_roundw
                                case rel => exact ⟨j + 1, by omega, by go_num, by rw [hn.out], HX.out ▸ HB3.out.drew.drew⟩
                                case measure => simp [intOf]; omega
                              · have hn : Hid (decide (NoneUpto false G i (j + 1)) = fb) := Lib.hid (by rw [HF.out]; exact decide_eq_decide.2 (upto_skip (.inr (.inr (by
                                  unfold Ahead keyA keyC
                                  rw [← HH.out, ← HG.out]
                                  simp only [if_false, Bool.false_eq_true]
                                  omega)))))
                                have p1 : decide (h.l < g.l) = false := by simp; omega
                                have p2 : (h.l == g.l) = true := by simp; omega
                                have p3 : decide ((h.e : Int) < (g.e : Int)) = false := by simp; omega
                                have p3n : decide (h.e < g.e) = false := by simp; omega
                                have p4 : ((h.e : Int) == (g.e : Int)) = true := by simp; omega
                                have p4n : (h.e == g.e) = true := by simp; omega
                                have p5 : decide ((j : Int) < (i : Int)) = false := by simp; omega
                                have p5n : decide (j < i) = false := by simp; omega
                                clear q1 q2 q3 q4 q5
                                go_upto_region 19 with fail
                                go_region
                                go_upto_region 20 with fail
                                go_region
                                go_wp2_with fail
                                go_roundw
                                case rel => exact ⟨j + 1, by omega, by go_num, by rw [hn.out], HX.out ▸ HB3.out.drew.drew⟩
                                case measure => simp [intOf]; omega
                            · have hn : Hid (decide (NoneUpto false G i (j + 1)) = fb) := Lib.hid (by rw [HF.out]; exact decide_eq_decide.2 (upto_skip (.inr (.inr (by
                                unfold Ahead keyA keyC
                                rw [← HH.out, ← HG.out]
                                simp only [if_false, Bool.false_eq_true]
                                omega)))))
                              have p1 : decide (h.l < g.l) = false := by simp; omega
                              have p2 : (h.l == g.l) = true := by simp; omega
                              have p3 : decide ((h.e : Int) < (g.e : Int)) = false := by simp; omega
                              have p3n : decide (h.e < g.e) = false := by simp; omega
                              have p4 : ((h.e : Int) == (g.e : Int)) = false := by simp; omega
                              have p4n : (h.e == g.e) = false := by simp; omega
                              clear q1 q2 q3 q4
                              go_upto_region 19 with fail
                              go_region
                              go_upto_region 20 with fail
                              go_region
                              go_wp2_with fail
                              go_roundw
                              case rel => exact ⟨j + 1, by omega, by go_num, by rw [hn.out], HX.out ▸ HB3.out.drew.drew⟩
                              case measure => simp [intOf]; omega
                        · have hn : Hid (decide (NoneUpto false G i (j + 1)) = fb) := Lib.hid (by rw [HF.out]; exact decide_eq_decide.2 (upto_skip (.inr (.inr (by
                            unfold Ahead keyA keyC
                            rw [← HH.out, ← HG.out]
                            simp only [if_false, Bool.false_eq_true]
                            omega)))))
                          have p1 : decide (h.l < g.l) = false := by simp; omega
                          have p2 : (h.l == g.l) = false := by simp; omega
                          clear q1 q2
                          go_upto_region 19 with fail
                          go_region
                          go_upto_region 20 with fail
                          go_region
                          go_wp2_with fail
                          go_roundw
                          case rel => exact ⟨j + 1, by omega, by go_num, by rw [hn.out], HX.out ▸ HB3.out.drew.drew⟩
                          case measure => simp [intOf]; omega
                  · have t5 : (h.k == 2) = false := by simpa using hkk
                    have hn : Hid (decide (NoneUpto cb G i (j + 1)) = fb) := Lib.hid (by rw [HF.out]; exact decide_eq_decide.2 (upto_skip (.inr (.inl (by rw [← HH.out]; exact hkk)))))
                    clear hji hkk
                    go_wp2_with fail
                    go_roundw
                    case rel => exact ⟨j + 1, by omega, by go_num, by rw [hn.out], HX.out ▸ HB3.out⟩
                    case measure => simp [intOf]; omega
              · obtain rfl : j = k := by omega
                have t3 : decide (j < j) = false := by simp
                have HBF : Hid (Below w.heap.size w wr) := Lib.hid (wbel_trans (wbel_trans HB.out HB2.out) HB3.out)
                by_cases hN : NoneUpto cb G i j
                · have hd : decide (NoneUpto cb G i j) = true := decide_eq_true hN
                  rw [hd]
                  have HVI : Hid (VictimIs G (i : Int)) := Lib.hid (victim_hit (by rw [hlen]; exact hlt2) (by rw [← HG.out]; exact hK) (by rw [← HCB.out, hlen]; exact hN))
                  clear hN hd hK
                  go_wp2_with fail
                  go_ret
                  exact ⟨_, rfl, HVI.out, HBF.out⟩
                · have hd : decide (NoneUpto cb G i j) = false := decide_eq_false hN
                  rw [hd]
                  have HNX : Hid (∀ m : Nat, r0 = (m : Int) → i + 1 ≤ m) := Lib.hid fun m hm => by
                    have h1 := HLE.out m hm
                    rcases Nat.lt_or_ge i m with q | q
                    · exact q
                    · exfalso
                      obtain rfl : m = i := by omega
                      have hv := HV.out
                      rw [hm] at hv
                      exact hN (by
                        have := none_ahead hv
                        rw [← HCB.out, hlen] at this
                        exact this)
                  have HBW : Hid (Below wy.heap.size wy wr) := Lib.hid (wbel_trans HB2.out HB3.out)
                  clear hN hd hK
                  go_wp2_with fail
                  go_roundw
                  case rel => exact ⟨i + 1, by omega, by go_num, HNX.out, HBW.out⟩
                  case measure => simp [intOf]; omega
          · have t3 : (g.k == 2) = false := by simpa using hK
            have HNX : Hid (∀ m : Nat, r0 = (m : Int) → i + 1 ≤ m) := Lib.hid fun m hm => by
              have h1 := HLE.out m hm
              rcases Nat.lt_or_ge i m with q | q
              · exact q
              · exfalso
                obtain rfl : m = i := by omega
                have hv := HV.out
                rw [hm] at hv
                exact hK (by rw [HG.out]; exact victim_kind hv)
            clear hK
            go_wp2_with fail
            go_roundw
            case rel => exact ⟨i + 1, by omega, by go_num, HNX.out, HB2.out⟩
            case measure => simp [intOf]; omega
        · obtain rfl : i = k := by omega
          have t2 : decide (i < i) = false := by simp
          have HVN : Hid (VictimIs G (-1)) := Lib.hid (by
            have hv := HV.out
            rcases victim_lt hv with q | ⟨m, q, hm⟩
            · rw [← q]; exact hv
            · have := HLE.out m q
              omega)
          have HBF : Hid (Below w.heap.size w wr) := Lib.hid (wbel_trans HB.out HB2.out)
          go_wp2_with fail
          go_ret
          exact ⟨_, rfl, HVN.out, HBF.out⟩
end Go.Proofs.Ytjimgbeockfpmaa
