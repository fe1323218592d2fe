/- slices.symMergeCmpFunc, stableCmpFunc and SortStableFunc over strings. -/
import Derived.Test.YtdpkinppkhnjkaaSymC
namespace Go.Proofs.Ytdpkinppkhnjkaa
open Go.RowKit

theorem sym_all (g N C : Nat) (h3 : N ≤ 1000000) : ∀ (n a m b : Nat) (f : Seq') (w : World), b - a ≤ n → a < m → m < b → b ≤ N → SqAt g N f w → (∀ k, a ≤ k → k < b → (f k).size ≤ 70368744177664) → Srt f a m → Srt f m b →
    Calls Try.prog 23 #[.slice (some ⟨g, 0, none⟩) N C, .int .i64 (a : Int), .int .i64 (m : Int), .int .i64 (b : Int), .func (Fn.func 14) #[] #[]] w fun e w' => e = .returned (.tuple #[]) ∧ (∃ f', SqAt g N f' w' ∧ Prm a b f f' ∧ Srt f' a b) ∧ Below g w w' := by
  intro n
  induction n with
  | zero => intro a m b f w h1 h2 h4; omega
  | succ n ih =>
    intro a m b f w h1 h2 h4 h5 hs hz hs1 hs2
    by_cases c1 : m = a + 1
    · subst c1
      exact symA_any g N C f a b w hs h4 h5 h3 hz hs2
    · by_cases c2 : b = m + 1
      · exact symB_any g N C f a m b w hs (by omega) c2 h5 h3 hz hs1
      · exact symC_any g N C f a m b w hs (by omega) (by omega) h5 h3 hz hs1 hs2 (Lib.hid fun a' m' b' f' w' q1 q2 q3 q4 q5 q6 q7 q8 => ih a' m' b' f' w' (by omega) q2 q3 q4 q5 q6 q7 q8)
set_option maxRecDepth 100000 in
set_option maxHeartbeats 4000000 in
theorem stable_any (g N C : Nat) (f : Seq') (w : World) (h : SqAt g N f w) (h3 : N ≤ 100000) (hz : ∀ k, 0 ≤ k → k < N → (f k).size ≤ 70368744177664) :
    Calls Try.prog 19 #[.slice (some ⟨g, 0, none⟩) N C, .int .i64 (N : Int), .func (Fn.func 14) #[] #[]] w fun e w' => e = .returned (.tuple #[]) ∧ (∃ f', SqAt g N f' w' ∧ Prm 0 N f f' ∧ Srt f' 0 N) ∧ Below g w w' := by
  have H := Lib.hid h
  have HZ := Lib.hid hz
  have HN := Lib.hid h3
  clear h hz h3
  go_enter Try.func19, Try.ntmps19
  go_wp2_with fail
  go_loopw [7, 8] (fun av bv wr => ∃ (q a b : Nat) (f1 : Seq'), av = .int .i64 (a : Int) ∧ bv = .int .i64 (b : Int) ∧ q * 20 = a ∧ a + 20 = b ∧ a ≤ N ∧ SqAt g N f1 wr ∧ Prm 0 N f f1 ∧ Bd f1 20 a ∧ Below g w wr) (fun av _ _ => N + 1 - (intOf av).toNat)
  case atStart => exact ⟨0, 0, 20, f, rfl, rfl, rfl, rfl, Nat.zero_le _, H.out, .refl, Bd.zero f (by omega), Below.refl _ _⟩
  case round =>
    clear H
    obtain ⟨q, a, b, f1, rfl, rfl, hq, hb, haN, hs, hp, hd, hbl⟩ := hrel
    have HS := Lib.hid hs
    have HP := Lib.hid hp
    have HD := Lib.hid hd
    have HB := Lib.hid hbl
    have HQ := Lib.hid hq
    have HA : Hid (a + 20 = b ∧ a ≤ N) := Lib.hid ⟨hb, haN⟩
    clear hs hp hd hbl hq hb haN
    by_cases c : b ≤ N
    · have t1 : decide ((b : Int) ≤ (N : Int)) = true := by simp; omega
      have t1' : decide (b ≤ N) = true := by simpa using c
      have HC := Lib.hid (insert_any g N C f1 a b wr HS.out (by have := HA.out; omega) c (by have := HN.out; omega) (fun k h1 h2 => HP.out.all (fun x => x.size ≤ 70368744177664) HZ.out k (by omega) (by omega)))
      have HC2 := Lib.hid c
      obtain ⟨b2, hb2⟩ : ∃ x, b + 20 = x := ⟨_, rfl⟩
      have e1 : (b : Int) + 20 = (b2 : Int) := by omega
      have u1 : IntKind.i64.wrap (b2 : Int) = (b2 : Int) := by have := HN.out; rw [IntKind.wrap_i64]; omega
      have HB2 := Lib.hid hb2
      clear c hb2
      go_wp2_with fail
      ((with_reducible refine HC.out.mono ?_))
      rintro e w2 ⟨rfl, ⟨f2, hs2, hp2, ho2⟩, hbl2⟩
      have HS2 := Lib.hid hs2
      have HP2 := Lib.hid (HP.out.trans (hp2.mono (Nat.zero_le _) HC2.out))
      have hd2 : Bd f2 20 b := by
        have h := HD.out
        rw [← HQ.out] at h
        have h2 := h.step (g := f2) (by rw [HQ.out, HA.out.1]; exact hp2) (by rw [HQ.out, HA.out.1]; exact ho2)
        rw [HQ.out, HA.out.1] at h2
        exact h2
      have HD2 := Lib.hid hd2
      have HBL := Lib.hid (HB.out.trans hbl2)
      have HQ2 : Hid ((q + 1) * 20 = b) := Lib.hid (by have := HQ.out; have := HA.out; omega)
      clear hs2 hp2 ho2 hd2 hbl2
      go_wp2_with fail
      clear e1 u1
      go_roundw
      case rel => exact ⟨q + 1, b, b2, f2, rfl, rfl, HQ2.out, HB2.out, HC2.out, HS2.out, HP2.out, HD2.out, HBL.out⟩
      case measure => have := HA.out; have := HC2.out; simp [intOf]; omega
    · have t1 : decide ((b : Int) ≤ (N : Int)) = false := by simp; omega
      have t1' : decide (b ≤ N) = false := by simpa using c
      have HC := Lib.hid (insert_any g N C f1 a N wr HS.out HA.out.2 (Nat.le_refl _) (by have := HN.out; omega) (fun k h1 h2 => HP.out.all (fun x => x.size ≤ 70368744177664) HZ.out k (by omega) (by omega)))
      have HC2 : Hid (N < a + 20) := Lib.hid (by have := HA.out; omega)
      clear c
      go_wp2_with fail
      ((with_reducible refine HC.out.mono ?_))
      rintro e w2 ⟨rfl, ⟨f2, hs2, hp2, ho2⟩, hbl2⟩
      have HS2 := Lib.hid hs2
      have HP2 := Lib.hid (HP.out.trans (hp2.mono (Nat.zero_le _) (Nat.le_refl _)))
      have hl2 : Bl f2 20 N 0 := by
        have h := HD.out
        rw [← HQ.out] at h
        exact h.all (by rw [HQ.out]; exact hp2) (by rw [HQ.out]; exact ho2) (by rw [HQ.out]; exact HC2.out)
      have HL2 := Lib.hid hl2
      have HBL := Lib.hid (HB.out.trans hbl2)
      clear hs2 hp2 ho2 hl2 hbl2 t1 t1' HC HS HP HD HB HQ HA HC2
      go_wp2_with fail
      go_loopw [6, 7, 8, 9] (fun sv _ _ _ wr => ∃ (s : Nat) (f1 : Seq'), sv = .int .i64 (s : Int) ∧ 1 ≤ s ∧ s ≤ 300000 ∧ SqAt g N f1 wr ∧ Prm 0 N f f1 ∧ Bl f1 s N 0 ∧ Below g w wr) (fun sv _ _ _ _ => N - (intOf sv).toNat)
      case atStart => exact ⟨20, f2, rfl, by omega, by omega, HS2.out, HP2.out, HL2.out, HBL.out⟩
      case round =>
        clear HS2 HP2 HL2 HBL
        obtain ⟨s, f1, rfl, hs1, hs2, hs, hp, hl, hbl⟩ := hrel
        have HS := Lib.hid hs
        have HP := Lib.hid hp
        have HL := Lib.hid hl
        have HB := Lib.hid hbl
        have HSS : Hid (1 ≤ s ∧ s ≤ 300000) := Lib.hid ⟨hs1, hs2⟩
        clear hs hp hl hbl
        by_cases c : s < N
        · have t1 : decide ((s : Int) < (N : Int)) = true := by simp; omega
          have t1' : decide (s < N) = true := by simpa using c
          have HSN := Lib.hid c
          obtain ⟨t, ht⟩ : ∃ t, 2 * s = t := ⟨_, rfl⟩
          have e1 : (2 : Int) * (s : Int) = (t : Int) := by omega
          have e1' : (s : Int) * 2 = (t : Int) := by omega
          have u1 : IntKind.i64.wrap (t : Int) = (t : Int) := by rw [IntKind.wrap_i64]; omega
          have HT : Hid (2 * s = t ∧ 2 ≤ t ∧ t ≤ 200000) := Lib.hid ⟨ht, by omega, by have := HN.out; omega⟩
          clear c ht hs1 hs2
          go_wp2_with fail
          go_loopw [7, 8] (fun av bv wr => ∃ (q a b : Nat) (f1 : Seq'), av = .int .i64 (a : Int) ∧ bv = .int .i64 (b : Int) ∧ q * t = a ∧ a + t = b ∧ a ≤ N ∧ SqAt g N f1 wr ∧ Prm 0 N f f1 ∧ Bd f1 t a ∧ Bl f1 s N a ∧ Below g w wr) (fun av _ _ => N + 1 - (intOf av).toNat)
          case atStart => exact ⟨0, 0, t, f1, rfl, rfl, Nat.zero_mul _, by omega, Nat.zero_le _, HS.out, HP.out, Bd.zero f1 (by have := HT.out; omega), HL.out, HB.out⟩
          case round =>
            clear HS HP HL HB
            obtain ⟨q, a, b, f1, rfl, rfl, hq, hb, haN, hs, hp, hd, hl, hbl⟩ := hrel
            have HS := Lib.hid hs
            have HP := Lib.hid hp
            have HD := Lib.hid hd
            have HL := Lib.hid hl
            have HB := Lib.hid hbl
            have HQ := Lib.hid hq
            have HA : Hid (a + t = b ∧ a ≤ N) := Lib.hid ⟨hb, haN⟩
            obtain ⟨m, hm⟩ : ∃ m, a + s = m := ⟨_, rfl⟩
            have e2 : (a : Int) + (s : Int) = (m : Int) := by omega
            have hN5 := HN.out
            have hSS := HSS.out
            have hTT := HT.out
            have u2 : IntKind.i64.wrap (m : Int) = (m : Int) := by rw [IntKind.wrap_i64]; omega
            have HM : Hid (a + s = m ∧ a < m ∧ m + s = b) := Lib.hid ⟨hm, by omega, by omega⟩
            clear hs hp hd hl hbl hq hm
            by_cases c : b ≤ N
            · have t2 : decide ((b : Int) ≤ (N : Int)) = true := by simp; omega
              have t2' : decide (b ≤ N) = true := by simpa using c
              have HC := Lib.hid (sym_all g N C (by omega) _ a m b f1 wr (Nat.le_refl _) HM.out.2.1 (by have := HM.out; omega) c HS.out (fun k h1 h2 => HP.out.all (fun x => x.size ≤ 70368744177664) HZ.out k (by omega) (by omega)) (HL.out.first (by have := HM.out; omega) (by have := HM.out; omega)) (by
                have h := HL.out.second (b := b) (by have := HM.out; omega) c
                rw [HM.out.1] at h; exact h))
              have HC2 := Lib.hid c
              obtain ⟨b2, hb2⟩ : ∃ x, b + t = x := ⟨_, rfl⟩
              have e3 : (b : Int) + (t : Int) = (b2 : Int) := by omega
              have u3 : IntKind.i64.wrap (b2 : Int) = (b2 : Int) := by rw [IntKind.wrap_i64]; omega
              have HB2 := Lib.hid hb2
              clear c hb2 hN5 hSS hTT hb haN
              go_wp2_with fail
              ((with_reducible refine HC.out.mono ?_))
              rintro e w2 ⟨rfl, ⟨f2, hs2, hp2, ho2⟩, hbl2⟩
              have HS2 := Lib.hid hs2
              have HP2 := Lib.hid (HP.out.trans (hp2.mono (Nat.zero_le _) HC2.out))
              have hd2 : Bd f2 t b := by
                have h := HD.out
                rw [← HQ.out] at h
                have h2 := h.step (g := f2) (by rw [HQ.out, HA.out.1]; exact hp2) (by rw [HQ.out, HA.out.1]; exact ho2)
                rw [HQ.out, HA.out.1] at h2
                exact h2
              have hl2 : Bl f2 s N b := by
                have h := HL.out.next (g := f2) (by rw [HT.out.1, HA.out.1]; exact hp2)
                rw [HT.out.1, HA.out.1] at h
                exact h
              have HD2 := Lib.hid hd2
              have HL2 := Lib.hid hl2
              have HBL := Lib.hid (HB.out.trans hbl2)
              have HQ2 : Hid ((q + 1) * t = b) := Lib.hid (by rw [Nat.succ_mul, HQ.out]; exact HA.out.1)
              clear hs2 hp2 ho2 hd2 hl2 hbl2 e2 u2
              go_wp2_with fail
              clear e3 u3 e1 e1' u1
              go_roundw
              case rel => exact ⟨q + 1, b, b2, f2, rfl, rfl, HQ2.out, HB2.out, HC2.out, HS2.out, HP2.out, HD2.out, HL2.out, HBL.out⟩
              case measure => have := HA.out; have := HC2.out; have := HT.out; simp [intOf]; omega
            · have t2 : decide ((b : Int) ≤ (N : Int)) = false := by simp; omega
              have t2' : decide (b ≤ N) = false := by simpa using c
              have HC2 : Hid (N < a + t) := Lib.hid (by have := HA.out; omega)
              by_cases c2 : m < N
              · have t3 : decide ((m : Int) < (N : Int)) = true := by simp; omega
                have t3' : decide (m < N) = true := by simpa using c2
                have HC := Lib.hid (sym_all g N C (by omega) _ a m N f1 wr (Nat.le_refl _) HM.out.2.1 c2 (Nat.le_refl _) HS.out (fun k h1 h2 => HP.out.all (fun x => x.size ≤ 70368744177664) HZ.out k (by omega) (by omega)) (HL.out.first (by have := HM.out; omega) (by omega)) (by
                  have h := HL.out.second (b := N) (by have := HM.out; have := HA.out; omega) (Nat.le_refl _)
                  rw [HM.out.1] at h; exact h))
                clear c c2 hN5 hSS hTT hb haN
                go_wp2_with fail
                ((with_reducible refine HC.out.mono ?_))
                rintro e w2 ⟨rfl, ⟨f2, hs2, hp2, ho2⟩, hbl2⟩
                have HS2 := Lib.hid hs2
                have HP2 := Lib.hid (HP.out.trans (hp2.mono (Nat.zero_le _) (Nat.le_refl _)))
                have hl2 : Bl f2 t N 0 := by
                  have h := HD.out
                  rw [← HQ.out] at h
                  exact h.all (by rw [HQ.out]; exact hp2) (by rw [HQ.out]; exact ho2) (by rw [HQ.out]; exact HC2.out)
                have HL2 := Lib.hid hl2
                have HBL := Lib.hid (HB.out.trans hbl2)
                clear hs2 hp2 ho2 hl2 hbl2 e2 u2
                go_wp2_with fail
                clear e1 e1' u1
                go_roundw
                case rel => exact ⟨t, f2, rfl, by have := HT.out; omega, by have := HT.out; omega, HS2.out, HP2.out, HL2.out, HBL.out⟩
                case measure => have := HT.out; have := HSN.out; have := HSS.out; simp [intOf]; omega
              · have t3 : decide ((m : Int) < (N : Int)) = false := by simp; omega
                have t3' : decide (m < N) = false := by simpa using c2
                have hl2 : Bl f1 t N 0 := by
                  have h := HD.out
                  rw [← HQ.out] at h
                  exact h.all .refl (by rw [HQ.out]; exact HL.out.first (by have := HM.out; omega) (Nat.le_refl _)) (by rw [HQ.out]; exact HC2.out)
                have HL2 := Lib.hid hl2
                clear c c2 hl2 hN5 hSS hTT hb haN
                go_wp2_with fail
                clear e1 e1' u1 e2 u2
                go_roundw
                case rel => exact ⟨t, f1, rfl, by have := HT.out; omega, by have := HT.out; omega, HS.out, HP.out, HL2.out, HB.out⟩
                case measure => have := HT.out; have := HSN.out; have := HSS.out; simp [intOf]; omega
        · have t1 : decide ((s : Int) < (N : Int)) = false := by simp; omega
          have t1' : decide (s < N) = false := by simpa using c
          have HO := Lib.hid (HL.out.whole (by omega))
          clear c hs1 hs2
          go_wp2_with fail
          exact bodyPost_end (results_none rfl _ _ _) rfl ⟨rfl, ⟨f1, HS.out, HP.out, HO.out⟩, HB.out⟩
set_option maxRecDepth 100000 in
theorem sortStable_any (g N C : Nat) (f : Seq') (w : World) (h : SqAt g N f w) (h3 : N ≤ 100000) (hz : ∀ k, 0 ≤ k → k < N → (f k).size ≤ 70368744177664) :
    Calls Try.prog 13 #[.slice (some ⟨g, 0, none⟩) N C, .func (Fn.func 14) #[] #[]] w fun e w' => e = .returned (.tuple #[]) ∧ (∃ f', SqAt g N f' w' ∧ Prm 0 N f f' ∧ Srt f' 0 N) ∧ Below g w w' := by
  have H := Lib.hid (stable_any g N C f w h h3 hz)
  clear h h3 hz
  go_enter Try.func13, Try.ntmps13
  go_wp2_with fail
  ((with_reducible refine H.out.mono ?_))
  rintro e w2 ⟨rfl, ⟨f2, hs2, hp2, ho2⟩, hbl2⟩
  go_wp2_with fail
  exact bodyPost_end (results_none rfl _ _ _) rfl ⟨rfl, ⟨f2, hs2, hp2, ho2⟩, hbl2⟩
end Go.Proofs.Ytdpkinppkhnjkaa
