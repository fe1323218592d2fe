/- slices.rotateCmpFunc over strings. -/
import Derived.Test.YtdpkinppkhnjkaaDoorSrtSwap
namespace Go.Proofs.YtdpkinppkhnjkaaDoor
open Go.RowKit

set_option maxRecDepth 100000 in
set_option maxHeartbeats 4000000 in
theorem rotate_any (g N C : Nat) (f : Seq') (a m b : Nat) (cmp : Value) (w : World) (h : SqAt g N f w) (h1 : a < m) (h2 : m < b) (h3 : b ≤ N) (h4 : N ≤ 1000000) :
    Calls Tryd.prog 37 #[.slice (some ⟨g, 0, none⟩) N C, .int .i64 (a : Int), .int .i64 (m : Int), .int .i64 (b : Int), cmp] w fun e w' => e = .returned (.tuple #[]) ∧ SqAt g N (rot f a (m - a) (b - m)) w' ∧ Below g w w' := by
  have H := Lib.hid h
  obtain ⟨i0, hi0⟩ : ∃ i, m - a = i := ⟨_, rfl⟩
  obtain ⟨j0, hj0⟩ : ∃ j, b - m = j := ⟨_, rfl⟩
  rw [hi0, hj0]
  have e1 : (m : Int) - (a : Int) = (i0 : Int) := by omega
  have e2 : (b : Int) - (m : Int) = (j0 : Int) := by omega
  have u1 : IntKind.i64.wrap (i0 : Int) = (i0 : Int) := by rw [IntKind.wrap_i64]; omega
  have u2 : IntKind.i64.wrap (j0 : Int) = (j0 : Int) := by rw [IntKind.wrap_i64]; omega
  have HF : Hid (a + i0 = m ∧ m + j0 = b ∧ 1 ≤ i0 ∧ 1 ≤ j0 ∧ b ≤ N ∧ N ≤ 1000000) := Lib.hid ⟨by omega, by omega, by omega, by omega, h3, h4⟩
  clear h1 h2 h3 h4 hi0 hj0 h
  go_enter Tryd.func37, Tryd.ntmps37
  go_wp2_with fail
  clear e1 e2 u1 u2
  go_loopw [10, 11] (fun iv jv wr => ∃ (i j : Nat) (f' : Seq'), iv = .int .i64 (i : Int) ∧ jv = .int .i64 (j : Int) ∧ 1 ≤ i ∧ 1 ≤ j ∧ i ≤ i0 ∧ j ≤ j0 ∧ SqAt g N f' wr ∧ Below g w wr ∧ rot f' (m - i) i j = rot f a i0 j0) (fun iv jv _ => (intOf iv).toNat + (intOf jv).toNat)
  case atStart => exact ⟨i0, j0, f, rfl, rfl, HF.out.2.2.1, HF.out.2.2.2.1, Nat.le_refl _, Nat.le_refl _, H.out, Below.refl _ _, by have := HF.out.1; rw [show m - i0 = a by omega]⟩
  case round =>
    obtain ⟨i, j, f', rfl, rfl, hi1, hj1, hi0, hj0, hs, hb, hr⟩ := hrel
    have HS := Lib.hid hs
    have HB := Lib.hid hb
    have HR := Lib.hid hr
    have HI := Lib.hid (And.intro hi1 (And.intro hj1 (And.intro hi0 hj0)))
    clear hs hb hr
    obtain ⟨l, hl⟩ : ∃ l, m - i = l := ⟨_, rfl⟩
    have hm : l + i = m := by have := HF.out; omega
    have hN : m + j ≤ N ∧ N ≤ 1000000 := by have := HF.out; omega
    rw [hl] at HR
    have e1 : (m : Int) - (i : Int) = (l : Int) := by omega
    have u1 : IntKind.i64.wrap (l : Int) = (l : Int) := by rw [IntKind.wrap_i64]; omega
    by_cases c1 : i = j
    · subst c1
      have t1 : ((i : Int) != (i : Int)) = false := by simp
      have HC := Lib.hid (swapRange_any g N C f' l m i cmp wr HS.out (by omega) (by omega) hN.2)
      clear hN hi1 hj1 hi0 hj0 hl
      go_wp2_with fail
      ((with_reducible refine HC.out.mono ?_))
      rintro e w2 ⟨rfl, hs2, hb2⟩
      have HE : Hid (SqAt g N (rot f a i0 j0) w2) := Lib.hid (by rw [← HR.out, ← rot_same, hm]; exact hs2)
      have HB2 := Lib.hid (HB.out.trans hb2)
      clear hs2 hb2
      go_wp2_with fail
      exact bodyPost_end (results_none rfl _ _ _) rfl ⟨rfl, HE.out, HB2.out⟩
    · have t1 : ((i : Int) != (j : Int)) = true := by simp; omega
      by_cases c2 : j < i
      · have t2 : decide ((j : Int) < (i : Int)) = true := by simp; omega
        have t3 : decide (j < i) = true := by simp; omega
        obtain ⟨k, hk⟩ : ∃ k, i - j = k := ⟨_, rfl⟩
        have e3 : (i : Int) - (j : Int) = (k : Int) := by omega
        have u3 : IntKind.i64.wrap (k : Int) = (k : Int) := by rw [IntKind.wrap_i64]; omega
        have HC := Lib.hid (swapRange_any g N C f' l m j cmp wr HS.out (by omega) (by omega) hN.2)
        have HK : Hid (1 ≤ k ∧ k ≤ i0 ∧ m - k = l + j ∧ k + j = i) := Lib.hid ⟨by omega, by omega, by omega, by omega⟩
        have HQ : Hid (rot (swr f' l m j) (l + j) k j = rot f a i0 j0) := Lib.hid (by rw [← HR.out, ← rot_left f' l i j c2, hk, hm])
        clear hN hi1 hj1 hi0 hj0 hl c1 c2 hk
        go_wp2_with fail
        ((with_reducible refine HC.out.mono ?_))
        rintro e w2 ⟨rfl, hs2, hb2⟩
        have HE := Lib.hid hs2
        have HB2 := Lib.hid (HB.out.trans hb2)
        clear hs2 hb2
        go_wp2_with fail
        clear u1 u3
        go_roundw
        case rel => exact ⟨k, j, _, rfl, rfl, HK.out.1, HI.out.2.1, HK.out.2.1, HI.out.2.2.2, HE.out, HB2.out, by rw [HK.out.2.2.1]; exact HQ.out⟩
        case measure => have := HK.out; have := HI.out; simp [intOf]; omega
      · have t2 : decide ((j : Int) < (i : Int)) = false := by simp; omega
        have t3 : decide (j < i) = false := by simp; omega
        obtain ⟨k, hk⟩ : ∃ k, j - i = k := ⟨_, rfl⟩
        have e3 : (j : Int) - (i : Int) = (k : Int) := by omega
        have u3 : IntKind.i64.wrap (k : Int) = (k : Int) := by rw [IntKind.wrap_i64]; omega
        obtain ⟨s, hs⟩ : ∃ s, m + j = s := ⟨_, rfl⟩
        obtain ⟨t, ht⟩ : ∃ t, s - i = t := ⟨_, rfl⟩
        have e4 : (m : Int) + (j : Int) = (s : Int) := by omega
        have u4 : IntKind.i64.wrap (s : Int) = (s : Int) := by rw [IntKind.wrap_i64]; omega
        have e5 : (s : Int) - (i : Int) = (t : Int) := by omega
        have u5 : IntKind.i64.wrap (t : Int) = (t : Int) := by rw [IntKind.wrap_i64]; omega
        have HC := Lib.hid (swapRange_any g N C f' l t i cmp wr HS.out (by omega) (by omega) hN.2)
        have HK : Hid (1 ≤ k ∧ k ≤ j0 ∧ k + i = j ∧ m - i = l) := Lib.hid ⟨by omega, by omega, by omega, by omega⟩
        have HQ : Hid (rot (swr f' l t i) l i k = rot f a i0 j0) := Lib.hid (by rw [← HR.out, ← rot_right f' l i j (by omega), hk, show l + j = t by omega])
        clear hN hi1 hj1 hi0 hj0 hl c1 c2 hk hs ht
        go_wp2_with fail
        ((with_reducible refine HC.out.mono ?_))
        rintro e w2 ⟨rfl, hs2, hb2⟩
        have HE := Lib.hid hs2
        have HB2 := Lib.hid (HB.out.trans hb2)
        clear hs2 hb2
        go_wp2_with fail
        clear u1 u3 u4 u5
        go_roundw
        case rel => exact ⟨i, k, _, rfl, rfl, HI.out.1, HK.out.1, HI.out.2.2.1, HK.out.2.1, HE.out, HB2.out, by rw [HK.out.2.2.2]; exact HQ.out⟩
        case measure => have := HK.out; have := HI.out; simp [intOf]; omega
end Go.Proofs.YtdpkinppkhnjkaaDoor
