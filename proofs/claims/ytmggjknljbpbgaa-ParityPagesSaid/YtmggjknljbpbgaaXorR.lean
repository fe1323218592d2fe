/- The reference's Xor. -/
import Derived.Test.YtmggjknljbpbgaaXor
namespace Go.Proofs.Ytmggjknljbpbgaa
open Go.RowKit

/-- What Zeros hands back. -/
def ZerosAt (n : Nat) (w : World) (e : Ending) (w' : World) : Prop :=
  ∃ g, e = .returned (.slice (some ⟨g, 0, none⟩) n n) ∧ OwnB w.heap.size w' g n n (List.replicate n 0) ∧ Below w.heap.size w w' ∧ w.heap.size ≤ g ∧ g < w'.heap.size
set_option maxHeartbeats 400000 in
theorem zeros_at (n : Nat) (w : World) (hn : n ≤ 100000) :
    Calls Try.prog 49 #[.int .i64 (n : Int)] w (ZerosAt n w) := by
  obtain ⟨i0, hi, hz0, hz1, hz2⟩ := info_parts info_u8
  go_enter Try.func49, Try.ntmps49
  go_wp2_with (refine wpList_make_full w rfl _ _ 47 rfl w.heap.size 5 i0 (.int .u8 0) 1 Try.underlying47 hi hz0 hz1 .i64 .i64 _ _ n rfl rfl rfl rfl ?c1 ?c2 ?c3 ?_)
  case c1 => rw [hz2]; omega
  case c2 => unfold maxLen; omega
  case c3 => exact Nat.le_refl _
  intro w1 hown hg
  have hz := own_zeros hown
  have hlt := own_base hz w.heap.size rfl
  have HB : Hid (Below w.heap.size w w1) := Lib.hid ((Below.refl _ w).grown hg (Nat.le_refl _) (fun k hk => by cases hk))
  have HZ := Lib.hid hz
  have HLT := Lib.hid hlt.2
  clear hown hg hz hlt
  go_wp2
  go_ret
  exact ⟨w.heap.size, rfl, ⟨HZ.out, by simp⟩, HB.out, Nat.le_refl _, HLT.out⟩

set_option maxRecDepth 100000 in
set_option maxHeartbeats 3200000 in
theorem refXor_any (a : Option Addr) (n c : Nat) (P : Nat → PS) (w : World) (hp : PartsAt w a n P) (hn : n ≤ 100000) (hl : ∀ i, i < n → (P i).n ≤ 100000) :
    Calls Try.prog 36 #[.slice a n c] w (RetOwn w (xorB (fun i => (P i).l) n)) := by
  have HP := Lib.hid hp
  have HL := Lib.hid hl
  have HLEN : Hid (∀ i, i < n → (P i).l.length = (P i).n) := Lib.hid fun i hi => (hp.2 i hi).1.1
  have HB : Hid (∀ i, i < n → ∀ x ∈ (P i).l, x < 256) := Lib.hid fun i hi => (hp.2 i hi).1.2.1
  obtain ⟨Q, hQ⟩ : ∃ Q : Nat → List Nat, ∀ i, Q i = (P i).l := ⟨_, fun _ => rfl⟩
  have HQ := Lib.hid hQ
  have e0 : (fun i => (P i).l) = Q := funext fun i => (hQ i).symm
  rw [e0]
  clear hp hl hQ e0
  have hlong : ∀ k, k ≤ n → longest Q k ≤ 100000 := fun k hk => longest_le Q k 100000 fun i hi => by rw [HQ.out, HLEN.out i (by omega)]; exact HL.out i (by omega)
  have HLONG := Lib.hid hlong
  clear hlong
  go_enter Try.func36, Try.ntmps36
  go_wp2
  go_loopg [3, 4] n (fun g long i wr => ∃ k : Nat, k ≤ n ∧ g = n - k ∧ i = .int .i64 (k : Int) ∧ long = .int .i64 ((longest Q k : Nat) : Int) ∧ wr = w)
  case atStart => exact ⟨0, Nat.zero_le _, rfl, rfl, rfl, rfl⟩
  case round =>
    obtain ⟨k, hk, rfl, rfl, rfl, rfl⟩ := hrel
    by_cases hlt : k < n
    · have t1 : decide (k < n) = true := by simpa using hlt
      obtain ⟨b, off, rfl, hc⟩ := HP.out.cell hlt
      have hkk : (0 : Int) ≤ (k : Int) := by omega
      have hkn : (k : Int) < (n : Int) := by omega
      have HS : Hid (longest Q (k + 1) = if longest Q k < (P k).n then (P k).n else longest Q k) := Lib.hid (by rw [longest, HQ.out, HLEN.out k hlt])
      obtain ⟨lg, hlg⟩ : ∃ lg, lg = longest Q k := ⟨_, rfl⟩
      rw [← hlg] at HS ⊢
      clear hlg
      obtain ⟨m, hm⟩ : ∃ m, m = (P k).n := ⟨_, rfl⟩
      rw [← hm] at hc HS
      clear hm
      by_cases h1 : lg < m
      · have t2 : decide (lg < m) = true := by simpa using h1
        have HH := Lib.hid h1
        clear h1
        go_wp2
        go_roundg (n - (k + 1))
        case rel => exact ⟨k + 1, by omega, rfl, by go_num, by rw [HS.out, if_pos HH.out], rfl⟩
        case measure => omega
      · have t2 : decide (lg < m) = false := by simpa using h1
        have HH := Lib.hid h1
        clear h1
        go_wp2
        go_roundg (n - (k + 1))
        case rel => exact ⟨k + 1, by omega, rfl, by go_num, by rw [HS.out, if_neg HH.out], rfl⟩
        case measure => omega
    · obtain rfl : k = n := by omega
      obtain ⟨w0, hw0⟩ : ∃ x, x = wr := ⟨_, rfl⟩
      subst hw0
      have hL := HLONG.out k (Nat.le_refl _)
      obtain ⟨L, hLd⟩ : ∃ L, L = longest Q k := ⟨_, rfl⟩
      have HLD := Lib.hid hLd
      rw [← hLd] at hL ⊢
      clear hLd
      have t1 : decide (k < k) = false := by simp
      go_wp2_with fail
      ((with_reducible refine (zeros_at L _ hL).mono ?_))
      intro e w1 hq
      obtain ⟨g, rfl, ho, hb1, hg1, hg2⟩ := hq
      have HST : Hid (XorSt w0 a k P g L (xorTo L Q 0) w1) := Lib.hid ⟨by rw [xorTo_zero]; exact ho, HP.out.keep hb1 (Nat.le_refl _), hb1, hg1, hg2⟩
      clear ho hb1 hg1 hg2 t1
      obtain ⟨n, hnk⟩ : ∃ n, n = k := ⟨_, rfl⟩
      subst hnk
      go_wp2
      go_loopg [6] n (fun gk i wx => ∃ k : Nat, k ≤ n ∧ gk = n - k ∧ i = .int .i64 (k : Int) ∧ XorSt w0 a n P g L (xorTo L Q k) wx)
      case atStart => exact ⟨0, Nat.zero_le _, rfl, rfl, HST.out⟩
      case round =>
        obtain ⟨k, hk, rfl, rfl, hst⟩ := hrel
        clear HST
        have HST := Lib.hid hst
        clear hst
        by_cases hlt : k < n
        · have t1 : decide (k < n) = true := by simpa using hlt
          obtain ⟨b, off, rfl, _⟩ := HST.out.2.1.cell hlt
          have hkk : (0 : Int) ≤ (k : Int) := by omega
          have hkn : (k : Int) < (n : Int) := by omega
          obtain ⟨m, hm⟩ : ∃ m, m = (P k).n := ⟨_, rfl⟩
          obtain ⟨pa, hpa⟩ : ∃ pa, pa = (P k).a := ⟨_, rfl⟩
          obtain ⟨pc, hpc⟩ : ∃ pc, pc = (P k).c := ⟨_, rfl⟩
          have hmL : m ≤ L := by
            rw [HLD.out, hm, ← HLEN.out k hlt, ← HQ.out k]; exact longest_ge Q n k hlt
          have hmx : m ≤ 100000 := by omega
          have hmQ : (Q k).length = m := by rw [HQ.out, HLEN.out k hlt, hm]
          have HM := Lib.hid hm
          have HPA := Lib.hid hpa
          have HPC := Lib.hid hpc
          have HMQ := Lib.hid hmQ
          clear hm hpa hpc hmQ
          go_wp2
          go_loopg [7] m (fun gj j wi => ∃ j' : Nat, j' ≤ m ∧ gj = m - j' ∧ j = .int .i64 (j' : Int) ∧ XorSt w0 (some ⟨b, off, none⟩) n P g L (xorMid L Q k j') wi)
          case atStart => exact ⟨0, Nat.zero_le _, rfl, rfl, by rw [xorMid_zero]; exact HST.out⟩
          case round =>
            obtain ⟨j, hj, rfl, rfl, hsj⟩ := hrel
            clear HST
            have HST := Lib.hid hsj
            clear hsj
            have hc : wr.cell? ⟨b, off + k, none⟩ = some (.slice pa m pc) := by
              obtain ⟨b', off', e, hc⟩ := HST.out.2.1.cell hlt
              cases e
              rw [HPA.out, HM.out, HPC.out]; exact hc
            by_cases hjm : j < m
            · have t2 : decide (j < m) = true := by simpa using hjm
              have hrow : Row wr pa m (Q k) := by rw [HPA.out, HM.out, HQ.out]; exact (HST.out.2.1.2 k hlt).1
              obtain ⟨pb, po, y, rfl, hcy, hy, HY⟩ := row_cell hrow hjm
              have hcu := ownB_cell HST.out.1 j (by omega)
              have hfu := ownB_frozen HST.out.1 j
              rw [xorMid_at Q k j (by omega)] at hcu
              have hu : xorAt Q j k < 256 := xorAt_lt (n := n) (fun i hi => by rw [HQ.out]; exact HB.out i hi) j k (by omega)
              have hs := xorMid_set (L := L) Q k j
              rw [← HY.out] at hs
              obtain ⟨u, hud⟩ : ∃ u, u = xorAt Q j k := ⟨_, rfl⟩
              rw [← hud] at hcu hu hs
              have hz : u ^^^ y < 256 := Nat.xor_lt_two_pow (n := 8) hu hy
              have hx := u8_xor_nat u y hu hy
              have HNX := Lib.hid (HST.out.set HP.out j (u ^^^ y) hz hs)
              obtain ⟨z, hzd⟩ : ∃ z, z = u ^^^ y := ⟨_, rfl⟩
              rw [← hzd] at hx HNX
              have hj0 : (0 : Int) ≤ (j : Int) := by omega
              have hj1 : (j : Int) < (m : Int) := by omega
              have hj2 : (j : Int) < (L : Int) := by omega
              clear hud hs hz hzd hrow HST
              go_wp2
              go_region
              go_wp2
              go_roundg (m - (j + 1))
              case rel => exact ⟨j + 1, by omega, rfl, by go_num, HNX.out⟩
              case measure => omega
            · obtain rfl : j = m := by omega
              have t2 : decide (j < j) = false := by simp
              have HST2 : Hid (XorSt w0 (some ⟨b, off, none⟩) n P g L (xorTo L Q (k + 1)) wr) := Lib.hid (by rw [← xorMid_end, HMQ.out]; exact HST.out)
              clear HST
              go_wp2
              go_roundg (n - (k + 1))
              case rel => exact ⟨k + 1, by omega, rfl, by go_num, HST2.out⟩
              case measure => omega
        · obtain rfl : k = n := by omega
          go_wp2
          go_ret
          exact ⟨_, rfl, by unfold xorB; rw [← HLD.out]; exact HST.out.1.1, HST.out.2.2.1⟩

end Go.Proofs.Ytmggjknljbpbgaa
