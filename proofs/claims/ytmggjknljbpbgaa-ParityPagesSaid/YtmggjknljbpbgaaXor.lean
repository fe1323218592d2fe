/- parity.Xor and the reference's. -/
import Derived.Test.YtmggjknljbpbgaaXorP
namespace Go.Proofs.Ytmggjknljbpbgaa
open Go.RowKit

/-- What is there while parts are put together. -/
def XorSt (w : World) (a : Option Addr) (n : Nat) (P : Nat → PS) (g L : Nat) (l : List Nat) (x : World) : Prop :=
  OwnB w.heap.size x g L L l ∧ PartsAt x a n P ∧ Below w.heap.size w x ∧ w.heap.size ≤ g ∧ g < x.heap.size
theorem XorSt.set {w : World} {a : Option Addr} {n : Nat} {P : Nat → PS} {g L : Nat} {l l' : List Nat} {x : World} (h : XorSt w a n P g L l x) (h0 : PartsAt w a n P) (j y : Nat) (hy : y < 256) (e : l.set j y = l') :
    XorSt w a n P g L l' (x.drew.setCell ⟨g, j, none⟩ (.int .u8 (y : Int))) := by
  obtain ⟨h1, _, h3, h4, h5⟩ := h
  have hb : Below w.heap.size w (x.drew.setCell ⟨g, j, none⟩ (.int .u8 (y : Int))) := h3.drew.setCell (p := ⟨g, j, none⟩) h4 _
  have h1' : OwnB w.heap.size x.drew g L L l := h1
  refine ⟨e ▸ ownB_set h1' j y hy, h0.keep hb (Nat.le_refl _), hb, h4, ?_⟩
  simpa using h5

set_option maxRecDepth 100000 in
set_option maxHeartbeats 3200000 in
theorem xor_any (a : Option Addr) (n c : Nat) (P : Nat → PS) (w : World) (hp : PartsAt w a n P) (hn : n ≤ 100000) (hl : ∀ i, i < n → (P i).n ≤ 100000) :
    Calls Try.prog 34 #[.slice a n c] w (RetOwn w (xorB (fun i => (P i).l) n)) := by
  have HP := Lib.hid hp
  have HL := Lib.hid hl
  have HLEN : Hid (∀ i, i < n → (P i).l.length = (P i).n) := Lib.hid fun i hi => (hp.2 i hi).1.1
  have HB : Hid (∀ i, i < n → ∀ x ∈ (P i).l, x < 256) := Lib.hid fun i hi => (hp.2 i hi).1.2.1
  obtain ⟨Q, hQ⟩ : ∃ Q : Nat → List Nat, ∀ i, Q i = (P i).l := ⟨_, fun _ => rfl⟩
  have HQ := Lib.hid hQ
  have e0 : (fun i => (P i).l) = Q := funext fun i => (hQ i).symm
  rw [e0]
  clear hp hl hQ e0
  obtain ⟨i0, hi, hz0, hz1, hz2⟩ := info_parts info_u8
  have HI := Lib.hid (And.intro hi (And.intro hz0 (And.intro hz1 hz2)))
  clear hi hz0 hz1 hz2
  have hlong : ∀ k, k ≤ n → longest Q k ≤ 100000 := fun k hk => longest_le Q k 100000 fun i hi => by rw [HQ.out, HLEN.out i (by omega)]; exact HL.out i (by omega)
  have HLONG := Lib.hid hlong
  clear hlong
  go_enter Try.func34, Try.ntmps34
  go_wp2
  go_loopg [3, 12] n (fun g long i wr => ∃ k : Nat, k ≤ n ∧ g = n - k ∧ i = .int .i64 (k : Int) ∧ long = .int .i64 ((longest Q k : Nat) : Int) ∧ wr = w)
  case atStart => exact ⟨0, Nat.zero_le _, rfl, rfl, rfl, rfl⟩
  case round =>
    obtain ⟨k, hk, rfl, rfl, rfl, rfl⟩ := hrel
    by_cases hlt : k < n
    · have t1 : decide (k < n) = true := by simpa using hlt
      obtain ⟨b, off, rfl, hc⟩ := HP.out.cell hlt
      have hkk : (0 : Int) ≤ (k : Int) := by omega
      have hkn : (k : Int) < (n : Int) := by omega
      have HS : Hid (longest Q (k + 1) = if longest Q k < (P k).n then (P k).n else longest Q k) := Lib.hid (by rw [longest, HQ.out, HLEN.out k hlt])
      obtain ⟨lg, hlg⟩ : ∃ lg, lg = longest Q k := ⟨_, rfl⟩
      rw [← hlg] at HS ⊢
      clear hlg
      obtain ⟨m, hm⟩ : ∃ m, m = (P k).n := ⟨_, rfl⟩
      rw [← hm] at hc HS
      clear hm
      go_wp2
      · have h1 : lg < m := by assumption
        go_roundg (n - (k + 1))
        case rel => exact ⟨k + 1, by omega, rfl, by go_num, by rw [HS.out, if_pos h1], rfl⟩
        case measure => omega
      · have h1 : ¬ (lg < m) := by assumption
        go_roundg (n - (k + 1))
        case rel => exact ⟨k + 1, by omega, rfl, by go_num, by rw [HS.out, if_neg h1], rfl⟩
        case measure => omega
    · obtain rfl : k = n := by omega
      obtain ⟨w0, hw0⟩ : ∃ x, x = wr := ⟨_, rfl⟩
      subst hw0
      have hL := HLONG.out k (Nat.le_refl _)
      obtain ⟨L, hLd⟩ : ∃ L, L = longest Q k := ⟨_, rfl⟩
      have HLD := Lib.hid hLd
      rw [← hLd] at hL ⊢
      clear hLd
      obtain ⟨hi, hz0, hz1, hz2⟩ := HI.out
      have t1 : decide (k < k) = false := by simp
      go_wp2_with (refine wpList_make_full w0 rfl _ _ 47 rfl w0.heap.size 5 i0 (.int .u8 0) 1 Try.underlying47 hi hz0 hz1 .i64 .i64 _ _ L rfl rfl rfl rfl ?c1 ?c2 ?c3 ?_)
      case c1 => rw [hz2]; omega
      case c2 => unfold maxLen; omega
      case c3 => exact Nat.le_refl _
      intro w1 hown hg
      have hz := own_zeros hown
      have hb1 : Below w0.heap.size w0 w1 := (Below.refl _ w0).grown hg (Nat.le_refl _) (fun k hk => by cases hk)
      have hlt1 := own_base hz w0.heap.size rfl
      have HST : Hid (XorSt w0 a k P w0.heap.size L (xorTo L Q 0) w1) := Lib.hid ⟨⟨by rw [xorTo_zero]; exact hz, by simp [xorTo]⟩, HP.out.keep hb1 (Nat.le_refl _), hb1, Nat.le_refl _, hlt1.2⟩
      obtain ⟨g, hgd⟩ : ∃ g, g = w0.heap.size := ⟨_, rfl⟩
      rw [← hgd] at HST ⊢
      clear hown hg hz hb1 hlt1 hgd hi hz0 hz1 hz2 HI t1
      obtain ⟨n, hnk⟩ : ∃ n, n = k := ⟨_, rfl⟩
      subst hnk
      go_wp2
      go_loopg [25] n (fun gk i wx => ∃ k : Nat, k ≤ n ∧ gk = n - k ∧ i = .int .i64 (k : Int) ∧ XorSt w0 a n P g L (xorTo L Q k) wx)
      case atStart => exact ⟨0, Nat.zero_le _, rfl, rfl, HST.out⟩
      case round =>
        obtain ⟨k, hk, rfl, rfl, hst⟩ := hrel
        clear HST
        have HST := Lib.hid hst
        clear hst
        by_cases hlt : k < n
        · have t1 : decide (k < n) = true := by simpa using hlt
          obtain ⟨b, off, rfl, hc⟩ := HST.out.2.1.cell hlt
          have hkk : (0 : Int) ≤ (k : Int) := by omega
          have hkn : (k : Int) < (n : Int) := by omega
          obtain ⟨m, hm⟩ : ∃ m, m = (P k).n := ⟨_, rfl⟩
          obtain ⟨pa, hpa⟩ : ∃ pa, pa = (P k).a := ⟨_, rfl⟩
          obtain ⟨pc, hpc⟩ : ∃ pc, pc = (P k).c := ⟨_, rfl⟩
          have hmL : m ≤ L := by
            rw [HLD.out, hm, ← HLEN.out k hlt, ← HQ.out k]; exact longest_ge Q n k hlt
          have hmx : m ≤ 100000 := by omega
          have hmQ : (Q k).length = m := by rw [HQ.out, HLEN.out k hlt, hm]
          rw [← hm, ← hpa, ← hpc] at hc
          have HM := Lib.hid hm
          have HPA := Lib.hid hpa
          have HMQ := Lib.hid hmQ
          clear hm hpa hpc hmQ
          go_wp2
          go_loopg [31] m (fun gj j wi => ∃ j' : Nat, j' ≤ m ∧ gj = m - j' ∧ j = .int .i64 (j' : Int) ∧ XorSt w0 (some ⟨b, off, none⟩) n P g L (xorMid L Q k j') wi)
          case atStart => exact ⟨0, Nat.zero_le _, rfl, rfl, by rw [xorMid_zero]; exact HST.out⟩
          case round =>
            obtain ⟨j, hj, rfl, rfl, hsj⟩ := hrel
            clear HST
            have HST := Lib.hid hsj
            clear hsj
            by_cases hjm : j < m
            · have t2 : decide (j < m) = true := by simpa using hjm
              have hrow : Row wr pa m (Q k) := by rw [HPA.out, HM.out, HQ.out]; exact (HST.out.2.1.2 k hlt).1
              obtain ⟨pb, po, y, rfl, hcy, hy, HY⟩ := row_cell hrow hjm
              have hcu := ownB_cell HST.out.1 j (by omega)
              have hfu := ownB_frozen HST.out.1 j
              rw [xorMid_at Q k j (by omega)] at hcu
              have hu : xorAt Q j k < 256 := xorAt_lt (n := n) (fun i hi => by rw [HQ.out]; exact HB.out i hi) j k (by omega)
              have hs := xorMid_set (L := L) Q k j
              rw [← HY.out] at hs
              obtain ⟨u, hud⟩ : ∃ u, u = xorAt Q j k := ⟨_, rfl⟩
              rw [← hud] at hcu hu hs
              have hz : u ^^^ y < 256 := Nat.xor_lt_two_pow (n := 8) hu hy
              have hx := u8_xor_nat u y hu hy
              have HNX := Lib.hid (HST.out.set HP.out j (u ^^^ y) hz hs)
              obtain ⟨z, hzd⟩ : ∃ z, z = u ^^^ y := ⟨_, rfl⟩
              rw [← hzd] at hx HNX
              have hj0 : (0 : Int) ≤ (j : Int) := by omega
              have hj1 : (j : Int) < (m : Int) := by omega
              have hj2 : (j : Int) < (L : Int) := by omega
              clear hud hs hz hzd hrow HST
              go_wp2
              go_region
              go_wp2
              go_roundg (m - (j + 1))
              case rel => exact ⟨j + 1, by omega, rfl, by go_num, HNX.out⟩
              case measure => omega
            · obtain rfl : j = m := by omega
              have HST2 : Hid (XorSt w0 (some ⟨b, off, none⟩) n P g L (xorTo L Q (k + 1)) wr) := Lib.hid (by rw [← xorMid_end, HMQ.out]; exact HST.out)
              clear HST
              go_wp2
              go_roundg (n - (k + 1))
              case rel => exact ⟨k + 1, by omega, rfl, by go_num, HST2.out⟩
              case measure => omega
        · obtain rfl : k = n := by omega
          go_wp2
          go_ret
          exact ⟨_, rfl, by unfold xorB; rw [← HLD.out]; exact HST.out.1.1, HST.out.2.2.1⟩

end Go.Proofs.Ytmggjknljbpbgaa
