/- RecordTurns: the walk. -/
import Derived.Test.YtjnjkoodeacpdaaRSealed
import Derived.Test.YtjnjkoodeacpdaaRSum
import Derived.Test.YtjnjkoodeacpdaaRFrameB
import Derived.StillTailTactics
namespace Go.Proofs.Ytjnjkoodeacpdaa
open Go.RowKit

theorem at_row (x : Int) (la : Nat) (h1 : 5 ≤ la) (h2 : la ≤ 600) : ∃ r : Nat, wrap64 ((IntKind.u64.wrap x).tmod (8 * (la : Int) - 32)) = (r : Int) ∧ r < 8 * la - 32 := by
  have h0 := wrap_u64_nonneg x
  have e : (IntKind.u64.wrap x).tmod (8 * (la : Int) - 32) = (IntKind.u64.wrap x) % (8 * (la : Int) - 32) := Int.tmod_eq_emod_of_nonneg h0
  have h3 := Int.emod_nonneg (IntKind.u64.wrap x) (show (8 * (la : Int) - 32) ≠ 0 by omega)
  have h4 := Int.emod_lt_of_pos (IntKind.u64.wrap x) (show 0 < (8 * (la : Int) - 32) by omega)
  rw [e]
  generalize IntKind.u64.wrap x % (8 * (la : Int) - 32) = m at *
  refine ⟨m.toNat, ?_, by omega⟩
  rw [IntWalk.wrap64_in m ⟨by omega, by omega⟩]
  omega


set_option maxRecDepth 100000 in
set_option maxHeartbeats 1600000 in
theorem recordTurns_walk (h : RH) (a : Option Addr) (la ca : Nat) (bs : List Nat) (x : Int) (B : Nat) (w : World) (hin : h.Fits ∧ InB w a la ca bs ∧ B < 4294967296) :
    Calls Try.prog 11 #[.agg (h.cells ++ #[.slice a la ca, .int .i64 x, .int .u32 ((B : Nat) : Int)])] w fun e w' => e = .returned (.bool true) ∧ Below w.heap.size w w' := by
  obtain ⟨hf, ⟨hr, hlc, hcm, hn⟩, hB⟩ := hin
  have e0 : h.cells ++ #[.slice a la ca, .int .i64 x, .int .u32 ((B : Nat) : Int)] = #[.int .u8 (h.ki : Int), .int .u32 (h.ep : Int), .int .u32 (h.ba : Int), .int .u16 (h.ix : Int), .int .u16 (h.ct : Int), .int .u32 (h.bl : Int), .int .u32 (h.mo : Int), .slice a la ca, .int .i64 x, .int .u32 ((B : Nat) : Int)] := rfl
  rw [e0]
  clear e0
  go_enter Try.func11, Try.ntmps11
  go_wp2_with fail
  obtain ⟨W1, hW1⟩ : ∃ W1, W1 = w.alloc (.cells #[.int .u8 (h.ki : Int), .int .u32 (h.ep : Int), .int .u32 (h.ba : Int), .int .u16 (h.ix : Int), .int .u16 (h.ct : Int), .int .u32 (h.bl : Int), .int .u32 (h.mo : Int), .slice a la ca, .int .i64 x, .int .u32 ((B : Nat) : Int)] 101) := ⟨_, rfl⟩
  have c0 : W1.cell? ⟨w.heap.size, 0, none⟩ = some (.int .u8 (h.ki : Int)) := by rw [hW1, World.cell?_alloc_mark w #[.int .u8 (h.ki : Int), .int .u32 (h.ep : Int), .int .u32 (h.ba : Int), .int .u16 (h.ix : Int), .int .u16 (h.ct : Int), .int .u32 (h.bl : Int), .int .u32 (h.mo : Int), .slice a la ca, .int .i64 x, .int .u32 ((B : Nat) : Int)] 101 (0, 0)]; rfl
  have c1 : W1.cell? ⟨w.heap.size, 1, none⟩ = some (.int .u32 (h.ep : Int)) := by rw [hW1, World.cell?_alloc_mark w #[.int .u8 (h.ki : Int), .int .u32 (h.ep : Int), .int .u32 (h.ba : Int), .int .u16 (h.ix : Int), .int .u16 (h.ct : Int), .int .u32 (h.bl : Int), .int .u32 (h.mo : Int), .slice a la ca, .int .i64 x, .int .u32 ((B : Nat) : Int)] 101 (0, 0)]; rfl
  have c2 : W1.cell? ⟨w.heap.size, 2, none⟩ = some (.int .u32 (h.ba : Int)) := by rw [hW1, World.cell?_alloc_mark w #[.int .u8 (h.ki : Int), .int .u32 (h.ep : Int), .int .u32 (h.ba : Int), .int .u16 (h.ix : Int), .int .u16 (h.ct : Int), .int .u32 (h.bl : Int), .int .u32 (h.mo : Int), .slice a la ca, .int .i64 x, .int .u32 ((B : Nat) : Int)] 101 (0, 0)]; rfl
  have c3 : W1.cell? ⟨w.heap.size, 3, none⟩ = some (.int .u16 (h.ix : Int)) := by rw [hW1, World.cell?_alloc_mark w #[.int .u8 (h.ki : Int), .int .u32 (h.ep : Int), .int .u32 (h.ba : Int), .int .u16 (h.ix : Int), .int .u16 (h.ct : Int), .int .u32 (h.bl : Int), .int .u32 (h.mo : Int), .slice a la ca, .int .i64 x, .int .u32 ((B : Nat) : Int)] 101 (0, 0)]; rfl
  have c4 : W1.cell? ⟨w.heap.size, 4, none⟩ = some (.int .u16 (h.ct : Int)) := by rw [hW1, World.cell?_alloc_mark w #[.int .u8 (h.ki : Int), .int .u32 (h.ep : Int), .int .u32 (h.ba : Int), .int .u16 (h.ix : Int), .int .u16 (h.ct : Int), .int .u32 (h.bl : Int), .int .u32 (h.mo : Int), .slice a la ca, .int .i64 x, .int .u32 ((B : Nat) : Int)] 101 (0, 0)]; rfl
  have c5 : W1.cell? ⟨w.heap.size, 5, none⟩ = some (.int .u32 (h.bl : Int)) := by rw [hW1, World.cell?_alloc_mark w #[.int .u8 (h.ki : Int), .int .u32 (h.ep : Int), .int .u32 (h.ba : Int), .int .u16 (h.ix : Int), .int .u16 (h.ct : Int), .int .u32 (h.bl : Int), .int .u32 (h.mo : Int), .slice a la ca, .int .i64 x, .int .u32 ((B : Nat) : Int)] 101 (0, 0)]; rfl
  have c6 : W1.cell? ⟨w.heap.size, 6, none⟩ = some (.int .u32 (h.mo : Int)) := by rw [hW1, World.cell?_alloc_mark w #[.int .u8 (h.ki : Int), .int .u32 (h.ep : Int), .int .u32 (h.ba : Int), .int .u16 (h.ix : Int), .int .u16 (h.ct : Int), .int .u32 (h.bl : Int), .int .u32 (h.mo : Int), .slice a la ca, .int .i64 x, .int .u32 ((B : Nat) : Int)] 101 (0, 0)]; rfl
  have c7 : W1.cell? ⟨w.heap.size, 7, none⟩ = some (.slice a la ca) := by rw [hW1, World.cell?_alloc_mark w #[.int .u8 (h.ki : Int), .int .u32 (h.ep : Int), .int .u32 (h.ba : Int), .int .u16 (h.ix : Int), .int .u16 (h.ct : Int), .int .u32 (h.bl : Int), .int .u32 (h.mo : Int), .slice a la ca, .int .i64 x, .int .u32 ((B : Nat) : Int)] 101 (0, 0)]; rfl
  have c8 : W1.cell? ⟨w.heap.size, 8, none⟩ = some (.int .i64 x) := by rw [hW1, World.cell?_alloc_mark w #[.int .u8 (h.ki : Int), .int .u32 (h.ep : Int), .int .u32 (h.ba : Int), .int .u16 (h.ix : Int), .int .u16 (h.ct : Int), .int .u32 (h.bl : Int), .int .u32 (h.mo : Int), .slice a la ca, .int .i64 x, .int .u32 ((B : Nat) : Int)] 101 (0, 0)]; rfl
  have c9 : W1.cell? ⟨w.heap.size, 9, none⟩ = some (.int .u32 ((B : Nat) : Int)) := by rw [hW1, World.cell?_alloc_mark w #[.int .u8 (h.ki : Int), .int .u32 (h.ep : Int), .int .u32 (h.ba : Int), .int .u16 (h.ix : Int), .int .u16 (h.ct : Int), .int .u32 (h.bl : Int), .int .u32 (h.mo : Int), .slice a la ca, .int .i64 x, .int .u32 ((B : Nat) : Int)] 101 (0, 0)]; rfl
  have hb1 : Below w.heap.size w W1 := by rw [hW1]; exact bel_alloc (Below.refl _ w) _
  have hz1 : W1.heap.size = w.heap.size + 1 := by rw [hW1]; simp
  rw [← hW1]
  clear hW1
  have HZ1 := Lib.hid hz1
  have n1 : W1.heap.size ≠ w.heap.size := by omega
  clear hz1
  go_region_held3 (fun w' => w'.cell? ⟨w.heap.size, 0, none⟩ = some (.int .u8 (h.ki : Int)) ∧ w'.cell? ⟨w.heap.size, 1, none⟩ = some (.int .u32 (h.ep : Int)) ∧ w'.cell? ⟨w.heap.size, 2, none⟩ = some (.int .u32 (h.ba : Int)) ∧ w'.cell? ⟨w.heap.size, 3, none⟩ = some (.int .u16 (h.ix : Int)) ∧ w'.cell? ⟨w.heap.size, 4, none⟩ = some (.int .u16 (h.ct : Int)) ∧ w'.cell? ⟨w.heap.size, 5, none⟩ = some (.int .u32 (h.bl : Int)) ∧ w'.cell? ⟨w.heap.size, 6, none⟩ = some (.int .u32 (h.mo : Int)) ∧ w'.cell? ⟨w.heap.size, 7, none⟩ = some (.slice a la ca) ∧ w'.cell? ⟨w.heap.size, 8, none⟩ = some (.int .i64 x) ∧ w'.cell? ⟨w.heap.size, 9, none⟩ = some (.int .u32 ((B : Nat) : Int))) (go_keep) (fail)
  obtain ⟨p, hp⟩ : ∃ p, p = W1.heap.size := ⟨_, rfl⟩
  obtain ⟨W2, hW2⟩ : ∃ W2, W2 = (W1.alloc (.cells #[.int .u8 (h.ki : Int), .int .u32 (h.ep : Int), .int .u32 (h.ba : Int), .int .u16 (h.ix : Int), .int .u16 (h.ct : Int), .int .u32 (h.bl : Int), .int .u32 (h.mo : Int)] 86)).drew := ⟨_, rfl⟩
  have hb12 : Below W1.heap.size W1 W2 := by rw [hW2]; exact (bel_alloc (Below.refl _ W1) _).drew
  have hh2 : HdrAt h p W2 := by rw [hW2, hp]; exact hdr_new h W1
  have hz2 : W2.heap.size = p + 1 := by rw [hW2, hp]; show (W1.alloc _).heap.size = _; simp
  have hb2 := bel_trans hb1 hb12
  have hwp : w.heap.size ≤ p := by have := hb1.size; omega
  rw [← hW2, ← hp]
  clear hW2 hp hb12 hb1 HZ1 n1 c0 c1 c2 c3 c4 c5 c6 c7 c8 c9
  go_wp2_with fail
  refine (sealed_any W2).mono ?_
  rintro e w3 ⟨rfl, hb3⟩
  have hh3 := hh2.below hb3 (by omega)
  have hb03 := bel_trans hb2 hb3
  have hz3 := hb3.size
  clear hb2 hb3 hh2
  have hcm' := hcm
  unfold maxLen at hcm'
  by_cases hl5 : la < 5
  · have d1 : decide ((la : Int) < 5) = true := decide_eq_true (by omega)
    go_wp2_with fail
    refine (sealed_any w3).mono ?_
    rintro e w4 ⟨rfl, hb4⟩
    have hb04 := bel_trans hb03 hb4
    go_wp2
    go_ret
    exact ⟨rfl, hb04⟩
  have d1 : decide ((la : Int) < 5) = false := decide_eq_false (by omega)
  by_cases hl : 600 < la
  · have d2 : decide ((600 : Int) < (la : Int)) = true := decide_eq_true (by omega)
    go_wp2_with fail
    refine (sealed_any w3).mono ?_
    rintro e w4 ⟨rfl, hb4⟩
    have hb04 := bel_trans hb03 hb4
    go_wp2
    go_ret
    exact ⟨rfl, hb04⟩
  have d2 : decide ((600 : Int) < (la : Int)) = false := decide_eq_false (by omega)
  by_cases hB0 : B = 0
  · subst hB0
    go_wp2_with fail
    refine (sealed_any w3).mono ?_
    rintro e w4 ⟨rfl, hb4⟩
    have hb04 := bel_trans hb03 hb4
    go_wp2
    go_ret
    exact ⟨rfl, hb04⟩
  have d3 : ((B : Int) == 0) = false := by simp; omega
  obtain ⟨c0, c1, c2, c3, c4, c5, c6⟩ := hh3
  have hrow3 := row_keep hr hb03 (Nat.le_refl _)
  go_wp2_with fail
  have hseal := seal_any h hf a la ca bs none 0 0 [] w3 hrow3 (by omega) ⟨rfl, (fun x hx => by cases hx), fun h => by omega⟩ (by omega) (by unfold maxLen; omega) (fun _ => rfl) (by omega)
  unfold RH.cells at hseal
  refine hseal.mono ?_
  intro e w4 h4
  obtain ⟨a4, k4, rfl, hr4, _, ho4, hb4⟩ := retOwn_len h4
  rw [sealB_len] at hr4 ⊢
  have hk4 : 64 ≤ k4 ∧ k4 ≤ maxLen := by
    rcases ho4.1.2 with ⟨e, h0⟩ | ⟨g, cap, cur, e, _, _, h1, h3, _⟩
    · rw [sealB_len] at h0; omega
    · simp only [Value.slice.injEq] at e
      obtain ⟨_, _, rfl⟩ := e
      rw [sealB_len] at h1
      exact ⟨h1, h3⟩
  have hb04 := bel_trans hb03 hb4
  have hrow4 := row_keep hr hb04 (Nat.le_refl _)
  clear hseal h4 ho4 hb4 hb03 hrow3 c0 c1 c2 c3 c4 c5 c6
  go_wp2_with fail
  refine (part_any a la ca bs w4 hrow4 hlc hcm hn (by omega)).mono ?_
  rintro e w5 ⟨sv, rfl, hown, hb2⟩
  have hlen := hr.1
  obtain ⟨g, gcap, hsv, hBg, hgs, hN, hNm⟩ := ownB_of hown (by omega)
  rw [hlen] at hsv hN
  subst hsv
  have HB05 := Lib.hid (bel_trans hb04 hb2)
  have HLEN := Lib.hid hlen
  have hby := hr.2.1
  have HR5 := Lib.hid (row_keep hr4 hb2 (Nat.le_refl _))
  have HZ04 : Hid (w.heap.size ≤ w4.heap.size) := Lib.hid hb04.size
  have HZ45 : Hid (w4.heap.size ≤ w5.heap.size) := Lib.hid hb2.size
  have HR4 : Hid (∀ wr, Below w4.heap.size w5 wr → Row wr a4 64 (sealB h bs [])) := Lib.hid fun wr hb => row_keep hr4 (hb2.trans hb) (Nat.le_refl _)
  clear hown hb2 hlen hNm hb04 hrow4 hr4
  obtain ⟨r, hrr, hrl⟩ := at_row x la (by omega) (by omega)
  have HRR := Lib.hid hrr
  clear hrr
  have hbel : Below w4.heap.size w5 w5 := Below.refl _ _
  go_wp2
  rw [HRR.out]
  clear HRR
  go_loopw [9] (fun i wr => ∃ (k : Nat) (l : List Nat), k ≤ 32 ∧ i = .int .i64 k ∧ OwnB w4.heap.size wr g la gcap l ∧ Hid (Crc.val l = Crc.val bs ^^^ (2 ^ r * (B % 2 ^ k))) ∧ Below w4.heap.size w5 wr ∧ g < wr.heap.size) (fun i _ => 32 - (intOf i).toNat)
  case atStart => exact ⟨0, bs, by omega, rfl, hN, Lib.hid (by simp [Nat.mod_one]), hbel, hgs⟩
  case round =>
    obtain ⟨k, l, hk, rfl, hN2, HV, hbel2, hgs2⟩ := hrel
    clear hN hbel hgs
    by_cases hlt : k < 32
    · by_cases hb : B / 2 ^ k % 2 = 1
      · have ht : (bits BinOp.and IntKind.u32 ((B : Int) / 2 ^ k) 1 == 1) = true := by rw [bit_test B k hB]; exact decide_eq_true hb
        have hlen := HLEN.out
        have hj : (r + k) / 8 < la := by omega
        have HST := Lib.hid (Crc.turn_step hN2.1.2 (by rw [hN2.2]; omega) HV.out hb)
        have e1 := quo_wrap (r := r) (k := k) (by omega)
        have e2 := rem_plain r k
        have hs8 : (r + k) % 8 < 8 := Nat.mod_lt _ (by omega)
        obtain ⟨q, hq⟩ : ∃ q, q = (r + k) / 8 := ⟨_, rfl⟩
        obtain ⟨s, hs⟩ : ∃ s, s = (r + k) % 8 := ⟨_, rfl⟩
        rw [← hq] at hj e1 HST
        rw [← hs] at e2 hs8 HST
        clear hq hs hb hlen
        have hcj := ownB_cell hN2 q hj
        have hfj := ownB_frozen hN2 q
        have hyb := getD_lt hN2.1.2 q
        obtain ⟨y, hy⟩ : ∃ y, y = l.getD q 0 := ⟨_, rfl⟩
        rw [← hy] at hcj hyb HST
        have hj0 : (0 : Int) ≤ (q : Int) := by omega
        have hj1 : (q : Int) < (la : Int) := by omega
        have hs0 : (0 : Int) ≤ (s : Int) := by omega
        clear hy
        go_wp2
        go_still_tail 13, (by kernel_rfl)
        change wpList _ _ _ _ _ wr.drew
        rw [xor_pow y s hyb hs8]
        have hnb : y ^^^ 2 ^ s < 256 := xor_pow_lt y s hyb hs8
        clear e1 e2
        generalize y ^^^ 2 ^ s = z at *
        go_wp2
        go_roundw
        case rel => exact ⟨k + 1, l.set q z, by omega, by go_num, ownB_set hN2 q z hnb, HST, (hbel2.setCell hBg _).drew, by simpa using hgs2⟩
        case measure => simp [intOf]; omega
      · have ht : (bits BinOp.and IntKind.u32 ((B : Int) / 2 ^ k) 1 == 1) = false := by rw [bit_test B k hB]; exact decide_eq_false hb
        have HST := Lib.hid (Crc.stay_step HV.out hb)
        clear hb
        go_wp2
        go_roundw
        case rel => exact ⟨k + 1, l, by omega, by go_num, hN2, HST, hbel2, hgs2⟩
        case measure => simp [intOf]; omega
    · have h32 : k = 32 := by omega
      have hv := HV.out
      rw [h32, show B % 2 ^ 32 = B by omega] at hv
      have hlen := HLEN.out
      have hno : ¬ OpenOk l (sealB h bs []) := not_open_turned hf (by rw [hN2.2]; exact hlen) hby hN2.1.2 (fun x hx => by cases hx) r B hv hB (by omega) (by omega)
      have hoz : openH l (sealB h bs []) = RH.zero := by unfold openH; rw [if_neg hno]
      have HNO := Lib.hid (decide_eq_false hno)
      have HOZ := Lib.hid hoz
      have hro := HR4.out wr hbel2
      have HB0 : Hid (Below w.heap.size w wr) := Lib.hid (HB05.out.trans (hbel2.mono HZ04.out))
      have hrl2 := row_ownB hN2
      clear h32 hv hlen hno hoz
      go_wp2_with fail
      refine (open_any (some ⟨g, 0, none⟩) la gcap l a4 64 k4 _ wr hrl2 (by omega) hro hk4.1 hk4.2).mono ?_
      rintro e w8 ⟨rfl, hb8⟩
      rw [HNO.out, HOZ.out]
      have hb08 := bel_trans HB0.out hb8
      unfold RH.zero RH.cells
      go_wp2
      go_ret
      exact ⟨rfl, bel_alloc hb08 _⟩

end Go.Proofs.Ytjnjkoodeacpdaa
