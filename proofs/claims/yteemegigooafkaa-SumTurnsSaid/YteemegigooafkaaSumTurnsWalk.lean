/- SumTurns: the walk. -/
import Derived.Test.YteemegigooafkaaSumKnown
import Derived.Test.YteemegigooafkaaRefPart
import Derived.Test.YteemegigooafkaaFrame
import Derived.Test.YteemegigooafkaaTurn
import Derived.StillTailTactics
namespace Go.Proofs.Yteemegigooafkaa
open Go.RowKit

theorem wf_u32 {x : Int} (h : (Lit.int .u32 x).wf = true) : ∃ n : Nat, x = (n : Int) ∧ n < 4294967296 := by
  have hm : IntKind.u32.min = 0 := by decide
  have hM : IntKind.u32.max = 4294967295 := by decide
  simp [Lit.wf, hm, hM] at h
  exact ⟨x.toNat, by omega, by omega⟩
theorem wf_u64 {x : Int} (h : (Lit.int .u64 x).wf = true) : ∃ n : Nat, x = (n : Int) ∧ n < 18446744073709551616 := by
  have hm : IntKind.u64.min = 0 := by decide
  have hM : IntKind.u64.max = 18446744073709551615 := by decide
  simp [Lit.wf, hm, hM] at h
  exact ⟨x.toNat, by omega, by omega⟩

set_option maxRecDepth 100000 in
set_option maxHeartbeats 400000 in
theorem sumTurns_known (a : Option Addr) (la ca : Nat) (x : Int) (B : Nat) (w : World) (h : la < 5 ∨ 400 < la ∨ B = 0) (ha : la ≤ maxLen) :
    Calls Try.prog 13 #[.slice a la ca, .int .i64 x, .int .u32 (B : Int)] w fun e w' => e = .returned (.bool true) ∧ Below w.heap.size w w' := by
  unfold maxLen at ha
  rcases (show la < 5 ∨ (5 ≤ la ∧ 400 < la) ∨ (5 ≤ la ∧ la ≤ 400 ∧ B = 0) by omega) with h | ⟨h1, h2⟩ | ⟨h1, h2, rfl⟩
  all_goals
    go_enter Try.func13, Try.ntmps13
    go_wp2_with fail
    refine (known_any _).mono ?_
    rintro e w1 ⟨rfl, hb1⟩
    go_wp2_with fail
    refine (known_any _).mono ?_
    rintro e w2 ⟨rfl, hb2⟩
    go_wp2
    go_ret
    exact ⟨rfl, bel_trans hb1 hb2⟩

theorem at_val (x : Int) (la : Nat) (h1 : 5 ≤ la) (h2 : la ≤ 400) : ∃ r : Nat, wrap64 ((IntKind.u64.wrap x).tmod (8 * (la : Int) - 32)) = (r : Int) ∧ r < 8 * la - 32 := by
  have h0 := wrap_u64_nonneg x
  have e : (IntKind.u64.wrap x).tmod (8 * (la : Int) - 32) = (IntKind.u64.wrap x) % (8 * (la : Int) - 32) := Int.tmod_eq_emod_of_nonneg h0
  have h3 := Int.emod_nonneg (IntKind.u64.wrap x) (show (8 * (la : Int) - 32) ≠ 0 by omega)
  have h4 := Int.emod_lt_of_pos (IntKind.u64.wrap x) (show 0 < (8 * (la : Int) - 32) by omega)
  rw [e]
  generalize IntKind.u64.wrap x % (8 * (la : Int) - 32) = m at *
  refine ⟨m.toNat, ?_, by omega⟩
  rw [IntWalk.wrap64_in m ⟨by omega, by omega⟩]
  omega

/-- Bytes of the call's own at a known place. -/
def OwnB (B : Nat) (w : World) (g n cap : Nat) (l : List Nat) : Prop := Own B w (.slice (some ⟨g, 0, none⟩) n cap) l ∧ l.length = n
theorem ownB_of {B : Nat} {w : World} {sv : Value} {l : List Nat} (h : Own B w sv l) (h0 : 0 < l.length) : ∃ g cap, sv = .slice (some ⟨g, 0, none⟩) l.length cap ∧ B ≤ g ∧ g < w.heap.size ∧ OwnB B w g l.length cap l ∧ l.length ≤ maxLen := by
  have hlt := own_base h
  have h' := h
  rcases h.1.2 with ⟨_, h2⟩ | ⟨g, cap, cur, rfl, hb, _, hc1, hc2, _⟩
  · omega
  · have := hlt g rfl
    exact ⟨g, cap, rfl, hb, this.2, ⟨h', rfl⟩, Nat.le_trans hc1 hc2⟩
theorem ownB_cell {B : Nat} {w : World} {g n cap : Nat} {l : List Nat} (h : OwnB B w g n cap l) (j : Nat) (hj : j < n) : w.cell? ⟨g, j, none⟩ = some (.int .u8 ((l.getD j 0 : Nat) : Int)) := by
  have hl := h.2
  obtain ⟨h1, _⟩ := h
  have h2 := h1.1
  rw [hl] at h2
  rw [h2.cellAt j (by omega), List.getElem?_map, List.getElem?_eq_getElem (by omega), getD_in _ _ (by omega)]
  rfl
theorem ownB_frozen {B : Nat} {w : World} {g n cap : Nat} {l : List Nat} (h : OwnB B w g n cap l) (j : Nat) : w.frozen? ⟨g, j, none⟩ = false := by
  have h2 := h.1.1
  rw [h.2] at h2
  exact h2.frozenAt j
theorem ownB_set {B : Nat} {w : World} {g n cap : Nat} {l : List Nat} (h : OwnB B w g n cap l) (j y : Nat) (hy : y < 256) : OwnB B (w.setCell ⟨g, j, none⟩ (.int .u8 (y : Int))) g n cap (l.set j y) := by
  have h2 := h.1.1
  rw [h.2] at h2
  refine ⟨⟨?_, Crc.set_lt _ _ _ h.1.2 hy⟩, by rw [List.length_set]; exact h.2⟩
  rw [List.map_set, List.length_set, h.2]
  exact (h2.stored j (u8v y)).1

theorem bit_test (B k : Nat) (hB : B < 4294967296) : (bits BinOp.and IntKind.u32 ((B : Int) / 2 ^ k) 1 == 1) = decide (B / 2 ^ k % 2 = 1) := by
  have h := odd_test (B / 2 ^ k) (Nat.lt_of_le_of_lt (Nat.div_le_self _ _) hB)
  rw [← h]
  simp
theorem quo_wrap {r k : Nat} (h : r + k < 100000) : IntKind.i64.wrap (((r : Int) + (k : Int)).tdiv 8) = (((r + k) / 8 : Nat) : Int) := by
  rw [Int.tdiv_eq_ediv_of_nonneg (by omega), IntKind.wrap_i64]; omega
theorem rem_plain (r k : Nat) : ((r : Int) + (k : Int)).tmod 8 = (((r + k) % 8 : Nat) : Int) := by
  rw [Int.tmod_eq_emod_of_nonneg (by omega)]; omega
theorem pow_lt8 (s : Nat) (h : s < 8) : 2 ^ s < 256 := by
  have h1 : 2 ^ s ≤ 2 ^ 7 := Nat.pow_le_pow_right (by omega) (by omega)
  omega
theorem xor_pow (y s : Nat) (hy : y < 256) (hs : s < 8) : bits BinOp.xor IntKind.u8 (y : Int) (IntKind.u8.wrap (2 ^ s)) = ((y ^^^ 2 ^ s : Nat) : Int) := by
  have h1 := pow_lt8 s hs
  have h2 : IntKind.u8.wrap (2 ^ s) = ((2 ^ s : Nat) : Int) := by
    have e : ((2 : Int) ^ s) = ((2 ^ s : Nat) : Int) := by simp
    rw [IntKind.wrap_u8, e]
    clear e
    generalize 2 ^ s = p at h1 ⊢
    omega
  rw [h2]
  exact u8_xor_nat y (2 ^ s) hy h1
theorem xor_pow_lt (y s : Nat) (hy : y < 256) (hs : s < 8) : y ^^^ 2 ^ s < 256 := Nat.xor_lt_two_pow (n := 8) hy (pow_lt8 s hs)
theorem neq_true_of {x y : Nat} (h : x ≠ y) : ((x : Int) != (y : Int)) = true := by
  rw [bne_iff_ne]; omega
theorem row_ownB {B : Nat} {w : World} {g n cap : Nat} {l : List Nat} (h : OwnB B w g n cap l) : Row w (some ⟨g, 0, none⟩) n l :=
  ⟨h.2, h.1.2, fun _ => ⟨g, 0, rfl, fun i hi => by rw [Nat.zero_add]; exact ownB_cell h i hi⟩⟩
theorem own_monoB {B B' : Nat} {w : World} {g n cap : Nat} {l : List Nat} (h : OwnB B w g n cap l) (hB : B' ≤ B) : OwnB B' w g n cap l := ⟨own_mono h.1 hB, h.2⟩

set_option maxRecDepth 100000 in
set_option maxHeartbeats 400000 in
theorem sumTurns_main (a : Option Addr) (la ca : Nat) (bs : List Nat) (x : Int) (B : Nat) (w : World) (hin : InB w a la ca bs) (h1 : 5 ≤ la) (h2 : la ≤ 400) (h3 : 0 < B) (hB : B < 4294967296) :
    Calls Try.prog 13 #[.slice a la ca, .int .i64 x, .int .u32 (B : Int)] w fun e w' => e = .returned (.bool true) ∧ Below w.heap.size w w' := by
  obtain ⟨hr, hlc, hcm, hn⟩ := hin
  have hcm' := hcm
  unfold maxLen at hcm
  have hd1 : decide ((la : Int) < 5) = false := by simp; omega
  have hd2 : decide ((400 : Int) < (la : Int)) = false := by simp; omega
  have hd3 : ((B : Int) == 0) = false := by simp; omega
  go_enter Try.func13, Try.ntmps13
  go_wp2_with fail
  refine (known_any _).mono ?_
  rintro e w1 ⟨rfl, hb1⟩
  have hr1 := row_keep hr hb1 (Nat.le_refl _)
  go_wp2_with fail
  obtain ⟨r, hrr, hrl⟩ := at_val x la h1 h2
  rw [hrr]
  clear hrr
  generalize (IntKind.u64.wrap x).tmod (8 * (la : Int) - 32) = ut
  generalize IntKind.u64.wrap x = ux
  refine (part_any a la ca bs _ hr1 hlc hcm' hn (by omega)).mono ?_
  rintro e w2 ⟨sv, rfl, hown, hb2⟩
  have hlen := hr.1
  obtain ⟨g, gcap, hsv, hBg, hgs, hN, hNm⟩ := ownB_of hown (by omega)
  rw [hlen] at hsv hN
  subst hsv
  have hbel : Below w.heap.size w w2 := bel_trans hb1 hb2
  have hN := own_monoB hN hb1.size
  have hBg := Nat.le_trans hb1.size hBg
  have HLEN := Lib.hid hlen
  have hby := hr.2.1
  clear hown hb2 hlen hNm hb1 hr1
  go_wp2
  obtain ⟨wo, hwo⟩ : ∃ wo : World, wo = w2 := ⟨_, rfl⟩
  rw [← hwo] at hN hbel hgs ⊢
  clear hwo
  go_loopw [8] (fun i wr => ∃ (k : Nat) (l : List Nat), k ≤ 32 ∧ i = .int .i64 k ∧ OwnB w.heap.size wr g la gcap l ∧ Hid (Crc.val l = Crc.val bs ^^^ (2 ^ r * (B % 2 ^ k))) ∧ Below w.heap.size w wr ∧ g < wr.heap.size) (fun i _ => 32 - (intOf i).toNat)
  case atStart => exact ⟨0, bs, by omega, rfl, hN, Lib.hid (by simp [Nat.mod_one]), hbel, hgs⟩
  case round =>
    obtain ⟨k, l, hk, rfl, hN2, HV, hbel2, hgs2⟩ := hrel
    clear hN hbel hgs
    by_cases hlt : k < 32
    · by_cases hb : B / 2 ^ k % 2 = 1
      · have ht : (bits BinOp.and IntKind.u32 ((B : Int) / 2 ^ k) 1 == 1) = true := by rw [bit_test B k hB]; exact decide_eq_true hb
        have hlen := HLEN.out
        have hj : (r + k) / 8 < la := by omega
        have HST := Lib.hid (Crc.turn_step hN2.1.2 (by rw [hN2.2]; omega) HV.out hb)
        have e1 := quo_wrap (r := r) (k := k) (by omega)
        have e2 := rem_plain r k
        have hs8 : (r + k) % 8 < 8 := Nat.mod_lt _ (by omega)
        obtain ⟨q, hq⟩ : ∃ q, q = (r + k) / 8 := ⟨_, rfl⟩
        obtain ⟨s, hs⟩ : ∃ s, s = (r + k) % 8 := ⟨_, rfl⟩
        rw [← hq] at hj e1 HST
        rw [← hs] at e2 hs8 HST
        clear hq hs hb hlen
        have hcj := ownB_cell hN2 q hj
        have hfj := ownB_frozen hN2 q
        have hyb := getD_lt hN2.1.2 q
        obtain ⟨y, hy⟩ : ∃ y, y = l.getD q 0 := ⟨_, rfl⟩
        rw [← hy] at hcj hyb HST
        have hj0 : (0 : Int) ≤ (q : Int) := by omega
        have hj1 : (q : Int) < (la : Int) := by omega
        have hs0 : (0 : Int) ≤ (s : Int) := by omega
        clear hy
        go_wp2
        go_still_tail 13, (by kernel_rfl)
        change wpList _ _ _ _ _ wr.drew
        rw [xor_pow y s hyb hs8]
        have hnb : y ^^^ 2 ^ s < 256 := xor_pow_lt y s hyb hs8
        clear e1 e2
        generalize y ^^^ 2 ^ s = z at *
        go_wp2
        go_roundw
        case rel => exact ⟨k + 1, l.set q z, by omega, by go_num, ownB_set hN2 q z hnb, HST, (hbel2.setCell hBg _).drew, by simpa using hgs2⟩
        case measure => simp [intOf]; omega
      · have ht : (bits BinOp.and IntKind.u32 ((B : Int) / 2 ^ k) 1 == 1) = false := by rw [bit_test B k hB]; exact decide_eq_false hb
        have HST := Lib.hid (Crc.stay_step HV.out hb)
        clear hb
        go_wp2
        go_roundw
        case rel => exact ⟨k + 1, l, by omega, by go_num, hN2, HST, hbel2, hgs2⟩
        case measure => simp [intOf]; omega
    · have h32 : k = 32 := by omega
      have hv := HV.out
      rw [h32, show B % 2 ^ 32 = B by omega] at hv
      have hlen := HLEN.out
      have HNE := Lib.hid (neq_true_of (Crc.turns bs l (by rw [hN2.2]; exact hlen) hby hN2.1.2 r B hv hB (by omega) (by omega)))
      have hr2 := row_keep hr hbel2 (Nat.le_refl _)
      have hrl2 := row_ownB hN2
      have hla : la ≤ maxLen := by unfold maxLen; omega
      clear h32 hv hlen
      go_wp2_with fail
      refine (of_one _ 0 _ _ la gcap l _ (cell_new1 _ _ _) hla (row_alloc hrl2 _)).mono ?_
      rintro e w' ⟨rfl, rfl⟩
      go_wp2_with fail
      refine (of_one (wr.heap.size + 1) 0 _ a la ca bs _ (cell_new1_at (by simp)) hla (row_alloc (row_alloc hr2 _) _)).mono ?_
      rintro e w' ⟨rfl, rfl⟩
      go_wp2
      go_ret
      exact ⟨ret_bool HNE.out, bel_alloc (bel_alloc hbel2 _) _⟩

theorem sumTurns_walk (a : Option Addr) (la ca : Nat) (bs : List Nat) (x y : Int) (w : World) (hin : InB w a la ca bs) (_ : (Lit.int .i64 x).wf = true) (hy : (Lit.int .u32 y).wf = true) :
    Calls Try.prog 13 #[.slice a la ca, .int .i64 x, .int .u32 y] w fun e w' => e = .returned (.bool true) ∧ Below w.heap.size w w' := by
  obtain ⟨B, rfl, hB⟩ := wf_u32 hy
  by_cases h : la < 5 ∨ 400 < la ∨ B = 0
  · exact sumTurns_known a la ca x B w h (Nat.le_trans hin.2.1 hin.2.2.1)
  · exact sumTurns_main a la ca bs x B w hin (by omega) (by omega) (by omega) hB

end Go.Proofs.Yteemegigooafkaa
