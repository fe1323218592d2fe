/- gabionlaw05.sealed. -/
import Derived.Test.YtbfmpcomjmcfjaaROpen
import Derived.Test.YtbfmpcomjmcfjaaREq
import Derived.Test.YtbfmpcomjmcfjaaTop
import Derived.Lib.SlBytesConst
namespace Go.Proofs.Ytbfmpcomjmcfjaa
open Go.RowKit

def h0 : RH := ⟨4, 3, 0, 0, 0, 9, 0⟩
theorem h0_fits : h0.Fits := ⟨by decide, by decide, by decide, by decide, by decide, by decide, by decide⟩
theorem abc_row (w : World) : Row (w.alloc (.cells #[.int .u8 97, .int .u8 98, .int .u8 99] 5 (3, 4))) (some ⟨w.heap.size, 0, none⟩) 3 [97, 98, 99] := by
  refine ⟨rfl, fun x hx => by simp at hx; omega, fun _ => ⟨_, 0, rfl, fun i hi => ?_⟩⟩
  rcases (by omega : i = 0 ∨ i = 1 ∨ i = 2) with rfl | rfl | rfl
  all_goals (rw [World.cell?_alloc_mark w #[.int .u8 97, .int .u8 98, .int .u8 99] 5 (3, 4)]; rfl)
theorem sealed_start {w W1 : World} (e : W1 = (w.alloc (.cells #[.int .u8 97, .int .u8 98, .int .u8 99] 5 (3, 4))).alloc (.cells #[.int .u8 4, .int .u32 3, .int .u32 0, .int .u16 0, .int .u16 0, .int .u32 9, .int .u32 0] 86)) :
    Below w.heap.size w W1 ∧ Row W1 (some ⟨w.heap.size, 0, none⟩) 3 [97, 98, 99] ∧ HdrAt h0 (w.heap.size + 1) W1 ∧ W1.heap.size = w.heap.size + 2 := by
  subst e
  have h1 := hdr_new h0 (w.alloc (.cells #[.int .u8 97, .int .u8 98, .int .u8 99] 5 (3, 4)))
  have hz : (w.alloc (.cells #[.int .u8 97, .int .u8 98, .int .u8 99] 5 (3, 4))).heap.size = w.heap.size + 1 := by simp
  rw [hz] at h1
  exact ⟨bel_alloc (bel_alloc (Below.refl _ w) _) _, row_alloc (abc_row w) _, h1, by simp⟩
/-- So many 255s, noughts behind. -/
def fill255 (k : Nat) : List Nat := List.replicate k 255 ++ List.replicate (64 - k) 0
theorem fill255_len {k : Nat} (h : k ≤ 64) : (fill255 k).length = 64 := by simp [fill255]; omega
theorem fill255_set {k : Nat} (h : k < 64) : (fill255 k).set k 255 = fill255 (k + 1) := by
  unfold fill255
  have h1 : (List.replicate k 255 : List Nat).length = k := by simp
  rw [List.set_append_right _ _ (by simp), h1, Nat.sub_self, show 64 - k = (64 - (k + 1)) + 1 by omega, List.replicate_succ, List.set_cons_zero, List.replicate_succ', List.append_assoc]
  rfl
theorem fill255_all : fill255 64 = List.replicate 64 255 := by simp [fill255]
theorem open255 : ¬ OpenOk (List.replicate 64 255) (List.replicate 64 255) := fun h => by
  have h1 := h.2.2.1
  revert h1
  decide
theorem blank255 : blankB (List.replicate 64 255) = true := by decide
theorem blankabc : blankB [97, 98, 99] = false := by decide

set_option maxRecDepth 100000 in
set_option maxHeartbeats 1600000 in
theorem sealed_any (w : World) : Calls Try.prog 42 #[] w fun e w' => e = .returned (.bool true) ∧ Below w.heap.size w w' := by
  obtain ⟨i0, hi, hq0, hq1, hq2⟩ := info_parts info_u8
  have kc := fun (w : World) (C : Array Value) (n c : Nat) => Lib.run_convert_bytes_const (P := Try.prog) w 57 5 C n c Try.underlying57 Try.underlying5
  go_enter Try.func42, Try.ntmps42
  go_wp2_with fail
  obtain ⟨W1, hW1⟩ : ∃ W1, W1 = (w.alloc (.cells #[.int .u8 97, .int .u8 98, .int .u8 99] 5 (3, 4))).alloc (.cells #[.int .u8 4, .int .u32 3, .int .u32 0, .int .u16 0, .int .u16 0, .int .u32 9, .int .u32 0] 86) := ⟨_, rfl⟩
  obtain ⟨hb1, hd1, hh1, hz1⟩ := sealed_start hW1
  rw [← hW1]
  clear hW1 kc
  refine (seal_any h0 h0_fits (some ⟨w.heap.size, 0, none⟩) 3 3 [97, 98, 99] none 0 0 [] W1 hd1 (by omega) ⟨rfl, (fun x hx => by cases hx), fun h => by omega⟩ (by omega) (by unfold maxLen; omega) (fun _ => rfl) (by omega)).mono ?_
  intro e w2 h2
  obtain ⟨a2, k2, rfl, hr2, _, ho2, hb2⟩ := retOwn_len h2
  obtain ⟨L, hL⟩ : ∃ L, (sealB h0 [97, 98, 99] []).length = L := ⟨_, rfl⟩
  have hL64 : L = 64 := by rw [← hL]; exact sealB_len _ _ _
  have hk2 : 64 ≤ k2 ∧ k2 ≤ maxLen := by
    rcases ho2.1.2 with ⟨e, h0⟩ | ⟨g, cap, cur, e, _, _, h1, h3, _⟩
    · rw [sealB_len] at h0; omega
    · simp only [Value.slice.injEq] at e
      obtain ⟨_, _, rfl⟩ := e
      rw [sealB_len] at h1
      exact ⟨h1, h3⟩
  rw [hL, hL64] at hr2 ⊢
  have hd2 := row_keep hd1 hb2 (Nat.le_refl _)
  have hh2 := hh1.below hb2 (by omega)
  have hb02 := bel_trans hb1 hb2
  have hz2 := hb2.size
  clear h2 ho2 hL hL64 hb1 hb2 hd1 hh1
  go_wp2_with fail
  refine (open_any (some ⟨w.heap.size, 0, none⟩) 3 3 [97, 98, 99] a2 64 k2 (sealB h0 [97, 98, 99] []) w2 hd2 (by omega) hr2 hk2.1 hk2.2).mono ?_
  rintro e w3 ⟨rfl, hb3⟩
  have hk : 1 ≤ h0.ki ∧ h0.ki ≤ 6 := by decide
  rw [openH_seal h0_fits _ _ hk, decide_eq_true ((openOk_seal h0_fits _ _).2 hk)]
  have hd3 := row_keep hd2 hb3 (Nat.le_refl _)
  have hh3 := hh2.below hb3 (by omega)
  have hb03 := bel_trans hb02 hb3
  have hz3 := hb3.size
  clear hb02 hb3 hd2 hh2 hk hr2 hk2
  have hxh := hdr_new h0 w3
  obtain ⟨W4, hW4⟩ : ∃ W4, W4 = w3.alloc (.cells #[.int .u8 4, .int .u32 3, .int .u32 0, .int .u16 0, .int .u16 0, .int .u32 9, .int .u32 0] 86) := ⟨_, rfl⟩
  have hb34 : Below w3.heap.size w3 W4 := by rw [hW4]; exact bel_alloc (Below.refl _ w3) _
  have hz4 : W4.heap.size = w3.heap.size + 1 := by rw [hW4]; simp
  have hxh4 : HdrAt h0 w3.heap.size W4 := by rw [hW4]; exact hxh
  have hd4 := row_keep hd3 hb34 (Nat.le_refl _)
  have hh4 := hh3.below hb34 (by omega)
  have hb04 := bel_trans hb03 hb34
  clear hb03 hd3 hh3 hxh hb34
  unfold h0 RH.cells
  go_wp2_with (refine wpList_make_full _ rfl _ _ 57 rfl (w3.heap.size + 1) 5 i0 (.int .u8 0) 1 Try.underlying57 hi hq0 hq1 .i64 .i64 _ _ 64 rfl rfl ?c4 ?c5 ?c1 ?c2 ?c3 ?_)
  case c4 => rfl
  case c5 => rfl
  case c1 => rw [hq2]; omega
  case c2 => unfold maxLen; omega
  case c3 => simp
  intro W5 hown hg
  have hb45 : Below W4.heap.size W4 W5 := by rw [hW4]; exact (Below.refl _ _).grown hg (Nat.le_refl _) (fun k hk => by cases hk)
  have hB5 : OwnB (w3.heap.size + 1) W5 (w3.heap.size + 1) 64 64 (fill255 0) := ⟨own_zeros hown, rfl⟩
  have hd5 := row_keep hd4 hb45 (Nat.le_refl _)
  have hh5 := hh4.below hb45 (by omega)
  have hx5 := hxh4.below hb45 (by omega)
  have hb05 := bel_trans hb04 hb45
  obtain ⟨g, hgg⟩ : ∃ g, g = w3.heap.size + 1 := ⟨_, rfl⟩
  have hz5 : g < W5.heap.size := by
    have h9 := own_base hB5.1 (w3.heap.size + 1) rfl
    omega
  have hx3 : w3.heap.size < g := by omega
  have hx2 : w.heap.size + 1 < w3.heap.size := by omega
  obtain ⟨px, hpx⟩ : ∃ px, px = w3.heap.size := ⟨_, rfl⟩
  rw [← hgg] at hB5 ⊢
  rw [← hpx] at hx5 hx3 hx2 ⊢
  have HD5 := Lib.hid hd5
  have HH5 := Lib.hid hh5
  have HX5 := Lib.hid hx5
  have HB05 := Lib.hid hb05
  clear hW4 hgg hpx hown hg hb45 hd4 hh4 hxh4 hb04 hz4 hz3 hz2 hz1 hd5 hh5 hx5 hb05 hi hq0 hq1 hq2
  go_wp2
  go_loopw [6] (fun i wr => ∃ k : Nat, k ≤ 64 ∧ i = .int .i64 (k : Int) ∧ OwnB g wr g 64 64 (fill255 k) ∧ Below g W5 wr) (fun i _ => 64 - (intOf i).toNat)
  case atStart => exact ⟨0, by omega, rfl, hB5, Below.refl _ _⟩
  case round =>
    obtain ⟨k, hk, rfl, hB, hb⟩ := hrel
    by_cases hlt : k < 64
    · have hki : (k : Int) < 64 := by omega
      have hk0 : (0 : Int) ≤ (k : Int) := by omega
      have hc := ownB_cell hB k hlt
      have hf := ownB_frozen hB k
      have hB2 := ownB_set hB k 255 (by omega)
      rw [fill255_set hlt] at hB2
      have hb2 := hb.setCell (p := ⟨g, k, none⟩) (Nat.le_refl _) (.int .u8 255)
      have HB2 := Lib.hid hB2
      have Hb2 := Lib.hid hb2
      clear hB2 hb2 hB hb
      go_wp2
      go_roundw
      case rel => exact ⟨k + 1, by omega, by go_num, HB2.out, Hb2.out⟩
      case measure => simp [intOf]; omega
    · obtain rfl : k = 64 := by omega
      rw [fill255_all] at hB
      have hrb := row_ownB hB
      have hdr := row_below HD5.out hb (fun x hx => by cases hx; show w.heap.size < g; omega)
      have hhr := HH5.out.below hb (show w.heap.size + 1 < g by omega)
      have hxr := HX5.out.below hb (show px < g by omega)
      have hb0 : Below w.heap.size w wr := HB05.out.trans (hb.mono (by omega))
      have hzr : g < wr.heap.size := Nat.lt_of_lt_of_le hz5 hb.size
      clear hB hb
      go_wp2_with fail
      refine (open_any (some ⟨g, 0, none⟩) 64 64 (List.replicate 64 255) (some ⟨g, 0, none⟩) 64 64 (List.replicate 64 255) wr hrb (by omega) hrb (by omega) (by unfold maxLen; omega)).mono ?_
      rintro e w6 ⟨rfl, hb6⟩
      have hoz : openH (List.replicate 64 255) (List.replicate 64 255) = RH.zero := by unfold openH; rw [if_neg open255]
      rw [hoz, decide_eq_false open255]
      have hb06 := bel_trans hb0 hb6
      have hrb6 := row_keep hrb hb6 (Nat.le_refl _)
      have hdr6 := row_keep hdr hb6 (Nat.le_refl _)
      have hhr6 := hhr.below hb6 (by omega)
      have hxr6 := hxr.below hb6 (by omega)
      have hz6 := hb6.size
      clear hoz hb6 hrb hdr hhr hxr hb0
      unfold RH.zero RH.cells
      have b7 := fun o => bel_alloc (Below.refl _ w6) o
      have hb07 := fun o => bel_trans hb06 (b7 o)
      have hrb7 := fun o => row_keep hrb6 (b7 o) (Nat.le_refl _)
      have hdr7 := fun o => row_keep hdr6 (b7 o) (Nat.le_refl _)
      obtain ⟨c0, c1, c2, c3, c4, c5, c6⟩ := hhr6.below (b7 (.cells #[.int .u8 0, .int .u32 0, .int .u32 0, .int .u16 0, .int .u16 0, .int .u32 0, .int .u32 0] 86)) (by omega)
      obtain ⟨d0, d1, d2, d3, d4, d5, d6⟩ := hxr6.below (b7 (.cells #[.int .u8 0, .int .u32 0, .int .u32 0, .int .u16 0, .int .u16 0, .int .u32 0, .int .u32 0] 86)) (by omega)
      have hq := eql_hdr h0 h0
      have hs0 := eqH_self h0
      rw [hs0] at hq
      clear b7 hb06 hrb6 hdr6 hhr6 hxr6 hs0
      unfold h0 RH.cells at hq
      unfold h0 at c0 c1 c2 c3 c4 c5 c6 d0 d1 d2 d3 d4 d5 d6
      have HB7 := Lib.hid hb07
      have HRB7 := Lib.hid hrb7
      have HDR7 := Lib.hid hdr7
      clear hb07 hrb7 hdr7
      go_wp2_with fail
      refine (Blank_any (some ⟨g, 0, none⟩) 64 64 (List.replicate 64 255) (some ⟨g, 0, none⟩) 64 64 (List.replicate 64 255) _ (HRB7.out _) (by omega) (HRB7.out _) (by omega)).mono ?_
      rintro e w8 ⟨rfl, rfl⟩
      rw [blank255]
      simp only [Bool.and_self]
      go_wp2_with fail
      refine (Blank_any (some ⟨w.heap.size, 0, none⟩) 3 3 [97, 98, 99] (some ⟨g, 0, none⟩) 64 64 (List.replicate 64 255) _ (HDR7.out _) (by omega) (HRB7.out _) (by omega)).mono ?_
      rintro e w8 ⟨rfl, rfl⟩
      rw [blankabc]
      simp only [Bool.false_and]
      go_wp2
      go_ret
      exact ⟨rfl, HB7.out _⟩

end Go.Proofs.Ytbfmpcomjmcfjaa
