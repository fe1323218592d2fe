/- The contract of gabionref02.Of. -/
import Derived.Test.YthgcjiocelcblaaGreatK13
import Derived.Test.YthgcjiocelcblaaGreatK15
import Derived.Test.YthgcjiocelcblaaGreatK02
import Derived.Deep.DeepCutAuto
import Derived.Test.YthgcjiocelcblaaGreatK03
import Derived.Test.YthgcjiocelcblaaGreatK17
namespace Go.Proofs.YthgcjiocelcblaaGreat
open Go.RowKit

theorem step_odd' {k m S : Nat} (hk : k < 8) (hm : m < 4294967296) (hs : Crc.stps (8 - k) m = S) (h1 : m % 2 = 1) :
    Crc.stps (8 - (k + 1)) (m / 2 ^^^ 2197175160) = S ∧ m / 2 ^^^ 2197175160 < 4294967296 := by
  have h2 : Crc.stp m = m / 2 ^^^ 2197175160 := by unfold Crc.stp; rw [if_pos h1]
  rw [show 8 - k = (8 - (k + 1)) + 1 by omega] at hs
  exact ⟨by rw [← h2]; exact hs, by rw [← h2]; exact Crc.stp_lt hm⟩
theorem step_even' {k m S : Nat} (hk : k < 8) (hs : Crc.stps (8 - k) m = S) (h1 : ¬ m % 2 = 1) (hm : m < 4294967296) :
    Crc.stps (8 - (k + 1)) (m / 2) = S ∧ m / 2 < 4294967296 := by
  have h2 : Crc.stp m = m / 2 := by unfold Crc.stp; rw [if_neg h1]
  rw [show 8 - k = (8 - (k + 1)) + 1 by omega] at hs
  exact ⟨by rw [← h2]; exact hs, by omega⟩

set_option maxHeartbeats 400000 in
theorem refOf_any (a : Option Addr) (len cap : Nat) (bs : List Nat) (w : World) (hr : Row w a len bs) (hl : len ≤ maxLen) :
    Calls Tryz.prog 84 #[.slice a len cap] w fun e w' => e = .returned (.int .u32 ((Crc.of bs : Nat) : Int)) ∧ w = w' := by
  unfold maxLen at hl
  obtain ⟨hlen, hby, hrow⟩ := hr
  go_enter Tryz.func84, Tryz.ntmps84
  go_wp2
  go_loop [3, 4] (fun s i => ∃ k : Nat, k ≤ len ∧ i = .int .i64 k ∧ s = .int .u32 ((Crc.run 4294967295 (bs.take k) : Nat) : Int)) (fun _ i => len - (intOf i).toNat)
  case atStart => exact ⟨0, by omega, rfl, rfl⟩
  case round =>
    obtain ⟨k, hk, rfl, rfl⟩ := hrel
    have hsl := Crc.run_lt (s := 4294967295) (bs.take k) (by omega) (fun x hx => hby x (List.mem_of_mem_take hx))
    by_cases hlt : k < len
    · obtain ⟨b, off, ha, hc⟩ := hrow (by omega)
      have hck := hc k hlt
      have hbl := getD_lt hby k
      have HT := Lib.hid (take_snoc_getD bs k (by omega))
      obtain ⟨x, hx⟩ : ∃ x, x = bs.getD k 0 := ⟨_, rfl⟩
      rw [← hx] at hck hbl
      have HX := Lib.hid hx
      have HA := Lib.hid ha
      clear hx ha hc hrow
      have hlt2 := xor_byte_lt _ _ hsl hbl
      have HXB := Lib.hid (xor_byte _ _ hsl hbl)
      have HR := Lib.hid (show Crc.run 4294967295 (bs.take (k + 1)) = Crc.stps 8 (Crc.run 4294967295 (bs.take k) ^^^ x) by rw [HT.out, ← HX.out, Crc.run_append]; rfl)
      obtain ⟨S, hS⟩ : ∃ S, S = Crc.run 4294967295 (bs.take k) := ⟨_, rfl⟩
      rw [← hS] at HXB HR hlt2 hsl ⊢
      clear hS
      rw [HA.out]
      go_wp2
      go_loop [3, 5] (fun s i => ∃ j m : Nat, j ≤ 8 ∧ m < 4294967296 ∧ Crc.stps (8 - j) m = Crc.stps 8 (S ^^^ x) ∧ i = .int .i64 j ∧ s = .int .u32 (m : Int)) (fun _ i => 8 - (intOf i).toNat)
      case atStart => exact ⟨0, S ^^^ x, by omega, hlt2, rfl, rfl, by rw [HXB.out]⟩
      case round =>
        obtain ⟨j, m, hj, hm, hs, rfl, rfl⟩ := hrel
        have Hs := Lib.hid hs
        clear hs
        by_cases hlj : j < 8
        · by_cases hodd : m % 2 = 1
          · have hst := Lib.hid (step_odd' hlj hm Hs.out hodd)
            have ht : ((m : Int) % 2 == 1) = true := by simp; omega
            have HP := Lib.hid (xor_poly m hm)
            clear hodd
            go_wp2
            go_round
            case rel => exact ⟨j + 1, _, by omega, hst.out.2, hst.out.1, by go_num, by rw [HP.out]⟩
            case measure => simp [intOf]; omega
          · have hst := Lib.hid (step_even' hlj Hs.out hodd hm)
            have ht : ((m : Int) % 2 == 1) = false := by simp; omega
            clear hodd
            go_wp2
            go_round
            case rel => exact ⟨j + 1, _, by omega, hst.out.2, hst.out.1, by go_num, by go_num⟩
            case measure => simp [intOf]; omega
        · obtain rfl : j = 8 := by omega
          go_wp2
          go_round
          case rel => exact ⟨k + 1, by omega, by go_num, by rw [HR.out, ← Hs.out]; rfl⟩
          case measure => simp [intOf]; omega
    · obtain rfl : k = len := by omega
      have HF := Lib.hid (show Crc.run 4294967295 (bs.take k) = Crc.run 4294967295 bs by rw [← hlen, List.take_length])
      obtain ⟨S, hS⟩ : ∃ S, S = Crc.run 4294967295 (bs.take k) := ⟨_, rfl⟩
      rw [← hS] at HF hsl ⊢
      clear hS
      go_wp2
      go_ret
      refine ⟨ret_int ?_, rfl⟩
      unfold Crc.of
      rw [← HF.out]
      omega

end Go.Proofs.YthgcjiocelcblaaGreat

namespace Go.Proofs.YthgcjiocelcblaaGreat
open Go.RowKit

def RH.wide (h : RH) : Array Value := #[.int .i64 (h.ki : Int), .int .i64 (h.ep : Int), .int .i64 (h.ba : Int), .int .i64 (h.ix : Int), .int .i64 (h.ct : Int), .int .i64 (h.bl : Int), .int .i64 (h.mo : Int)]
/-- A header of wide numbers, in memory. -/
def WideAt (h : RH) (B : Nat) (w : World) : Prop := w.cell? ⟨B, 0, none⟩ = some (.int .i64 (h.ki : Int)) ∧ w.cell? ⟨B, 1, none⟩ = some (.int .i64 (h.ep : Int)) ∧ w.cell? ⟨B, 2, none⟩ = some (.int .i64 (h.ba : Int)) ∧ w.cell? ⟨B, 3, none⟩ = some (.int .i64 (h.ix : Int)) ∧ w.cell? ⟨B, 4, none⟩ = some (.int .i64 (h.ct : Int)) ∧ w.cell? ⟨B, 5, none⟩ = some (.int .i64 (h.bl : Int)) ∧ w.cell? ⟨B, 6, none⟩ = some (.int .i64 (h.mo : Int))
theorem WideAt.below {h : RH} {B B' : Nat} {w w' : World} (hh : WideAt h B w) (hb : Below B' w w') (hlt : B < B') : WideAt h B w' := by
  have hc : ∀ k, w'.cell? ⟨B, k, none⟩ = w.cell? ⟨B, k, none⟩ := fun k => hb.cell (p := ⟨B, k, none⟩) hlt
  unfold WideAt
  simp only [hc]
  exact hh
theorem wide_new (h : RH) (w : World) : WideAt h w.heap.size (w.alloc (.cells #[.int .i64 (h.ki : Int), .int .i64 (h.ep : Int), .int .i64 (h.ba : Int), .int .i64 (h.ix : Int), .int .i64 (h.ct : Int), .int .i64 (h.bl : Int), .int .i64 (h.mo : Int)] 105)) := by
  refine ⟨?_, ?_, ?_, ?_, ?_, ?_, ?_⟩
  all_goals (rw [World.cell?_alloc_mark w #[.int .i64 (h.ki : Int), .int .i64 (h.ep : Int), .int .i64 (h.ba : Int), .int .i64 (h.ix : Int), .int .i64 (h.ct : Int), .int .i64 (h.bl : Int), .int .i64 (h.mo : Int)] 105 (0, 0)]; rfl)
/-- The list that gabionref05.Seal lays ahead of the sum. -/
def refHead (h : RH) : List Nat := ((((((([] ++ Crc.les 2 22356) ++ [h.ki, 0]) ++ Crc.les 4 h.ep) ++ Crc.les 4 h.ba) ++ Crc.les 2 h.ix) ++ Crc.les 2 h.ct) ++ Crc.les 4 h.bl) ++ Crc.les 4 h.mo
theorem refHead_eq (h : RH) : refHead h = headB h := by simp [refHead, headB, List.append_assoc]

set_option maxRecDepth 100000 in
set_option maxHeartbeats 3200000 in
theorem refSeal_any (h : RH) (hf : h.Fits) (a : Option Addr) (len cap : Nat) (ds : List Nat) (a2 : Option Addr) (len2 cap2 : Nat) (be : List Nat) (w : World)
    (hr : Row w a len ds) (hl : len ≤ 1000) (hn : a = none → cap = 0) (hr2 : Row w a2 len2 be) (hlc2 : len2 ≤ cap2) (hcm2 : cap2 ≤ maxLen) (hn2 : a2 = none → cap2 = 0) (hl2 : len2 ≤ 1000) :
    Calls Tryz.prog 64 #[.agg h.wide, .slice a len cap, .slice a2 len2 cap2] w (RetOwn w (sealB h ds be)) := by
  have hcm2_ := hcm2
  unfold maxLen at hcm2
  obtain ⟨f1, f2, f3, f4, f5, f6, f7⟩ := hf
  have hh0 := wide_new h w
  unfold RH.wide
  go_enter Tryz.func64, Tryz.ntmps64
  go_wp2_with fail
  obtain ⟨W1, hW1⟩ : ∃ W1, W1 = w.alloc (.cells #[.int .i64 (h.ki : Int), .int .i64 (h.ep : Int), .int .i64 (h.ba : Int), .int .i64 (h.ix : Int), .int .i64 (h.ct : Int), .int .i64 (h.bl : Int), .int .i64 (h.mo : Int)] 105) := ⟨_, rfl⟩
  have hb1 : Below w.heap.size w W1 := by rw [hW1]; exact bel_alloc (Below.refl _ w) _
  have hz1 : w.heap.size < W1.heap.size := by rw [hW1]; simp
  rw [← hW1] at hh0 ⊢
  clear hW1
  have HROW : Hid (∀ w', Below W1.heap.size W1 w' → Row w' a len ds ∧ Row w' a2 len2 be ∧ WideAt h w.heap.size w' ∧ Below w.heap.size w w') := Lib.hid fun w' hb => by
    have hx := bel_trans hb1 hb
    exact ⟨row_keep hr hx (Nat.le_refl _), row_keep hr2 hx (Nat.le_refl _), hh0.below hb hz1, hx⟩
  have HZ1 := Lib.hid hz1
  have HDS := Lib.hid hr.1
  have HBE := Lib.hid hr2.1
  clear hh0 hb1 hr hr2 hz1
  have hbel : Below W1.heap.size W1 W1 := Below.refl _ _
  have ho0 : Own W1.heap.size W1 (.slice none 0 0) [] := own_nil _ _
  go_wp2_with fail
  refine (bytes_any 22356 2 W1 (by omega) (by omega)).mono ?_
  intro e x1 hx
  obtain ⟨a1_, k1_, rfl, hrx, hnx, _, hbx⟩ := retOwn_len hx
  rw [Crc.les_len] at hrx ⊢
  have hox := own_up ho0 hbx
  have hby := hbel.trans (hbx.mono hbel.size)
  have hzy := hby.size
  clear ho0 hbel hx hbx
  go_wp2_with (at_builtin; refine wpList_app rfl _ _ rfl W1.heap.size _ _ rfl hox a1_ 2 k1_ (Crc.les 2 22356) rfl hrx hnx hzy (by simp) ?_)
  intro v1 w1 hap
  have ho1 := hap.own
  have hb_1 : Below W1.heap.size W1 w1 := hby.trans hap.below
  clear hap hox hby hzy hrx hnx
  obtain ⟨_, _, ⟨c0, c1, c2, c3, c4, c5, c6⟩, _⟩ := HROW.out w1 hb_1
  have m1 : IntKind.u8.wrap (h.ki : Int) = (h.ki : Int) := by rw [IntKind.wrap_u8]; omega
  have m2 : (h.ki : Int) % 256 = (h.ki : Int) := by omega
  have hrk : Row (w1.alloc (.cells #[.int .u8 (h.ki : Int), .int .u8 ((0 : Nat) : Int)] 5)) (some ⟨w1.heap.size, 0, none⟩) 2 [h.ki, 0] := row_new2 w1 f1 (by omega)
  have hbk := bel_alloc hb_1 (.cells #[.int .u8 (h.ki : Int), .int .u8 ((0 : Nat) : Int)] 5)
  have hok := own_alloc ho1 (.cells #[.int .u8 (h.ki : Int), .int .u8 ((0 : Nat) : Int)] 5)
  have hzk := hbk.size
  clear ho1 hb_1
  go_wp2_with (at_builtin; refine wpList_app rfl _ _ rfl W1.heap.size _ _ rfl hok _ 2 2 [h.ki, 0] rfl hrk (fun e => by cases e) hzk (by simp [Crc.les_len]) ?_)
  intro v2 w2 hap
  have ho2 := hap.own
  have hb_2 : Below W1.heap.size W1 w2 := hbk.trans hap.below
  clear hap hok hbk hzk hrk c0 c1 c2 c3 c4 c5 c6 m1 m2
  obtain ⟨_, _, ⟨c0, c1, c2, c3, c4, c5, c6⟩, _⟩ := HROW.out w2 hb_2
  have m1 : IntKind.u64.wrap (h.ep : Int) = (h.ep : Int) := by rw [IntKind.wrap_u64]; omega
  go_wp2_with fail
  refine (bytes_any h.ep 4 w2 (by omega) (by omega)).mono ?_
  intro e x3 hx
  obtain ⟨a3_, k3_, rfl, hrx, hnx, _, hbx⟩ := retOwn_len hx
  rw [Crc.les_len] at hrx ⊢
  have hox := own_up ho2 hbx
  have hby := hb_2.trans (hbx.mono hb_2.size)
  have hzy := hby.size
  clear ho2 hb_2 hx hbx c0 c1 c2 c3 c4 c5 c6 m1
  go_wp2_with (at_builtin; refine wpList_app rfl _ _ rfl W1.heap.size _ _ rfl hox a3_ 4 k3_ (Crc.les 4 h.ep) rfl hrx hnx hzy (by simp [Crc.les_len]) ?_)
  intro v3 w3 hap
  have ho3 := hap.own
  have hb_3 : Below W1.heap.size W1 w3 := hby.trans hap.below
  clear hap hox hby hzy hrx hnx
  obtain ⟨_, _, ⟨c0, c1, c2, c3, c4, c5, c6⟩, _⟩ := HROW.out w3 hb_3
  have m1 : IntKind.u64.wrap (h.ba : Int) = (h.ba : Int) := by rw [IntKind.wrap_u64]; omega
  go_wp2_with fail
  refine (bytes_any h.ba 4 w3 (by omega) (by omega)).mono ?_
  intro e x4 hx
  obtain ⟨a4_, k4_, rfl, hrx, hnx, _, hbx⟩ := retOwn_len hx
  rw [Crc.les_len] at hrx ⊢
  have hox := own_up ho3 hbx
  have hby := hb_3.trans (hbx.mono hb_3.size)
  have hzy := hby.size
  clear ho3 hb_3 hx hbx c0 c1 c2 c3 c4 c5 c6 m1
  go_wp2_with (at_builtin; refine wpList_app rfl _ _ rfl W1.heap.size _ _ rfl hox a4_ 4 k4_ (Crc.les 4 h.ba) rfl hrx hnx hzy (by simp [Crc.les_len]) ?_)
  intro v4 w4 hap
  have ho4 := hap.own
  have hb_4 : Below W1.heap.size W1 w4 := hby.trans hap.below
  clear hap hox hby hzy hrx hnx
  obtain ⟨_, _, ⟨c0, c1, c2, c3, c4, c5, c6⟩, _⟩ := HROW.out w4 hb_4
  have m1 : IntKind.u64.wrap (h.ix : Int) = (h.ix : Int) := by rw [IntKind.wrap_u64]; omega
  go_wp2_with fail
  refine (bytes_any h.ix 2 w4 (by omega) (by omega)).mono ?_
  intro e x5 hx
  obtain ⟨a5_, k5_, rfl, hrx, hnx, _, hbx⟩ := retOwn_len hx
  rw [Crc.les_len] at hrx ⊢
  have hox := own_up ho4 hbx
  have hby := hb_4.trans (hbx.mono hb_4.size)
  have hzy := hby.size
  clear ho4 hb_4 hx hbx c0 c1 c2 c3 c4 c5 c6 m1
  go_wp2_with (at_builtin; refine wpList_app rfl _ _ rfl W1.heap.size _ _ rfl hox a5_ 2 k5_ (Crc.les 2 h.ix) rfl hrx hnx hzy (by simp [Crc.les_len]) ?_)
  intro v5 w5 hap
  have ho5 := hap.own
  have hb_5 : Below W1.heap.size W1 w5 := hby.trans hap.below
  clear hap hox hby hzy hrx hnx
  obtain ⟨_, _, ⟨c0, c1, c2, c3, c4, c5, c6⟩, _⟩ := HROW.out w5 hb_5
  have m1 : IntKind.u64.wrap (h.ct : Int) = (h.ct : Int) := by rw [IntKind.wrap_u64]; omega
  go_wp2_with fail
  refine (bytes_any h.ct 2 w5 (by omega) (by omega)).mono ?_
  intro e x6 hx
  obtain ⟨a6_, k6_, rfl, hrx, hnx, _, hbx⟩ := retOwn_len hx
  rw [Crc.les_len] at hrx ⊢
  have hox := own_up ho5 hbx
  have hby := hb_5.trans (hbx.mono hb_5.size)
  have hzy := hby.size
  clear ho5 hb_5 hx hbx c0 c1 c2 c3 c4 c5 c6 m1
  go_wp2_with (at_builtin; refine wpList_app rfl _ _ rfl W1.heap.size _ _ rfl hox a6_ 2 k6_ (Crc.les 2 h.ct) rfl hrx hnx hzy (by simp [Crc.les_len]) ?_)
  intro v6 w6 hap
  have ho6 := hap.own
  have hb_6 : Below W1.heap.size W1 w6 := hby.trans hap.below
  clear hap hox hby hzy hrx hnx
  obtain ⟨_, _, ⟨c0, c1, c2, c3, c4, c5, c6⟩, _⟩ := HROW.out w6 hb_6
  have m1 : IntKind.u64.wrap (h.bl : Int) = (h.bl : Int) := by rw [IntKind.wrap_u64]; omega
  go_wp2_with fail
  refine (bytes_any h.bl 4 w6 (by omega) (by omega)).mono ?_
  intro e x7 hx
  obtain ⟨a7_, k7_, rfl, hrx, hnx, _, hbx⟩ := retOwn_len hx
  rw [Crc.les_len] at hrx ⊢
  have hox := own_up ho6 hbx
  have hby := hb_6.trans (hbx.mono hb_6.size)
  have hzy := hby.size
  clear ho6 hb_6 hx hbx c0 c1 c2 c3 c4 c5 c6 m1
  go_wp2_with (at_builtin; refine wpList_app rfl _ _ rfl W1.heap.size _ _ rfl hox a7_ 4 k7_ (Crc.les 4 h.bl) rfl hrx hnx hzy (by simp [Crc.les_len]) ?_)
  intro v7 w7 hap
  have ho7 := hap.own
  have hb_7 : Below W1.heap.size W1 w7 := hby.trans hap.below
  clear hap hox hby hzy hrx hnx
  obtain ⟨_, _, ⟨c0, c1, c2, c3, c4, c5, c6⟩, _⟩ := HROW.out w7 hb_7
  have m1 : IntKind.u64.wrap (h.mo : Int) = (h.mo : Int) := by rw [IntKind.wrap_u64]; omega
  go_wp2_with fail
  refine (bytes_any h.mo 4 w7 (by omega) (by omega)).mono ?_
  intro e x8 hx
  obtain ⟨a8_, k8_, rfl, hrx, hnx, _, hbx⟩ := retOwn_len hx
  rw [Crc.les_len] at hrx ⊢
  have hox := own_up ho7 hbx
  have hby := hb_7.trans (hbx.mono hb_7.size)
  have hzy := hby.size
  clear ho7 hb_7 hx hbx c0 c1 c2 c3 c4 c5 c6 m1
  go_wp2_with (at_builtin; refine wpList_app rfl _ _ rfl W1.heap.size _ _ rfl hox a8_ 4 k8_ (Crc.les 4 h.mo) rfl hrx hnx hzy (by simp [Crc.les_len]) ?_)
  intro v8 w8 hap
  have ho8 := hap.own
  have hb_8 : Below W1.heap.size W1 w8 := hby.trans hap.below
  clear hap hox hby hzy hrx hnx
  have hoF : Own W1.heap.size w8 v8 (refHead h) := ho8
  clear ho8
  rw [refHead_eq] at hoF
  obtain ⟨hrD, hrB, _, _⟩ := HROW.out w8 hb_8
  have HRD := Lib.hid hrD
  by_cases h32 : 32 < len2
  · obtain ⟨b', off', rfl, _⟩ := hrB.2.2 (by omega)
    have d1 : decide ((32 : Int) < (len2 : Int)) = true := decide_eq_true (by omega)
    have hci : (32 : Int) ≤ (cap2 : Int) := by omega
    have hrt := row_cut hrB 32 (by omega)
    have hnn : (some (⟨b', off', none⟩ : Addr) = none → cap2 = 0) := fun e => by cases e
    have hmc : 32 ≤ cap2 := by omega
    have hmm : 32 ≤ 1000 := by omega
    clear hrD hrB hn2
    go_wp2_with fail
    refine (refPad_any _ 32 cap2 (be.take 32) w8 hrt hmc hcm2_ hnn (by omega) 32 (by omega) (by omega)).mono ?_
    intro e w9 h9
    obtain ⟨a9, k9, rfl, hr9, hn9, ho9, hb9⟩ := retOwn_len h9
    have e9 : padTo (be.take 32) 32 = tailB be := rfl
    rw [e9, tailB_len] at hr9
    rw [e9, tailB_len]
    have hoF9 := own_up hoF hb9
    have hrD9 := row_keep HRD.out hb9 (Nat.le_refl _)
    have hbl9 := hb_8.trans (hb9.mono hb_8.size)
    have hz9 := hbl9.size
    have hF8 : ∀ k, (v8).ownBlock = some k → k < w8.heap.size := fun k hk => (own_base hoF k hk).2
    obtain ⟨aF, kF, hvF, hrF, _⟩ := row_of_own hoF9
    have hnF : aF = none → kF = 0 := fun e => own_nocap (by rw [← hvF]; exact hoF9) e
    rw [headB_len] at hvF hrF
    subst hvF
    have NE0 : Hid (∀ x, a9 = some x → some x.block ≠ (Value.slice aF 24 kF).ownBlock) := Lib.hid fun x hx e => by
      have q1 := hF8 x.block e.symm
      have q2 := own_base ho9 x.block (by rw [hx]; rfl)
      omega
    have hoN : Own w9.heap.size w9 (.slice none 0 0) [] := own_nil _ _
    have HF9 : Hid (∀ wx, Below w9.heap.size w9 wx → Own W1.heap.size wx (.slice aF 24 kF) (headB h) ∧ Row wx a9 32 (tailB be) ∧ Row wx a len ds ∧ Below W1.heap.size W1 wx) := Lib.hid fun wx hb => ⟨own_up hoF9 hb, row_keep hr9 hb (Nat.le_refl _), row_keep hrD9 hb (Nat.le_refl _), hbl9.trans (hb.mono hz9)⟩
    clear h9 hb9 hb_8 hoF hrt hF8 ho9 hbl9 hz9 hoF9 hrD9 hr9
    go_wp2_with (at_builtin; refine wpList_app rfl _ _ rfl w9.heap.size _ _ rfl hoN aF 24 kF (headB h) rfl hrF hnF (Nat.le_refl _) (by simp) ?_)
    intro vA wA hap
    have hoA := hap.own
    have hbA := hap.below
    have hzA := hbA.size
    obtain ⟨_, _, hrDA, _⟩ := HF9.out wA hbA
    clear hap hoN hrF
    go_wp2_with (at_builtin; refine wpList_app rfl _ _ rfl w9.heap.size _ _ rfl hoA a len cap ds rfl hrDA hn hzA (by rw [headB_len]; omega) ?_)
    intro vB wB hap
    have hoB := hap.own
    have hbB := hbA.trans hap.below
    have hzB := hbB.size
    obtain ⟨_, hr9B, _, _⟩ := HF9.out wB hbB
    clear hap hoA hrDA hbA
    go_wp2_with (at_builtin; refine wpList_app rfl _ _ rfl w9.heap.size _ _ rfl hoB a9 32 k9 (tailB be) rfl hr9B hn9 hzB (by rw [List.length_append, headB_len, HDS.out]; omega) ?_)
    intro vC wC hap
    have hoC := hap.own
    rw [← List.append_assoc] at hoC
    obtain ⟨hoFC, hr9C, _, hblC⟩ := HF9.out wC (hbB.trans hap.below)
    obtain ⟨aC, kC, hvC, hrC, hmC⟩ := row_of_own hoC
    obtain ⟨LC, hLC⟩ : ∃ LC, (headB h ++ ds ++ tailB be).length = LC := ⟨_, rfl⟩
    rw [hLC] at hvC hrC hmC
    subst hvC
    clear hLC hap hoB hr9B hbB hoC hzA hzB HF9
    go_wp2_with fail
    with_reducible refine (refOf_any aC LC kC _ wC hrC hmC).mono ?_
    rintro e wD ⟨rfl, rfl⟩
    obtain ⟨S, hS⟩ : ∃ S, sumB h ds be = S := ⟨_, rfl⟩
    have hS' : Crc.of (headB h ++ ds ++ tailB be) = S := hS
    have hSlt : S < 4294967296 := by rw [← hS]; exact Crc.of_lt _
    rw [hS']
    have HS := Lib.hid hS
    have m1 : IntKind.u64.wrap (S : Int) = (S : Int) := by rw [IntKind.wrap_u64]; omega
    clear hS hS' hrC hmC
    go_wp2_with fail
    refine (bytes_any S 4 wC (by omega) (by omega)).mono ?_
    intro e wE hE
    obtain ⟨aE, kE, rfl, hrE, hnE, _, hbE⟩ := retOwn_len hE
    rw [Crc.les_len] at hrE ⊢
    have hoFE := own_up hoFC hbE
    have hr9E := row_keep hr9C hbE (Nat.le_refl _)
    have hblE := hblC.trans (hbE.mono hblC.size)
    clear hE m1 hoFC hr9C hblC hbE
    go_wp2_with (at_builtin; refine wpList_app rfl _ _ rfl W1.heap.size _ _ rfl hoFE aE 4 kE (Crc.les 4 S) rfl hrE hnE hblE.size (by rw [headB_len]; omega) ?_)
    intro vG wG hap
    have hoG := hap.own
    have hblG := hblE.trans hap.below
    have hoGz := hoG
    have hr9G := row_grown hr9E hap.grown NE0.out
    have NE1 : Hid (∀ x, a9 = some x → some x.block ≠ vG.ownBlock) := Lib.hid fun x hx e => by
      rcases hap.where_ with q | q
      · exact NE0.out x hx (e.trans q)
      · rw [q] at e
        have q2 := row_lt hr9E (by omega) x hx
        have q3 : x.block = wE.heap.size := by simpa using e
        omega
    clear hap hoG hoFE hr9E hblE hrE hnE NE0
    go_wp2_with fail
    refine (zeros_any 4 wG (by omega)).mono ?_
    intro e wH hH
    obtain ⟨aH, kH, rfl, hrH, hnH, _, hbH⟩ := retOwn_len hH
    rw [List.length_replicate] at hrH ⊢
    have hoGH := own_up hoGz hbH
    have hr9H := row_keep hr9G hbH (Nat.le_refl _)
    have hblH := hblG.trans (hbH.mono hblG.size)
    clear hH hoGz hr9G hblG hbH
    go_wp2_with (at_builtin; refine wpList_app rfl _ _ rfl W1.heap.size _ _ rfl hoGH aH 4 kH (List.replicate 4 0) rfl hrH hnH hblH.size (by rw [List.length_append, headB_len, Crc.les_len]; omega) ?_)
    intro vI wI hap
    have hoI := hap.own
    have hblI := hblH.trans hap.below
    have hr9I := row_grown hr9H hap.grown NE1.out
    clear hap hoGH hr9H hblH hrH hnH NE1
    go_wp2_with (at_builtin; refine wpList_app rfl _ _ rfl W1.heap.size _ _ rfl hoI a9 32 k9 (tailB be) rfl hr9I hn9 hblI.size (by simp [headB_len, Crc.les_len]) ?_)
    intro vJ wJ hap
    have hoJ := hap.own
    have hblJ := hblI.trans hap.below
    have e10 : sealB h ds be = headB h ++ (Crc.les 4 S ++ 0 :: 0 :: 0 :: 0 :: tailB be) := by
      unfold sealB
      rw [HS.out]
      simp [Crc.les]
    rw [← e10] at hoJ
    have hoK := own_mono hoJ (Nat.le_of_lt HZ1.out)
    have hbK := (HROW.out wJ hblJ).2.2.2
    obtain ⟨aJ, kJ, hvJ, _⟩ := row_of_own hoK
    subst hvJ
    clear hap hoI hr9I hblI hoJ e10
    go_wp2
    go_ret
    exact ⟨_, rfl, hoK, hbK⟩

  · have d1 : decide ((32 : Int) < (len2 : Int)) = false := decide_eq_false (by omega)
    have e32 : be.take 32 = be := List.take_of_length_le (by rw [HBE.out]; omega)
    have hrt : Row w8 a2 len2 (be.take 32) := by rw [e32]; exact hrB
    clear hrD hrB e32
    go_wp2_with fail
    refine (refPad_any a2 len2 cap2 (be.take 32) w8 hrt hlc2 hcm2_ hn2 (by omega) 32 (by omega) (by omega)).mono ?_
    intro e w9 h9
    obtain ⟨a9, k9, rfl, hr9, hn9, ho9, hb9⟩ := retOwn_len h9
    have e9 : padTo (be.take 32) 32 = tailB be := rfl
    rw [e9, tailB_len] at hr9
    rw [e9, tailB_len]
    have hoF9 := own_up hoF hb9
    have hrD9 := row_keep HRD.out hb9 (Nat.le_refl _)
    have hbl9 := hb_8.trans (hb9.mono hb_8.size)
    have hz9 := hbl9.size
    have hF8 : ∀ k, (v8).ownBlock = some k → k < w8.heap.size := fun k hk => (own_base hoF k hk).2
    obtain ⟨aF, kF, hvF, hrF, _⟩ := row_of_own hoF9
    have hnF : aF = none → kF = 0 := fun e => own_nocap (by rw [← hvF]; exact hoF9) e
    rw [headB_len] at hvF hrF
    subst hvF
    have NE0 : Hid (∀ x, a9 = some x → some x.block ≠ (Value.slice aF 24 kF).ownBlock) := Lib.hid fun x hx e => by
      have q1 := hF8 x.block e.symm
      have q2 := own_base ho9 x.block (by rw [hx]; rfl)
      omega
    have hoN : Own w9.heap.size w9 (.slice none 0 0) [] := own_nil _ _
    have HF9 : Hid (∀ wx, Below w9.heap.size w9 wx → Own W1.heap.size wx (.slice aF 24 kF) (headB h) ∧ Row wx a9 32 (tailB be) ∧ Row wx a len ds ∧ Below W1.heap.size W1 wx) := Lib.hid fun wx hb => ⟨own_up hoF9 hb, row_keep hr9 hb (Nat.le_refl _), row_keep hrD9 hb (Nat.le_refl _), hbl9.trans (hb.mono hz9)⟩
    clear h9 hb9 hb_8 hoF hrt hF8 ho9 hbl9 hz9 hoF9 hrD9 hr9
    go_wp2_with (at_builtin; refine wpList_app rfl _ _ rfl w9.heap.size _ _ rfl hoN aF 24 kF (headB h) rfl hrF hnF (Nat.le_refl _) (by simp) ?_)
    intro vA wA hap
    have hoA := hap.own
    have hbA := hap.below
    have hzA := hbA.size
    obtain ⟨_, _, hrDA, _⟩ := HF9.out wA hbA
    clear hap hoN hrF
    go_wp2_with (at_builtin; refine wpList_app rfl _ _ rfl w9.heap.size _ _ rfl hoA a len cap ds rfl hrDA hn hzA (by rw [headB_len]; omega) ?_)
    intro vB wB hap
    have hoB := hap.own
    have hbB := hbA.trans hap.below
    have hzB := hbB.size
    obtain ⟨_, hr9B, _, _⟩ := HF9.out wB hbB
    clear hap hoA hrDA hbA
    go_wp2_with (at_builtin; refine wpList_app rfl _ _ rfl w9.heap.size _ _ rfl hoB a9 32 k9 (tailB be) rfl hr9B hn9 hzB (by rw [List.length_append, headB_len, HDS.out]; omega) ?_)
    intro vC wC hap
    have hoC := hap.own
    rw [← List.append_assoc] at hoC
    obtain ⟨hoFC, hr9C, _, hblC⟩ := HF9.out wC (hbB.trans hap.below)
    obtain ⟨aC, kC, hvC, hrC, hmC⟩ := row_of_own hoC
    obtain ⟨LC, hLC⟩ : ∃ LC, (headB h ++ ds ++ tailB be).length = LC := ⟨_, rfl⟩
    rw [hLC] at hvC hrC hmC
    subst hvC
    clear hLC hap hoB hr9B hbB hoC hzA hzB HF9
    go_wp2_with fail
    with_reducible refine (refOf_any aC LC kC _ wC hrC hmC).mono ?_
    rintro e wD ⟨rfl, rfl⟩
    obtain ⟨S, hS⟩ : ∃ S, sumB h ds be = S := ⟨_, rfl⟩
    have hS' : Crc.of (headB h ++ ds ++ tailB be) = S := hS
    have hSlt : S < 4294967296 := by rw [← hS]; exact Crc.of_lt _
    rw [hS']
    have HS := Lib.hid hS
    have m1 : IntKind.u64.wrap (S : Int) = (S : Int) := by rw [IntKind.wrap_u64]; omega
    clear hS hS' hrC hmC
    go_wp2_with fail
    refine (bytes_any S 4 wC (by omega) (by omega)).mono ?_
    intro e wE hE
    obtain ⟨aE, kE, rfl, hrE, hnE, _, hbE⟩ := retOwn_len hE
    rw [Crc.les_len] at hrE ⊢
    have hoFE := own_up hoFC hbE
    have hr9E := row_keep hr9C hbE (Nat.le_refl _)
    have hblE := hblC.trans (hbE.mono hblC.size)
    clear hE m1 hoFC hr9C hblC hbE
    go_wp2_with (at_builtin; refine wpList_app rfl _ _ rfl W1.heap.size _ _ rfl hoFE aE 4 kE (Crc.les 4 S) rfl hrE hnE hblE.size (by rw [headB_len]; omega) ?_)
    intro vG wG hap
    have hoG := hap.own
    have hblG := hblE.trans hap.below
    have hoGz := hoG
    have hr9G := row_grown hr9E hap.grown NE0.out
    have NE1 : Hid (∀ x, a9 = some x → some x.block ≠ vG.ownBlock) := Lib.hid fun x hx e => by
      rcases hap.where_ with q | q
      · exact NE0.out x hx (e.trans q)
      · rw [q] at e
        have q2 := row_lt hr9E (by omega) x hx
        have q3 : x.block = wE.heap.size := by simpa using e
        omega
    clear hap hoG hoFE hr9E hblE hrE hnE NE0
    go_wp2_with fail
    refine (zeros_any 4 wG (by omega)).mono ?_
    intro e wH hH
    obtain ⟨aH, kH, rfl, hrH, hnH, _, hbH⟩ := retOwn_len hH
    rw [List.length_replicate] at hrH ⊢
    have hoGH := own_up hoGz hbH
    have hr9H := row_keep hr9G hbH (Nat.le_refl _)
    have hblH := hblG.trans (hbH.mono hblG.size)
    clear hH hoGz hr9G hblG hbH
    go_wp2_with (at_builtin; refine wpList_app rfl _ _ rfl W1.heap.size _ _ rfl hoGH aH 4 kH (List.replicate 4 0) rfl hrH hnH hblH.size (by rw [List.length_append, headB_len, Crc.les_len]; omega) ?_)
    intro vI wI hap
    have hoI := hap.own
    have hblI := hblH.trans hap.below
    have hr9I := row_grown hr9H hap.grown NE1.out
    clear hap hoGH hr9H hblH hrH hnH NE1
    go_wp2_with (at_builtin; refine wpList_app rfl _ _ rfl W1.heap.size _ _ rfl hoI a9 32 k9 (tailB be) rfl hr9I hn9 hblI.size (by simp [headB_len, Crc.les_len]) ?_)
    intro vJ wJ hap
    have hoJ := hap.own
    have hblJ := hblI.trans hap.below
    have e10 : sealB h ds be = headB h ++ (Crc.les 4 S ++ 0 :: 0 :: 0 :: 0 :: tailB be) := by
      unfold sealB
      rw [HS.out]
      simp [Crc.les]
    rw [← e10] at hoJ
    have hoK := own_mono hoJ (Nat.le_of_lt HZ1.out)
    have hbK := (HROW.out wJ hblJ).2.2.2
    obtain ⟨aJ, kJ, hvJ, _⟩ := row_of_own hoK
    subst hvJ
    clear hap hoI hr9I hblI hoJ e10
    go_wp2
    go_ret
    exact ⟨_, rfl, hoK, hbK⟩


end Go.Proofs.YthgcjiocelcblaaGreat

namespace Go.Proofs.YthgcjiocelcblaaGreat
open Go.RowKit

theorem num_next (l : List Nat) (k : Nat) (hk : k < l.length) : leVal (l.take (k + 1)) = leVal (l.take k) + l.getD k 0 * 256 ^ k := by
  rw [take_snoc_getD l k hk, leVal_snoc, List.length_take, Nat.min_eq_left (by omega)]
set_option maxRecDepth 100000 in
set_option maxHeartbeats 800000 in
theorem refNum_any (a : Option Addr) (len cap : Nat) (bs : List Nat) (at_ n : Nat) (w : World) (hr : Row w a len bs) (hl : at_ + n ≤ len) (hlen : len ≤ 1000) (hn : n ≤ 4) :
    Calls Tryz.prog 33 #[.slice a len cap, .int .i64 (at_ : Int), .int .i64 (n : Int)] w fun e w' => e = .returned (.int .u64 ((leVal ((bs.drop at_).take n) : Nat) : Int)) ∧ w' = w := by
  obtain ⟨L, hL⟩ : ∃ L, (bs.drop at_).take n = L := ⟨_, rfl⟩
  have hLl : L.length = n := by rw [← hL, List.length_take, List.length_drop, hr.1]; omega
  have hLb : ∀ x ∈ L, x < 256 := fun x hx => hr.2.1 x (List.mem_of_mem_drop (List.mem_of_mem_take (hL ▸ hx)))
  have hg : ∀ k, k < n → L.getD k 0 = bs.getD (at_ + k) 0 := fun k hk => by
    rw [← hL]
    simp only [List.getD_eq_getElem?_getD, List.getElem?_take_of_lt hk, List.getElem?_drop]
  rw [hL]
  have HR := Lib.hid hr
  have HG := Lib.hid hg
  have HLB := Lib.hid hLb
  have HLL := Lib.hid hLl
  clear hr hg hLb hLl hL
  go_enter Tryz.func33, Tryz.ntmps33
  go_wp2
  go_loop [7, 8, 9] (fun v p i => ∃ k : Nat, k ≤ n ∧ i = .int .i64 (k : Int) ∧ v = .int .u64 ((leVal (L.take k) : Nat) : Int) ∧ p = .int .u64 ((256 ^ k : Nat) : Int)) (fun _ _ i => n - (intOf i).toNat)
  case atStart => exact ⟨0, by omega, rfl, by simp [leVal], by simp⟩
  case round =>
    obtain ⟨k, hk, rfl, rfl, rfl⟩ := hrel
    by_cases hlt : k < n
    · obtain ⟨b, off, x, rfl, hc, hx, HX⟩ := row_cell HR.out (show at_ + k < len by omega)
      have HN := Lib.hid (num_next L k (by rw [HLL.out]; exact hlt))
      have hv : leVal (L.take k) < 256 ^ k := by
        have h1 := leVal_lt (L.take k) (fun y hy => HLB.out y (List.mem_of_mem_take hy))
        rw [List.length_take, HLL.out, Nat.min_eq_left (by omega)] at h1
        exact h1
      have hp : 256 ^ k ≤ 16777216 := by
        have h1 : 256 ^ k ≤ 256 ^ 3 := Nat.pow_le_pow_right (by omega) (by omega)
        omega
      have HXG : Hid (L.getD k 0 = x) := Lib.hid (by rw [HG.out k hlt, ← HX.out])
      have HP1 : Hid (256 ^ (k + 1) = 256 ^ k * 256) := Lib.hid (Nat.pow_succ 256 k)
      obtain ⟨p, hpp⟩ : ∃ p, 256 ^ k = p := ⟨_, rfl⟩
      obtain ⟨v, hvv⟩ : ∃ v, leVal (L.take k) = v := ⟨_, rfl⟩
      rw [hpp] at hv hp HN HP1 ⊢
      rw [hvv] at hv HN ⊢
      have hxp : x * p ≤ 255 * 16777216 := Nat.mul_le_mul (by omega) hp
      obtain ⟨q, hq⟩ : ∃ q, at_ + k = q := ⟨_, rfl⟩
      obtain ⟨xp, hxpe⟩ : ∃ xp, x * p = xp := ⟨_, rfl⟩
      obtain ⟨vv, hv2⟩ : ∃ vv, v + xp = vv := ⟨_, rfl⟩
      obtain ⟨pp, hpe⟩ : ∃ pp, p * 256 = pp := ⟨_, rfl⟩
      rw [hq] at hc
      rw [hxpe] at hxp
      have HV2 : Hid (v + L.getD k 0 * p = vv) := Lib.hid (by rw [HXG.out, hxpe, hv2])
      have HPE := Lib.hid hpe
      have e1 : (at_ : Int) + (k : Int) = (q : Int) := by omega
      have e2 : IntKind.i64.wrap (q : Int) = (q : Int) := by rw [IntKind.wrap_i64]; omega
      have e3 : (x : Int) * (p : Int) = (xp : Int) := by rw [← hxpe]; push_cast; rfl
      have e4 : IntKind.u64.wrap (xp : Int) = (xp : Int) := by rw [IntKind.wrap_u64]; omega
      have e5 : (v : Int) + (xp : Int) = (vv : Int) := by omega
      have e6 : IntKind.u64.wrap (vv : Int) = (vv : Int) := by rw [IntKind.wrap_u64]; omega
      have e7 : (p : Int) * 256 = (pp : Int) := by omega
      have e8 : IntKind.u64.wrap (pp : Int) = (pp : Int) := by rw [IntKind.wrap_u64]; omega
      have i1 : (0 : Int) ≤ (q : Int) := by omega
      have i2 : (q : Int) < (len : Int) := by omega
      clear hpp hvv hq hxpe hv2 hpe hv hp hxp
      go_wp2
      go_round
      case rel => exact ⟨k + 1, by omega, by go_num, by rw [HN.out, HV2.out], by rw [HP1.out, HPE.out]⟩
      case measure => simp [intOf]; omega
    · obtain rfl : k = n := by omega
      have HK : Hid (L.take k = L) := Lib.hid (List.take_of_length_le (by rw [HLL.out]; omega))
      rw [HK.out]
      go_wp2
      go_ret
      exact ⟨rfl, rfl⟩

end Go.Proofs.YthgcjiocelcblaaGreat

namespace Go.Proofs.YthgcjiocelcblaaGreat
open Go.RowKit

theorem wide_cells {p : Nat} {h : RH} {w : World} (hh : w.heap[p]? = some (.cells h.wide 105 (0, 0))) : WideAt h p w := by
  unfold WideAt
  refine ⟨?_, ?_, ?_, ?_, ?_, ?_, ?_⟩ <;> simp [World.cell?, hh, RH.wide]
theorem wide_free {p : Nat} {h : RH} {w : World} (hh : w.heap[p]? = some (.cells h.wide 105 (0, 0))) (k : Nat) : w.frozen? ⟨p, k, none⟩ = false := by
  simp [World.frozen?, hh]
set_option maxRecDepth 100000 in
set_option maxHeartbeats 800000 in
theorem refOpen_short (a : Option Addr) (len cap : Nat) (ds : List Nat) (a2 : Option Addr) (len2 cap2 : Nat) (os : List Nat) (w : World) (h64 : len2 ≠ 64) (hr2 : Row w a2 len2 os) :
    Calls Tryz.prog 44 #[.slice a len cap, .slice a2 len2 cap2] w fun e w' => e = .returned (.tuple #[.agg (openH ds os).wide, .bool (decide (OpenOk ds os))]) ∧ Below w.heap.size w w' := by
  have hno : ¬ OpenOk ds os := fun h => h64 (by rw [← hr2.1]; exact h.1)
  have hz : openH ds os = RH.zero := by unfold openH; rw [if_neg hno]
  have HN := Lib.hid (decide_eq_false hno)
  rw [hz, HN.out]
  clear hno hz hr2
  have hne : ((len2 : Int) != 64) = true := by simp; omega
  go_enter Tryz.func44, Tryz.ntmps44
  go_wp2
  refine bodyPost_ret (v := .tuple #[.agg RH.zero.wide, .bool false]) ?_ rfl ⟨rfl, ?_⟩
  · simp [results, Tryz.results44, go_sem, RH.wide, RH.zero]
  · exact bel_alloc (Below.refl _ w) _

set_option maxRecDepth 100000 in
set_option maxHeartbeats 1600000 in
theorem refOpen_whole (a : Option Addr) (len cap : Nat) (ds : List Nat) (a2 : Option Addr) (cap2 : Nat) (os : List Nat) (w : World) (hr : Row w a len ds) (hl : len ≤ 1000) (hn : a = none → cap = 0) (hr2 : Row w a2 64 os) (hlc2 : 64 ≤ cap2) (hcm2 : cap2 ≤ maxLen) :
    Calls Tryz.prog 44 #[.slice a len cap, .slice a2 64 cap2] w fun e w' => e = .returned (.tuple #[.agg (openH ds os).wide, .bool (decide (OpenOk ds os))]) ∧ Below w.heap.size w w' := by
  unfold maxLen at hcm2
  obtain ⟨b2, off2, ha2, _⟩ := hr2.2.2 (by omega)
  subst ha2
  go_enter Tryz.func44, Tryz.ntmps44
  go_wp2_with fail
  obtain ⟨W1, hW1⟩ : ∃ W1, W1 = w.alloc (.cells #[.int .i64 0, .int .i64 0, .int .i64 0, .int .i64 0, .int .i64 0, .int .i64 0, .int .i64 0] 105) := ⟨_, rfl⟩
  have hz1 : W1.heap.size = w.heap.size + 1 := by rw [hW1]; simp
  have hb1 : Below w.heap.size w W1 := by rw [hW1]; exact bel_alloc (Below.refl _ w) _
  have h01 : W1.heap[w.heap.size]? = some (.cells RH.zero.wide 105 (0, 0)) := by rw [hW1]; exact heap_alloc_new w _
  rw [← hW1]
  clear hW1
  have hft : (takeH os).Fits := takeH_fits hr2.2.1 (by have := hr2.1; omega)
  obtain ⟨h, hh⟩ : ∃ h, takeH os = h := ⟨_, rfl⟩
  rw [hh] at hft
  have HOK := Lib.hid (openOk_at (ds := ds) hr2.1 hh)
  have HOH := Lib.hid (openH_at (ds := ds) hh)
  have Hki : Hid (os.getD 2 0 = h.ki) := Lib.hid (by rw [← hh]; rfl)
  have Hep : Hid (leVal ((os.drop 4).take 4) = h.ep) := Lib.hid (by rw [← hh]; rfl)
  have Hba : Hid (leVal ((os.drop 8).take 4) = h.ba) := Lib.hid (by rw [← hh]; rfl)
  have Hix : Hid (leVal ((os.drop 12).take 2) = h.ix) := Lib.hid (by rw [← hh]; rfl)
  have Hct : Hid (leVal ((os.drop 14).take 2) = h.ct) := Lib.hid (by rw [← hh]; rfl)
  have Hbl : Hid (leVal ((os.drop 16).take 4) = h.bl) := Lib.hid (by rw [← hh]; rfl)
  have Hmo : Hid (leVal ((os.drop 20).take 4) = h.mo) := Lib.hid (by rw [← hh]; rfl)
  clear hh
  have HRO : Hid (∀ wx, Below W1.heap.size W1 wx → Row wx (some ⟨b2, off2, none⟩) 64 os) := Lib.hid fun wx hb => row_keep hr2 (bel_trans hb1 hb) (Nat.le_refl _)
  have Nep : Hid (∀ wx, Below W1.heap.size W1 wx → Calls Tryz.prog 33 #[.slice (some ⟨b2, off2, none⟩) 64 cap2, .int .i64 4, .int .i64 4] wx fun e w' => e = .returned (.int .u64 (h.ep : Int)) ∧ w' = wx) := Lib.hid fun wx hb => by
    have q := refNum_any (some ⟨b2, off2, none⟩) 64 cap2 os 4 4 wx (HRO.out wx hb) (by omega) (by omega) (by omega)
    rw [Hep.out] at q
    exact q
  have Nba : Hid (∀ wx, Below W1.heap.size W1 wx → Calls Tryz.prog 33 #[.slice (some ⟨b2, off2, none⟩) 64 cap2, .int .i64 8, .int .i64 4] wx fun e w' => e = .returned (.int .u64 (h.ba : Int)) ∧ w' = wx) := Lib.hid fun wx hb => by
    have q := refNum_any (some ⟨b2, off2, none⟩) 64 cap2 os 8 4 wx (HRO.out wx hb) (by omega) (by omega) (by omega)
    rw [Hba.out] at q
    exact q
  have Nix : Hid (∀ wx, Below W1.heap.size W1 wx → Calls Tryz.prog 33 #[.slice (some ⟨b2, off2, none⟩) 64 cap2, .int .i64 12, .int .i64 2] wx fun e w' => e = .returned (.int .u64 (h.ix : Int)) ∧ w' = wx) := Lib.hid fun wx hb => by
    have q := refNum_any (some ⟨b2, off2, none⟩) 64 cap2 os 12 2 wx (HRO.out wx hb) (by omega) (by omega) (by omega)
    rw [Hix.out] at q
    exact q
  have Nct : Hid (∀ wx, Below W1.heap.size W1 wx → Calls Tryz.prog 33 #[.slice (some ⟨b2, off2, none⟩) 64 cap2, .int .i64 14, .int .i64 2] wx fun e w' => e = .returned (.int .u64 (h.ct : Int)) ∧ w' = wx) := Lib.hid fun wx hb => by
    have q := refNum_any (some ⟨b2, off2, none⟩) 64 cap2 os 14 2 wx (HRO.out wx hb) (by omega) (by omega) (by omega)
    rw [Hct.out] at q
    exact q
  have Nbl : Hid (∀ wx, Below W1.heap.size W1 wx → Calls Tryz.prog 33 #[.slice (some ⟨b2, off2, none⟩) 64 cap2, .int .i64 16, .int .i64 4] wx fun e w' => e = .returned (.int .u64 (h.bl : Int)) ∧ w' = wx) := Lib.hid fun wx hb => by
    have q := refNum_any (some ⟨b2, off2, none⟩) 64 cap2 os 16 4 wx (HRO.out wx hb) (by omega) (by omega) (by omega)
    rw [Hbl.out] at q
    exact q
  have Nmo : Hid (∀ wx, Below W1.heap.size W1 wx → Calls Tryz.prog 33 #[.slice (some ⟨b2, off2, none⟩) 64 cap2, .int .i64 20, .int .i64 4] wx fun e w' => e = .returned (.int .u64 (h.mo : Int)) ∧ w' = wx) := Lib.hid fun wx hb => by
    have q := refNum_any (some ⟨b2, off2, none⟩) 64 cap2 os 20 4 wx (HRO.out wx hb) (by omega) (by omega) (by omega)
    rw [Hmo.out] at q
    exact q
  have hck : W1.cell? ⟨b2, off2 + 2, none⟩ = some (.int .u8 (h.ki : Int)) := by
    obtain ⟨b', off', e, hc⟩ := (HRO.out W1 (Below.refl _ _)).2.2 (by omega)
    cases e
    rw [hc 2 (by omega), Hki.out]
  have hbd : Below W1.heap.size W1 W1.drew := (Below.refl _ W1).drew
  have hba : ∀ o, Below W1.heap.size W1 (W1.drew.alloc o) := fun o => hbd.alloc (Nat.le_refl _) o
  have hbc : ∀ o, Below W1.heap.size W1 (W1.alloc o).drew := fun o => (bel_alloc (Below.refl _ W1) o).drew
  obtain ⟨l0, l1, l2, l3, l4, l5, l6⟩ := hft
  have w0 : IntKind.i64.wrap (h.ki : Int) = (h.ki : Int) := by rw [IntKind.wrap_i64]; omega
  have w1 : IntKind.i64.wrap (h.ep : Int) = (h.ep : Int) := by rw [IntKind.wrap_i64]; omega
  have w2 : IntKind.i64.wrap (h.ba : Int) = (h.ba : Int) := by rw [IntKind.wrap_i64]; omega
  have w3 : IntKind.i64.wrap (h.ix : Int) = (h.ix : Int) := by rw [IntKind.wrap_i64]; omega
  have w4 : IntKind.i64.wrap (h.ct : Int) = (h.ct : Int) := by rw [IntKind.wrap_i64]; omega
  have w5 : IntKind.i64.wrap (h.bl : Int) = (h.bl : Int) := by rw [IntKind.wrap_i64]; omega
  have w6 : IntKind.i64.wrap (h.mo : Int) = (h.mo : Int) := by rw [IntKind.wrap_i64]; omega
  have hft : h.Fits := ⟨l0, l1, l2, l3, l4, l5, l6⟩
  have HFT := Lib.hid hft
  have HB1 := Lib.hid hb1
  have HZ1 := Lib.hid hz1
  have H01 := Lib.hid h01
  have j0 : (0 : Int) ≤ 2 := by omega
  clear hft hb1 hz1 h01
  go_upto_region 3 with fail
  go_cut [6] (fun s6 wx => s6 = .pointer (some ⟨W1.heap.size, 0, none⟩) ∧ wx = (W1.alloc (.cells #[.int .i64 (h.ki : Int), .int .i64 (h.ep : Int), .int .i64 (h.ba : Int), .int .i64 (h.ix : Int), .int .i64 (h.ct : Int), .int .i64 (h.bl : Int), .int .i64 (h.mo : Int)] 105)).drew)
  case first =>
    go_region_held3 (fun w' => w'.cell? ⟨b2, off2 + 2, none⟩ = some (.int .u8 (h.ki : Int))) (go_keep)
      (first
        | (go_simp; go_at_call 33; ((with_reducible refine (Nep.out _ ?_).mono ?_)); (· first | exact hbd | exact hba _ | exact hbc _); (rintro e w' ⟨rfl, rfl⟩))
        | (go_simp; go_at_call 33; ((with_reducible refine (Nba.out _ ?_).mono ?_)); (· first | exact hbd | exact hba _ | exact hbc _); (rintro e w' ⟨rfl, rfl⟩))
        | (go_simp; go_at_call 33; ((with_reducible refine (Nix.out _ ?_).mono ?_)); (· first | exact hbd | exact hba _ | exact hbc _); (rintro e w' ⟨rfl, rfl⟩))
        | (go_simp; go_at_call 33; ((with_reducible refine (Nct.out _ ?_).mono ?_)); (· first | exact hbd | exact hba _ | exact hbc _); (rintro e w' ⟨rfl, rfl⟩))
        | (go_simp; go_at_call 33; ((with_reducible refine (Nbl.out _ ?_).mono ?_)); (· first | exact hbd | exact hba _ | exact hbc _); (rintro e w' ⟨rfl, rfl⟩))
        | (go_simp; go_at_call 33; ((with_reducible refine (Nmo.out _ ?_).mono ?_)); (· first | exact hbd | exact hba _ | exact hbc _); (rintro e w' ⟨rfl, rfl⟩)))
    all_goals (go_wp2_with fail; go_meet; exact ⟨rfl, rfl⟩)
  case rest =>
  obtain ⟨rfl, hwx⟩ := hcut
  obtain ⟨W3, hW3⟩ : ∃ W3, W3 = (W1.alloc (.cells #[.int .i64 (h.ki : Int), .int .i64 (h.ep : Int), .int .i64 (h.ba : Int), .int .i64 (h.ix : Int), .int .i64 (h.ct : Int), .int .i64 (h.bl : Int), .int .i64 (h.mo : Int)] 105)).drew := ⟨_, rfl⟩
  have hb13 : Below W1.heap.size W1 W3 := by rw [hW3]; exact hbc _
  have hh3 : WideAt h W1.heap.size W3 := by rw [hW3]; exact wide_new h W1
  have hz3 : W3.heap.size = W1.heap.size + 1 := by rw [hW3]; show (W1.alloc _).heap.size = _; simp
  have h03 : W3.heap[w.heap.size]? = some (.cells RH.zero.wide 105 (0, 0)) := by rw [hb13.block _ (by have := HZ1.out; omega)]; exact H01.out
  rw [← hW3] at hwx
  rw [hwx]
  clear hW3 hwx wc
  go_upto_region 4 with fail
  have hft := HFT.out
  have hb03 : Below w.heap.size w W3 := bel_trans HB1.out hb13
  have hz1 := HZ1.out
  clear Nep Nba Nix Nct Nbl Nmo w0 w1 w2 w3 w4 w5 w6 hbd hba hbc hck l0 l1 l2 l3 l4 l5 l6 Hki Hep Hba Hix Hct Hbl Hmo HRO
  obtain ⟨p, hp⟩ : ∃ p, p = W1.heap.size := ⟨_, rfl⟩
  have hwp : w.heap.size < p := by omega
  rw [← hp] at hh3 hz3 ⊢
  have HZ3 := Lib.hid hz3
  have HR1 : Hid (∀ w', Below W3.heap.size W3 w' → Row w' a len ds ∧ Row w' (some ⟨b2, off2, none⟩) 64 os ∧ Row w' (some ⟨b2, off2 + 32, none⟩) 32 (os.drop 32)) := Lib.hid fun w' hb => by
    have hx := bel_trans hb03 hb
    have hy := row_keep hr2 hx (Nat.le_refl _)
    exact ⟨row_keep hr hx (Nat.le_refl _), hy, row_suffix hy 32 (by omega)⟩
  have HB := Lib.hid hb03
  have HF := Lib.hid hft
  have H03 := Lib.hid h03
  clear hp hz1 hb13 hr hr2 hft h03 hb03 hz3
  obtain ⟨c0, c1, c2, c3, c4, c5, c6⟩ := hh3
  by_cases k1 : h.ki < 1
  · have HN : Hid (¬ OpenOk ds os) := Lib.hid fun e => by have := (HOK.out.1 e).1; omega
    have d1 : decide ((h.ki : Int) < 1) = true := decide_eq_true (by omega)
    clear k1
    go_quiet (fail)
    have h04 : (W3.drewN nq).heap[w.heap.size]? = some (.cells RH.zero.wide 105 (0, 0)) := H03.out
    have hb04 : Below w.heap.size w (W3.drewN nq) := bel_trans HB.out (bel_drewN W3 nq)
    obtain ⟨W4, hW4⟩ : ∃ W4, W4 = W3.drewN nq := ⟨_, rfl⟩
    rw [← hW4] at h04 hb04 ⊢
    clear hW4 c0 c1 c2 c3 c4 c5 c6
    obtain ⟨e0, e1, e2, e3, e4, e5, e6⟩ := wide_cells h04
    have f0 := wide_free h04 0
    have f1 := wide_free h04 1
    have f2 := wide_free h04 2
    have f3 := wide_free h04 3
    have f4 := wide_free h04 4
    have f5 := wide_free h04 5
    have f6 := wide_free h04 6
    have HZ := Lib.hid (HOH.out.trans (if_neg HN.out))
    have HD := Lib.hid (decide_eq_false HN.out)
    clear h04
    go_wp2
    refine bodyPost_ret (v := .tuple #[.agg RH.zero.wide, .bool false]) ?_ rfl ⟨by rw [HZ.out, HD.out], ?_⟩
    · simp [results, Tryz.results44, go_sem, RH.wide, RH.zero, e0, e1, e2, e3, e4, e5, e6]
    · exact bel_six hb04 w.heap.size (Nat.le_refl _) _ _ _ _ _ _ _
  · by_cases k6 : 6 < h.ki
    · have HN : Hid (¬ OpenOk ds os) := Lib.hid fun e => by have := (HOK.out.1 e).2.1; omega
      have d1 : decide ((h.ki : Int) < 1) = false := decide_eq_false (by omega)
      have d6 : decide ((6 : Int) < (h.ki : Int)) = true := decide_eq_true (by omega)
      clear k1 k6
      go_quiet (fail)
      have h04 : (W3.drewN nq).heap[w.heap.size]? = some (.cells RH.zero.wide 105 (0, 0)) := H03.out
      have hb04 : Below w.heap.size w (W3.drewN nq) := bel_trans HB.out (bel_drewN W3 nq)
      obtain ⟨W4, hW4⟩ : ∃ W4, W4 = W3.drewN nq := ⟨_, rfl⟩
      rw [← hW4] at h04 hb04 ⊢
      clear hW4 c0 c1 c2 c3 c4 c5 c6
      obtain ⟨e0, e1, e2, e3, e4, e5, e6⟩ := wide_cells h04
      have f0 := wide_free h04 0
      have f1 := wide_free h04 1
      have f2 := wide_free h04 2
      have f3 := wide_free h04 3
      have f4 := wide_free h04 4
      have f5 := wide_free h04 5
      have f6 := wide_free h04 6
      have HZ := Lib.hid (HOH.out.trans (if_neg HN.out))
      have HD := Lib.hid (decide_eq_false HN.out)
      clear h04
      go_wp2
      refine bodyPost_ret (v := .tuple #[.agg RH.zero.wide, .bool false]) ?_ rfl ⟨by rw [HZ.out, HD.out], ?_⟩
      · simp [results, Tryz.results44, go_sem, RH.wide, RH.zero, e0, e1, e2, e3, e4, e5, e6]
      · exact bel_six hb04 w.heap.size (Nat.le_refl _) _ _ _ _ _ _ _
    · have d1 : decide ((h.ki : Int) < 1) = false := decide_eq_false (by omega)
      have d6 : decide ((6 : Int) < (h.ki : Int)) = false := decide_eq_false (by omega)
      have HK : Hid (1 ≤ h.ki ∧ h.ki ≤ 6) := Lib.hid ⟨by omega, by omega⟩
      have hz : (32 : Int) ≤ 64 := by omega
      have hcc : (64 : Int) ≤ (cap2 : Int) := by omega
      obtain ⟨E, hE⟩ : ∃ E, decide (sealB h ds (os.drop 32) = os) = E := ⟨_, rfl⟩
      have HE := Lib.hid hE
      have HSEAL : Hid (Calls Tryz.prog 64 #[.agg #[.int .i64 (h.ki : Int), .int .i64 (h.ep : Int), .int .i64 (h.ba : Int), .int .i64 (h.ix : Int), .int .i64 (h.ct : Int), .int .i64 (h.bl : Int), .int .i64 (h.mo : Int)], .slice a len cap, .slice (some ⟨b2, off2 + 32, none⟩) 32 (cap2 - 32)] W3.drew (RetOwn W3.drew (sealB h ds (os.drop 32)))) :=
        Lib.hid (refSeal_any h HF.out a len cap ds (some ⟨b2, off2 + 32, none⟩) 32 (cap2 - 32) (os.drop 32) W3.drew (HR1.out _ (Below.refl _ W3).drew).1 hl hn (HR1.out _ (Below.refl _ W3).drew).2.2 (by omega) (by unfold maxLen; omega) (fun e => by cases e) (by omega))
      have HCN : Hid (¬ cap2 = 32) := Lib.hid (by omega)
      clear hE k1 k6
      go_region_held3 (fun w' => w'.cell? ⟨p, 0, none⟩ = some (.int .i64 (h.ki : Int)) ∧ w'.cell? ⟨p, 1, none⟩ = some (.int .i64 (h.ep : Int)) ∧ w'.cell? ⟨p, 2, none⟩ = some (.int .i64 (h.ba : Int)) ∧ w'.cell? ⟨p, 3, none⟩ = some (.int .i64 (h.ix : Int)) ∧ w'.cell? ⟨p, 4, none⟩ = some (.int .i64 (h.ct : Int)) ∧ w'.cell? ⟨p, 5, none⟩ = some (.int .i64 (h.bl : Int)) ∧ w'.cell? ⟨p, 6, none⟩ = some (.int .i64 (h.mo : Int)))
        (first | exact hS | go_keep)
        (first
          | (go_simp; go_at_call 64; rw [if_neg HCN.out]; ((with_reducible refine HSEAL.out.mono ?_)); (intro e w5 h5; obtain ⟨a5, k5, rfl, hr5, _, _, hb5⟩ := retOwn_len h5; rw [sealB_len] at hr5 ⊢; have hS := WideAt.below (h := h) (B := p) ⟨c0, c1, c2, c3, c4, c5, c6⟩ ((Below.refl _ W3).drew.trans hb5) (show p < W3.heap.size by rw [HZ3.out]; exact Nat.lt_succ_self _)))
          | (go_simp; go_at_call 13; ((with_reducible refine (sameB_any a5 64 k5 _ 64 _ _ os w5 hr5 (HR1.out _ (bel_of_drew hb5)).2.1).mono ?_)); (rintro e w6 ⟨rfl, rfl⟩; rw [HE.out])))
      have hb06 : Below w.heap.size w w6 := bel_trans HB.out (bel_of_drew hb5)
      have h06 : w6.heap[w.heap.size]? = some (.cells RH.zero.wide 105 (0, 0)) := by rw [hb5.block _ (show w.heap.size < W3.heap.size by rw [HZ3.out]; omega)]; exact H03.out
      obtain ⟨e0, e1, e2, e3, e4, e5, e6⟩ := wide_cells h06
      have f0 := wide_free h06 0
      have f1 := wide_free h06 1
      have f2 := wide_free h06 2
      have f3 := wide_free h06 3
      have f4 := wide_free h06 4
      have f5 := wide_free h06 5
      have f6 := wide_free h06 6
      obtain ⟨g0, g1, g2, g3, g4, g5, g6⟩ := hS
      clear h5 hr5 hb5 h06 HSEAL c0 c1 c2 c3 c4 c5 c6
      cases E with
      | true =>
        have HN : Hid (OpenOk ds os) := Lib.hid (HOK.out.2 ⟨HK.out.1, HK.out.2, (of_decide_eq_true HE.out).symm⟩)
        have HZ := Lib.hid (HOH.out.trans (if_pos HN.out))
        have HD := Lib.hid (decide_eq_true HN.out)
        go_wp2
        refine bodyPost_ret (v := .tuple #[.agg h.wide, .bool true]) ?_ rfl ⟨by rw [HZ.out, HD.out], ?_⟩
        · simp [results, Tryz.results44, go_sem, RH.wide, e0, e1, e2, e3, e4, e5, e6]
        · exact bel_six hb06 w.heap.size (Nat.le_refl _) _ _ _ _ _ _ _
      | false =>
        have HN : Hid (¬ OpenOk ds os) := Lib.hid fun e => of_decide_eq_false HE.out (HOK.out.1 e).2.2.symm
        have HZ := Lib.hid (HOH.out.trans (if_neg HN.out))
        have HD := Lib.hid (decide_eq_false HN.out)
        clear g0 g1 g2 g3 g4 g5 g6
        go_wp2
        refine bodyPost_ret (v := .tuple #[.agg RH.zero.wide, .bool false]) ?_ rfl ⟨by rw [HZ.out, HD.out], ?_⟩
        · simp [results, Tryz.results44, go_sem, RH.wide, RH.zero, e0, e1, e2, e3, e4, e5, e6]
        · exact bel_six hb06 w.heap.size (Nat.le_refl _) _ _ _ _ _ _ _
theorem refOpen_any (a : Option Addr) (len cap : Nat) (ds : List Nat) (a2 : Option Addr) (len2 cap2 : Nat) (os : List Nat) (w : World) (hr : Row w a len ds) (hl : len ≤ 1000) (hn : a = none → cap = 0) (hr2 : Row w a2 len2 os) (hlc2 : len2 ≤ cap2) (hcm2 : cap2 ≤ maxLen) :
    Calls Tryz.prog 44 #[.slice a len cap, .slice a2 len2 cap2] w fun e w' => e = .returned (.tuple #[.agg (openH ds os).wide, .bool (decide (OpenOk ds os))]) ∧ Below w.heap.size w w' := by
  by_cases h64 : len2 = 64
  · subst h64; exact refOpen_whole a len cap ds a2 cap2 os w hr hl hn hr2 hlc2 hcm2
  · exact refOpen_short a len cap ds a2 len2 cap2 os w h64 hr2

end Go.Proofs.YthgcjiocelcblaaGreat
