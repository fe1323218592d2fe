/- RecordTells: a logical block's. -/
import Derived.Test.YtjnjkoodeacpdaaRTellsDraw
import Derived.Deep.RegionHeld3
namespace Go.Proofs.Ytjnjkoodeacpdaa
open Go.RowKit

theorem slot_some {a : Act} {v : Value} (hs : a.tmps.size = 143) (k : Nat) (hk : k < 143) (h : a.tmps.getD k undef = v) : a.tmps[k]? = some v := by
  have h1 : k < a.tmps.size := by omega
  rw [← h]
  simp [h1]
theorem eql_data (e b i c l : Nat) (w : World) : (binOp .eql 110 (.agg #[.int .u32 ((e : Nat) : Int), .int .u32 ((b : Nat) : Int), .int .i64 ((i : Nat) : Int), .int .i64 ((c : Nat) : Int), .int .u32 ((l : Nat) : Int)]) (.agg #[.int .u32 ((e : Nat) : Int), .int .u32 ((b : Nat) : Int), .int .i64 ((i : Nat) : Int), .int .i64 ((c : Nat) : Int), .int .u32 ((l : Nat) : Int)])).run Try.prog w = .ok (.bool true) w := by
  have hu32 := Try.underlying83
  have hi := Try.underlying3
  have hu := Try.underlying110
  rw [run_eql_struct]
  rw [run_equalIn_agg w 9999 110 _ _ (by kernel_rfl) (by kernel_rfl)]
  simp [go_sem, Program.fieldsOf, hu, hi, hu32]
set_option maxRecDepth 100000 in
set_option maxHeartbeats 3200000 in
theorem recordTells_data (e b i c l m : Nat) (hi : i < 65536) (hc : c < 65536) (w : World) :
    Calls Try.prog 13 #[.agg (⟨4, e, b, i, c, l, m⟩ : RH).cells] w fun e' w' => e' = .returned (.bool true) ∧ Below w.heap.size w w' := by
  have HT : Hid (∀ W, Calls Try.prog 49 #[.agg #[.int .u8 4, .int .u32 ((e : Nat) : Int), .int .u32 ((b : Nat) : Int), .int .u16 ((i : Nat) : Int), .int .u16 ((c : Nat) : Int), .int .u32 ((l : Nat) : Int), .int .u32 ((m : Nat) : Int)]] W fun e' w' => e' = .returned (.iface 110 (.agg #[.int .u32 ((e : Nat) : Int), .int .u32 ((b : Nat) : Int), .int .i64 ((i : Nat) : Int), .int .i64 ((c : Nat) : Int), .int .u32 ((l : Nat) : Int)])) ∧ Below W.heap.size W w') := Lib.hid fun W => tell_data e b i c l m hi hc W
  have HS : Hid (∀ W, Calls Try.prog 51 #[.iface 110 (.agg #[.int .u32 ((e : Nat) : Int), .int .u32 ((b : Nat) : Int), .int .i64 ((i : Nat) : Int), .int .i64 ((c : Nat) : Int), .int .u32 ((l : Nat) : Int)])] W fun e' w' => e' = .returned (.tuple #[.agg #[.int .u8 4, .int .u32 ((e : Nat) : Int), .int .u32 ((b : Nat) : Int), .int .u16 ((i : Nat) : Int), .int .u16 ((c : Nat) : Int), .int .u32 ((l : Nat) : Int), .int .u32 0], .bool true]) ∧ Below W.heap.size W w') := Lib.hid fun W => Said_of _ _ _ (fun w0 => saidK_data e b i c l hi hc w0) W
  have HE : Hid (∀ W, Calls Try.prog 50 #[.iface 110 (.agg #[.int .u32 ((e : Nat) : Int), .int .u32 ((b : Nat) : Int), .int .i64 ((i : Nat) : Int), .int .i64 ((c : Nat) : Int), .int .u32 ((l : Nat) : Int)])] W fun e' w' => e' = .returned (.tuple #[.int .u32 ((e : Nat) : Int), .int .i64 0]) ∧ Below W.heap.size W w') := Lib.hid fun W => Epoch_of _ _ _ (fun w0 => saidK_data e b i c l hi hc w0) W
  have HA := Lib.hid (asData_data e b i c l)
  unfold RH.cells
  simp only
  have hh0 := hdr_new (⟨4, e, b, i, c, l, m⟩ : RH) w
  simp only at hh0
  go_enter Try.func13, Try.ntmps13
  go_wp2_with fail
  obtain ⟨W1, hW1⟩ : ∃ W1, W1 = w.alloc (.cells #[.int .u8 4, .int .u32 ((e : Nat) : Int), .int .u32 ((b : Nat) : Int), .int .u16 ((i : Nat) : Int), .int .u16 ((c : Nat) : Int), .int .u32 ((l : Nat) : Int), .int .u32 ((m : Nat) : Int)] 86) := ⟨_, rfl⟩
  have hh1 : HdrAt (⟨4, e, b, i, c, l, m⟩ : RH) w.heap.size W1 := by rw [hW1]; exact hh0
  have hb1 : Below w.heap.size w W1 := by rw [hW1]; exact bel_alloc (Below.refl _ w) _
  have hz1 : W1.heap.size = w.heap.size + 1 := by rw [hW1]; simp
  have e1 : w.alloc (.cells #[.int .u8 4, .int .u32 ((e : Nat) : Int), .int .u32 ((b : Nat) : Int), .int .u16 ((i : Nat) : Int), .int .u16 ((c : Nat) : Int), .int .u32 ((l : Nat) : Int), .int .u32 ((m : Nat) : Int)] 86) = W1 := hW1.symm
  clear hh0 hW1
  first | rw [e1] | skip
  refine (sealed_any _).mono ?_
  rintro e' w2 ⟨rfl, hb2⟩
  clear e1
  have hh2 := hh1.below hb2 (by omega)
  have hb02 := bel_trans hb1 hb2
  have hz2 : w.heap.size < w2.heap.size := by have := hb2.size; omega
  clear hh1 hb1 hb2 hz1
  obtain ⟨c0, c1, c2, c3, c4, c5, c6⟩ := hh2
  simp only at c0 c1 c2 c3 c4 c5 c6
  go_wp2_with fail
  refine (HT.out w2).mono ?_
  rintro e' w3 ⟨rfl, hb3⟩
  have hh3 : HdrAt (⟨4, e, b, i, c, l, m⟩ : RH) w.heap.size w3 := HdrAt.below ⟨c0, c1, c2, c3, c4, c5, c6⟩ hb3 hz2
  have hb03 := bel_trans hb02 hb3
  have hz3 : w.heap.size < w3.heap.size := by have := hb3.size; omega
  clear c0 c1 c2 c3 c4 c5 c6 hb02 hb3 hz2
  obtain ⟨c0, c1, c2, c3, c4, c5, c6⟩ := hh3
  simp only at c0 c1 c2 c3 c4 c5 c6
  go_wp2_with fail
  refine (HS.out w3).mono ?_
  rintro e' w4 ⟨rfl, hb4⟩
  have hh4 : HdrAt (⟨4, e, b, i, c, l, m⟩ : RH) w.heap.size w4 := HdrAt.below ⟨c0, c1, c2, c3, c4, c5, c6⟩ hb4 hz3
  have hb04 := bel_trans hb03 hb4
  have hz4 : w.heap.size < w4.heap.size := by have := hb4.size; omega
  clear c0 c1 c2 c3 c4 c5 c6 hb03 hb4 hz3
  have hy5 := hdr_new (⟨4, e, b, i, c, l, 0⟩ : RH) w4
  simp only at hy5
  have hb45 : Below w4.heap.size w4 (w4.alloc (.cells #[.int .u8 4, .int .u32 ((e : Nat) : Int), .int .u32 ((b : Nat) : Int), .int .u16 ((i : Nat) : Int), .int .u16 ((c : Nat) : Int), .int .u32 ((l : Nat) : Int), .int .u32 0] 86)) := bel_alloc (Below.refl _ w4) _
  have hh5 := hh4.below hb45 hz4
  have hz5 : (w4.alloc (.cells #[.int .u8 4, .int .u32 ((e : Nat) : Int), .int .u32 ((b : Nat) : Int), .int .u16 ((i : Nat) : Int), .int .u16 ((c : Nat) : Int), .int .u32 ((l : Nat) : Int), .int .u32 0] 86)).heap.size = w4.heap.size + 1 := by simp
  have hp6 := hdr_new (⟨4, e, b, i, c, l, 0⟩ : RH) (w4.alloc (.cells #[.int .u8 4, .int .u32 ((e : Nat) : Int), .int .u32 ((b : Nat) : Int), .int .u16 ((i : Nat) : Int), .int .u16 ((c : Nat) : Int), .int .u32 ((l : Nat) : Int), .int .u32 0] 86))
  simp only at hp6
  rw [hz5] at hp6
  have hb56 : Below (w4.heap.size + 1) (w4.alloc (.cells #[.int .u8 4, .int .u32 ((e : Nat) : Int), .int .u32 ((b : Nat) : Int), .int .u16 ((i : Nat) : Int), .int .u16 ((c : Nat) : Int), .int .u32 ((l : Nat) : Int), .int .u32 0] 86)) ((w4.alloc (.cells #[.int .u8 4, .int .u32 ((e : Nat) : Int), .int .u32 ((b : Nat) : Int), .int .u16 ((i : Nat) : Int), .int .u16 ((c : Nat) : Int), .int .u32 ((l : Nat) : Int), .int .u32 0] 86)).alloc (.cells #[.int .u8 4, .int .u32 ((e : Nat) : Int), .int .u32 ((b : Nat) : Int), .int .u16 ((i : Nat) : Int), .int .u16 ((c : Nat) : Int), .int .u32 ((l : Nat) : Int), .int .u32 0] 86)) := by rw [← hz5]; exact bel_alloc (Below.refl _ _) _
  obtain ⟨W6, hW6⟩ : ∃ W6, W6 = ((w4.alloc (.cells #[.int .u8 4, .int .u32 ((e : Nat) : Int), .int .u32 ((b : Nat) : Int), .int .u16 ((i : Nat) : Int), .int .u16 ((c : Nat) : Int), .int .u32 ((l : Nat) : Int), .int .u32 0] 86)).alloc (.cells #[.int .u8 4, .int .u32 ((e : Nat) : Int), .int .u32 ((b : Nat) : Int), .int .u16 ((i : Nat) : Int), .int .u16 ((c : Nat) : Int), .int .u32 ((l : Nat) : Int), .int .u32 0] 86)).drew := ⟨_, rfl⟩
  have hy6 : HdrAt (⟨4, e, b, i, c, l, 0⟩ : RH) w4.heap.size W6 := by rw [hW6]; exact HdrAt.below hy5 hb56.drew (by omega)
  have hh6 : HdrAt (⟨4, e, b, i, c, l, m⟩ : RH) w.heap.size W6 := by rw [hW6]; exact hh5.below hb56.drew (by omega)
  have hp6' : HdrAt (⟨4, e, b, i, c, l, 0⟩ : RH) (w4.heap.size + 1) W6 := by rw [hW6]; exact hp6
  have hb06 : Below w.heap.size w W6 := by rw [hW6]; exact (bel_alloc (bel_alloc hb04 _) _).drew
  have hz6 : W6.heap.size = w4.heap.size + 2 := by rw [hW6]; show ((w4.alloc _).alloc _).heap.size = _; simp
  have hc4 : HdrAt (⟨4, e, b, i, c, l, m⟩ : RH) w.heap.size w4 := hh4
  obtain ⟨c0, c1, c2, c3, c4, c5, c6⟩ := hc4
  simp only at c0 c1 c2 c3 c4 c5 c6
  have n1 : w4.heap.size ≠ w.heap.size := by omega
  have n2 : w4.heap.size + 1 ≠ w.heap.size := by omega
  clear hy5 hh5 hp6 hb45 hb56 hz5 hh4 hb04
  have HZ6 := Lib.hid hz6
  have HW6 := Lib.hid hW6
  clear hW6 hz6
  go_upto_region 13 with fail
  go_region_held3 (fun w' => w'.cell? ⟨w.heap.size, 2, none⟩ = some (.int .u32 ((b : Nat) : Int)) ∧ w'.cell? ⟨w.heap.size, 5, none⟩ = some (.int .u32 ((l : Nat) : Int))) (go_keep) (fail)
  all_goals
    go_wp2_with fail
    rw [← HW6.out]
    refine (HE.out W6).mono ?_
    rintro e' w7 ⟨rfl, hb7⟩
    have hz7 := hb7.size
    have hy7 := hy6.below hb7 (by have := HZ6.out; omega)
    have hh7 := hh6.below hb7 (by have := HZ6.out; omega)
    have hp7 := hp6'.below hb7 (by have := HZ6.out; omega)
    have hb07 := bel_trans hb06 hb7
    clear hy6 hh6 hp6' hb06 hb7 c0 c1 c2 c3 c4 c5 c6
    go_wp2_with fail
    refine (HA.out w7).mono ?_
    rintro e' w8 ⟨rfl, hb8⟩
    have hz8 := hb8.size
    have hy8 := hy7.below hb8 (by have := HZ6.out; omega)
    have hh8 := hh7.below hb8 (by have := HZ6.out; omega)
    have hp8 := hp7.below hb8 (by have := HZ6.out; omega)
    have hb08 := bel_trans hb07 hb8
    clear hy7 hh7 hp7 hb07 hb8
    have hb89 : Below w8.heap.size w8 (w8.alloc (.cells #[.int .u32 ((e : Nat) : Int), .int .u32 ((b : Nat) : Int), .int .i64 ((i : Nat) : Int), .int .i64 ((c : Nat) : Int), .int .u32 ((l : Nat) : Int)] 110)) := bel_alloc (Below.refl _ w8) _
    have hy9 := hy8.below hb89 (by have := HZ6.out; omega)
    have hh9 := hh8.below hb89 (by have := HZ6.out; omega)
    have hp9 := hp8.below hb89 (by have := HZ6.out; omega)
    have hb09 := bel_trans hb08 hb89
    have hd9 : (w8.alloc (.cells #[.int .u32 ((e : Nat) : Int), .int .u32 ((b : Nat) : Int), .int .i64 ((i : Nat) : Int), .int .i64 ((c : Nat) : Int), .int .u32 ((l : Nat) : Int)] 110)).cell? ⟨w8.heap.size, 0, none⟩ = some (.int .u32 ((e : Nat) : Int)) ∧ (w8.alloc (.cells #[.int .u32 ((e : Nat) : Int), .int .u32 ((b : Nat) : Int), .int .i64 ((i : Nat) : Int), .int .i64 ((c : Nat) : Int), .int .u32 ((l : Nat) : Int)] 110)).cell? ⟨w8.heap.size, 1, none⟩ = some (.int .u32 ((b : Nat) : Int)) ∧ (w8.alloc (.cells #[.int .u32 ((e : Nat) : Int), .int .u32 ((b : Nat) : Int), .int .i64 ((i : Nat) : Int), .int .i64 ((c : Nat) : Int), .int .u32 ((l : Nat) : Int)] 110)).cell? ⟨w8.heap.size, 2, none⟩ = some (.int .i64 ((i : Nat) : Int)) ∧ (w8.alloc (.cells #[.int .u32 ((e : Nat) : Int), .int .u32 ((b : Nat) : Int), .int .i64 ((i : Nat) : Int), .int .i64 ((c : Nat) : Int), .int .u32 ((l : Nat) : Int)] 110)).cell? ⟨w8.heap.size, 3, none⟩ = some (.int .i64 ((c : Nat) : Int)) ∧ (w8.alloc (.cells #[.int .u32 ((e : Nat) : Int), .int .u32 ((b : Nat) : Int), .int .i64 ((i : Nat) : Int), .int .i64 ((c : Nat) : Int), .int .u32 ((l : Nat) : Int)] 110)).cell? ⟨w8.heap.size, 4, none⟩ = some (.int .u32 ((l : Nat) : Int)) := by
      refine ⟨?_, ?_, ?_, ?_, ?_⟩
      all_goals (rw [World.cell?_alloc_mark w8 #[.int .u32 ((e : Nat) : Int), .int .u32 ((b : Nat) : Int), .int .i64 ((i : Nat) : Int), .int .i64 ((c : Nat) : Int), .int .u32 ((l : Nat) : Int)] 110 (0, 0)]; rfl)
    obtain ⟨W9, hW9⟩ : ∃ W9, W9 = w8.alloc (.cells #[.int .u32 ((e : Nat) : Int), .int .u32 ((b : Nat) : Int), .int .i64 ((i : Nat) : Int), .int .i64 ((c : Nat) : Int), .int .u32 ((l : Nat) : Int)] 110) := ⟨_, rfl⟩
    rw [← hW9] at hy9 hh9 hp9 hb09 hd9
    have HW9 := Lib.hid hW9
    clear hW9 hy8 hh8 hp8 hb08 hb89
    obtain ⟨c0, c1, c2, c3, c4, c5, c6⟩ := hh9
    obtain ⟨y0, y1, y2, y3, y4, y5, y6⟩ := hy9
    obtain ⟨p0, p1, p2, p3, p4, p5, p6⟩ := hp9
    obtain ⟨d0, d1, d2, d3, d4⟩ := hd9
    simp only at c0 c1 c2 c3 c4 c5 c6 y0 y1 y2 y3 y4 y5 y6 p0 p1 p2 p3 p4 p5 p6
    have hq : ∀ w, (binOp .neq 86 (.agg #[.int .u8 4, .int .u32 ((e : Nat) : Int), .int .u32 ((b : Nat) : Int), .int .u16 ((i : Nat) : Int), .int .u16 ((c : Nat) : Int), .int .u32 ((l : Nat) : Int), .int .u32 0]) (.agg #[.int .u8 4, .int .u32 ((e : Nat) : Int), .int .u32 ((b : Nat) : Int), .int .u16 ((i : Nat) : Int), .int .u16 ((c : Nat) : Int), .int .u32 ((l : Nat) : Int), .int .u32 0])).run Try.prog w = .ok (.bool false) w := fun w => by
      have h := neq_hdr' (⟨4, e, b, i, c, l, 0⟩ : RH) (⟨4, e, b, i, c, l, 0⟩ : RH) w
      rw [eqH_self] at h
      exact h
    go_upto_region 20 with fail
    rw [← HW9.out]
    have hqd : ∀ w, (binOp .eql 110 (.agg #[.int .u32 ((e : Nat) : Int), .int .u32 ((b : Nat) : Int), .int .i64 ((i : Nat) : Int), .int .i64 ((c : Nat) : Int), .int .u32 ((l : Nat) : Int)]) (.agg #[.int .u32 ((e : Nat) : Int), .int .u32 ((b : Nat) : Int), .int .i64 ((i : Nat) : Int), .int .i64 ((c : Nat) : Int), .int .u32 ((l : Nat) : Int)])).run Try.prog w = .ok (.bool true) w := eql_data e b i c l
    have HQD := Lib.hid hqd
    have HM := Lib.hid (mustData_data e b i c l)
    go_upto_region 22 with fail
    obtain ⟨pd, hpd⟩ : ∃ pd, pd = w8.heap.size := ⟨_, rfl⟩
    rw [← hpd] at d0 d1 d2 d3 d4 ⊢
    have hpz : pd < W9.heap.size := World.block_lt_of_cell? W9 ⟨pd, 0, none⟩ d0
    have hwz : w.heap.size < W9.heap.size := World.block_lt_of_cell? W9 ⟨w.heap.size, 0, none⟩ c0
    have HDT : Hid (∀ w', Below W9.drew.heap.size W9.drew w' → w'.cell? ⟨pd, 0, none⟩ = some (.int .u32 ((e : Nat) : Int)) ∧ w'.cell? ⟨pd, 1, none⟩ = some (.int .u32 ((b : Nat) : Int)) ∧ w'.cell? ⟨pd, 2, none⟩ = some (.int .i64 ((i : Nat) : Int)) ∧ w'.cell? ⟨pd, 3, none⟩ = some (.int .i64 ((c : Nat) : Int)) ∧ w'.cell? ⟨pd, 4, none⟩ = some (.int .u32 ((l : Nat) : Int))) := Lib.hid fun w' hb => by
      have hc : ∀ k, w'.cell? ⟨pd, k, none⟩ = W9.cell? ⟨pd, k, none⟩ := fun k => hb.cell (p := ⟨pd, k, none⟩) hpz
      simp only [hc]
      exact ⟨d0, d1, d2, d3, d4⟩
    have HHD : Hid (∀ w', Below W9.drew.heap.size W9.drew w' → HdrAt (⟨4, e, b, i, c, l, m⟩ : RH) w.heap.size w') := Lib.hid fun w' hb => HdrAt.below (w := W9) ⟨c0, c1, c2, c3, c4, c5, c6⟩ ((Below.refl _ W9).drew.trans hb) hwz
    clear hqd hq c0 c1 c2 c3 c4 c5 c6 d0 d1 d2 d3 d4 y0 y1 y2 y3 y4 y5 y6 p0 p1 p2 p3 p4 p5 p6 hpd
    refine wp_region_inv0 (fun a0 => TellI e b i c l w.heap.size a0 W9.drew) (by kernel_rfl) (by kernel_rfl) ?start ?step ?done
    case start => exact ⟨rfl, rfl, fun _ _ _ => rfl, Below.refl _ _, fun _ _ h => h.elim⟩
    case step =>
      intro L a' w' i' o hI ho hL hpre
      match i', ho, hL, hpre with
      | 0, ho, hL, hpre =>
        clear hL
        cases ho
        have q12 : a'.tmps.getD 12 undef = .bool true := hI.old 12 (by omega) (by omega)
        have e12 : a'.tmps[12]?.getD undef = .bool true := by rw [← q12]; simp
        refine wpOp_step rfl fun K hK => ?_
        have hK' := hK _ _ (hI.put 0 (.bool true) w' (by omega) (Below.refl _ _))
        simpa [go_sem, Act.eval, Region.wanted, yielded, tellSlot, q12, e12] using hK'
      | 1, ho, hL, hpre =>
        clear hL
        cases ho
        have q110 : a'.tmps.getD 110 undef = .bool true := hI.val 0 (by omega) (hpre ⟨0, .data⟩ (by simp) rfl)
        have e110 : a'.tmps[110]?.getD undef = .bool true := by rw [← q110]; simp
        refine wpOp_step rfl fun K hK => ?_
        have hK' := hK _ _ (hI.put 1 (.bool false) w' (by omega) (Below.refl _ _))
        simpa [go_sem, Act.eval, Region.wanted, yielded, tellSlot, q110, e110] using hK'
      | 2, ho, hL, hpre =>
        clear hL
        cases ho
        have q111 : a'.tmps.getD 111 undef = .bool false := hI.val 1 (by omega) (hpre ⟨1, .data⟩ (by simp) rfl)
        have e111 : a'.tmps[111]?.getD undef = .bool false := by rw [← q111]; simp
        refine wpOp_step rfl fun K hK => ?_
        have hK' := hK _ _ (hI.put 2 (.bool false) w' (by omega) (Below.refl _ _))
        simpa [go_sem, Act.eval, Region.wanted, yielded, tellSlot, q111, e111] using hK'
      | 3, ho, hL, hpre =>
        clear hL
        cases ho
        have q112 : a'.tmps.getD 112 undef = .bool false := hI.val 2 (by omega) (hpre ⟨2, .guard⟩ (by simp) rfl)
        have e112 : a'.tmps[112]?.getD undef = .bool false := by rw [← q112]; simp
        have s112 := slot_some hI.sz 112 (by omega) q112
        refine wpOp_step rfl fun K hK => ?_
        have hK' := hK _ _ (hI.put 3 (undef) w' (by omega) (Below.refl _ _))
        simpa [go_sem, Act.eval, Region.wanted, yielded, tellSlot, q112, e112, s112] using hK'
      | 4, ho, hL, hpre =>
        clear hL
        cases ho
        have q112 : a'.tmps.getD 112 undef = .bool false := hI.val 2 (by omega) (hpre ⟨2, .guard⟩ (by simp) rfl)
        have e112 : a'.tmps[112]?.getD undef = .bool false := by rw [← q112]; simp
        have s112 := slot_some hI.sz 112 (by omega) q112
        refine wpOp_step rfl fun K hK => ?_
        have hK' := hK _ _ (hI.put 4 (undef) w' (by omega) (Below.refl _ _))
        simpa [go_sem, Act.eval, Region.wanted, yielded, tellSlot, q112, e112, s112] using hK'
      | 5, ho, hL, hpre =>
        clear hL
        cases ho
        have q112 : a'.tmps.getD 112 undef = .bool false := hI.val 2 (by omega) (hpre ⟨2, .guard⟩ (by simp) rfl)
        have e112 : a'.tmps[112]?.getD undef = .bool false := by rw [← q112]; simp
        have s112 := slot_some hI.sz 112 (by omega) q112
        refine wpOp_step rfl fun K hK => ?_
        have hK' := hK _ _ (hI.put 5 (undef) w' (by omega) (Below.refl _ _))
        simpa [go_sem, Act.eval, Region.wanted, yielded, tellSlot, q112, e112, s112] using hK'
      | 6, ho, hL, hpre =>
        clear hL
        cases ho
        have q112 : a'.tmps.getD 112 undef = .bool false := hI.val 2 (by omega) (hpre ⟨2, .data⟩ (by simp) rfl)
        have e112 : a'.tmps[112]?.getD undef = .bool false := by rw [← q112]; simp
        refine wpOp_step rfl fun K hK => ?_
        have hK' := hK _ _ (hI.put 6 (.bool false) w' (by omega) (Below.refl _ _))
        simpa [go_sem, Act.eval, Region.wanted, yielded, tellSlot, q112, e112] using hK'
      | 7, ho, hL, hpre =>
        clear hL
        cases ho
        have q116 : a'.tmps.getD 116 undef = .bool false := hI.val 6 (by omega) (hpre ⟨6, .data⟩ (by simp) rfl)
        have e116 : a'.tmps[116]?.getD undef = .bool false := by rw [← q116]; simp
        refine wpOp_step rfl fun K hK => ?_
        have hK' := hK _ _ (hI.put 7 (.bool false) w' (by omega) (Below.refl _ _))
        simpa [go_sem, Act.eval, Region.wanted, yielded, tellSlot, q116, e116] using hK'
      | 8, ho, hL, hpre =>
        clear hL
        cases ho
        have q12 : a'.tmps.getD 12 undef = .bool true := hI.old 12 (by omega) (by omega)
        have e12 : a'.tmps[12]?.getD undef = .bool true := by rw [← q12]; simp
        have q117 : a'.tmps.getD 117 undef = .bool false := hI.val 7 (by omega) (hpre ⟨7, .guard⟩ (by simp) rfl)
        have e117 : a'.tmps[117]?.getD undef = .bool false := by rw [← q117]; simp
        have s117 := slot_some hI.sz 117 (by omega) q117
        refine wpOp_step rfl fun K hK => ?_
        have hK' := hK _ _ (hI.put 8 (.bool true) w' (by omega) (Below.refl _ _))
        simpa [go_sem, Act.eval, Region.wanted, yielded, tellSlot, q12, e12, q117, e117, s117] using hK'
      | 9, ho, hL, hpre =>
        clear hL
        cases ho
        have q118 : a'.tmps.getD 118 undef = .bool true := hI.val 8 (by omega) (hpre ⟨8, .data⟩ (by simp) rfl)
        have e118 : a'.tmps[118]?.getD undef = .bool true := by rw [← q118]; simp
        have q117 : a'.tmps.getD 117 undef = .bool false := hI.val 7 (by omega) (hpre ⟨7, .chain⟩ (by simp) rfl)
        have e117 : a'.tmps[117]?.getD undef = .bool false := by rw [← q117]; simp
        have s117 := slot_some hI.sz 117 (by omega) q117
        refine wpOp_step rfl fun K hK => ?_
        have hK' := hK _ _ (hI.put 9 (.bool true) w' (by omega) (Below.refl _ _))
        simpa [go_sem, Act.eval, Region.wanted, yielded, tellSlot, q118, e118, q117, e117, s117] using hK'
      | 10, ho, hL, hpre =>
        clear hL
        cases ho
        have q119 : a'.tmps.getD 119 undef = .bool true := hI.val 9 (by omega) (hpre ⟨9, .guard⟩ (by simp) rfl)
        have e119 : a'.tmps[119]?.getD undef = .bool true := by rw [← q119]; simp
        have s119 := slot_some hI.sz 119 (by omega) q119
        obtain ⟨g0, g1, g2, g3, g4⟩ := HDT.out w' hI.bel
        have q11 : a'.tmps.getD 11 undef = .pointer (some ⟨pd, 0, none⟩) := hI.old 11 (by omega) (by omega)
        refine wpOp_step rfl fun K hK => ?_
        have hK' := hK _ _ (hI.put 10 (.agg #[.int .u32 ((e : Nat) : Int), .int .u32 ((b : Nat) : Int), .int .i64 ((i : Nat) : Int), .int .i64 ((c : Nat) : Int), .int .u32 ((l : Nat) : Int)]) w' (by omega) (Below.refl _ _))
        simpa [go_sem, Act.eval, Region.wanted, yielded, tellSlot, q119, e119, s119, q11, g0, g1, g2, g3, g4] using hK'
      | 11, ho, hL, hpre =>
        clear hL
        cases ho
        have q119 : a'.tmps.getD 119 undef = .bool true := hI.val 9 (by omega) (hpre ⟨9, .guard⟩ (by simp) rfl)
        have e119 : a'.tmps[119]?.getD undef = .bool true := by rw [← q119]; simp
        have s119 := slot_some hI.sz 119 (by omega) q119
        have q3 : a'.tmps.getD 3 undef = .iface 110 (.agg #[.int .u32 ((e : Nat) : Int), .int .u32 ((b : Nat) : Int), .int .i64 ((i : Nat) : Int), .int .i64 ((c : Nat) : Int), .int .u32 ((l : Nat) : Int)]) := hI.old 3 (by omega) (by omega)
        refine wpOp_step rfl fun K hK => ?_
        have hK' := hK _ _ (hI.put 11 (.iface 110 (.agg #[.int .u32 ((e : Nat) : Int), .int .u32 ((b : Nat) : Int), .int .i64 ((i : Nat) : Int), .int .i64 ((c : Nat) : Int), .int .u32 ((l : Nat) : Int)])) w' (by omega) (Below.refl _ _))
        simpa [go_sem, Act.eval, Region.wanted, yielded, tellSlot, q119, e119, s119, q3] using hK'
      | 12, ho, hL, hpre =>
        clear hL
        cases ho
        have q121 : a'.tmps.getD 121 undef = .iface 110 (.agg #[.int .u32 ((e : Nat) : Int), .int .u32 ((b : Nat) : Int), .int .i64 ((i : Nat) : Int), .int .i64 ((c : Nat) : Int), .int .u32 ((l : Nat) : Int)]) := hI.val 11 (by omega) (hpre ⟨11, .data⟩ (by simp) rfl)
        have e121 : a'.tmps[121]?.getD undef = .iface 110 (.agg #[.int .u32 ((e : Nat) : Int), .int .u32 ((b : Nat) : Int), .int .i64 ((i : Nat) : Int), .int .i64 ((c : Nat) : Int), .int .u32 ((l : Nat) : Int)]) := by rw [← q121]; simp
        have q119 : a'.tmps.getD 119 undef = .bool true := hI.val 9 (by omega) (hpre ⟨9, .chain⟩ (by simp) rfl)
        have e119 : a'.tmps[119]?.getD undef = .bool true := by rw [← q119]; simp
        have s119 := slot_some hI.sz 119 (by omega) q119
        refine wpOp_step rfl fun K hK => ?_
        simp [go_sem, Act.eval, Region.wanted, yielded, q121, s119]
        refine (HM.out w').mono ?_
        rintro e' w2 ⟨rfl, hb2⟩
        exact hK _ _ (hI.put 12 (.agg #[.int .u32 ((e : Nat) : Int), .int .u32 ((b : Nat) : Int), .int .i64 ((i : Nat) : Int), .int .i64 ((c : Nat) : Int), .int .u32 ((l : Nat) : Int)]) w2 (by omega) hb2)
      | 13, ho, hL, hpre =>
        clear hL
        cases ho
        have q120 : a'.tmps.getD 120 undef = .agg #[.int .u32 ((e : Nat) : Int), .int .u32 ((b : Nat) : Int), .int .i64 ((i : Nat) : Int), .int .i64 ((c : Nat) : Int), .int .u32 ((l : Nat) : Int)] := hI.val 10 (by omega) (hpre ⟨10, .data⟩ (by simp) rfl)
        have e120 : a'.tmps[120]?.getD undef = .agg #[.int .u32 ((e : Nat) : Int), .int .u32 ((b : Nat) : Int), .int .i64 ((i : Nat) : Int), .int .i64 ((c : Nat) : Int), .int .u32 ((l : Nat) : Int)] := by rw [← q120]; simp
        have q122 : a'.tmps.getD 122 undef = .agg #[.int .u32 ((e : Nat) : Int), .int .u32 ((b : Nat) : Int), .int .i64 ((i : Nat) : Int), .int .i64 ((c : Nat) : Int), .int .u32 ((l : Nat) : Int)] := hI.val 12 (by omega) (hpre ⟨12, .data⟩ (by simp) rfl)
        have e122 : a'.tmps[122]?.getD undef = .agg #[.int .u32 ((e : Nat) : Int), .int .u32 ((b : Nat) : Int), .int .i64 ((i : Nat) : Int), .int .i64 ((c : Nat) : Int), .int .u32 ((l : Nat) : Int)] := by rw [← q122]; simp
        have q119 : a'.tmps.getD 119 undef = .bool true := hI.val 9 (by omega) (hpre ⟨9, .guard⟩ (by simp) rfl)
        have e119 : a'.tmps[119]?.getD undef = .bool true := by rw [← q119]; simp
        have s119 := slot_some hI.sz 119 (by omega) q119
        have hqd := HQD.out w'
        refine wpOp_step rfl fun K hK => ?_
        have hK' := hK _ _ (hI.put 13 (.bool true) w' (by omega) (Below.refl _ _))
        simpa [go_sem, Act.eval, Region.wanted, yielded, tellSlot, q120, e120, q122, e122, q119, e119, s119, hqd] using hK'
      | 14, ho, hL, hpre =>
        clear hL
        cases ho
        have q119 : a'.tmps.getD 119 undef = .bool true := hI.val 9 (by omega) (hpre ⟨9, .data⟩ (by simp) rfl)
        have e119 : a'.tmps[119]?.getD undef = .bool true := by rw [← q119]; simp
        have q123 : a'.tmps.getD 123 undef = .bool true := hI.val 13 (by omega) (hpre ⟨13, .data⟩ (by simp) rfl)
        have e123 : a'.tmps[123]?.getD undef = .bool true := by rw [← q123]; simp
        have q117 : a'.tmps.getD 117 undef = .bool false := hI.val 7 (by omega) (hpre ⟨7, .guard⟩ (by simp) rfl)
        have e117 : a'.tmps[117]?.getD undef = .bool false := by rw [← q117]; simp
        have s117 := slot_some hI.sz 117 (by omega) q117
        refine wpOp_step rfl fun K hK => ?_
        have hK' := hK _ _ (hI.put 14 (.bool true) w' (by omega) (Below.refl _ _))
        simpa [go_sem, Act.eval, Region.wanted, yielded, tellSlot, q119, e119, q123, e123, q117, e117, s117] using hK'
      | 15, ho, hL, hpre =>
        clear hL
        cases ho
        have q124 : a'.tmps.getD 124 undef = .bool true := hI.val 14 (by omega) (hpre ⟨14, .data⟩ (by simp) rfl)
        have e124 : a'.tmps[124]?.getD undef = .bool true := by rw [← q124]; simp
        have q117 : a'.tmps.getD 117 undef = .bool false := hI.val 7 (by omega) (hpre ⟨7, .guard⟩ (by simp) rfl)
        have e117 : a'.tmps[117]?.getD undef = .bool false := by rw [← q117]; simp
        have s117 := slot_some hI.sz 117 (by omega) q117
        refine wpOp_step rfl fun K hK => ?_
        have hK' := hK _ _ (hI.put 15 (.bool true) w' (by omega) (Below.refl _ _))
        simpa [go_sem, Act.eval, Region.wanted, yielded, tellSlot, q124, e124, q117, e117, s117] using hK'
      | 16, ho, hL, hpre =>
        clear hL
        cases ho
        have q125 : a'.tmps.getD 125 undef = .bool true := hI.val 15 (by omega) (hpre ⟨15, .guard⟩ (by simp) rfl)
        have e125 : a'.tmps[125]?.getD undef = .bool true := by rw [← q125]; simp
        have s125 := slot_some hI.sz 125 (by omega) q125
        obtain ⟨g0, g1, g2, g3, g4⟩ := HDT.out w' hI.bel
        have q11 : a'.tmps.getD 11 undef = .pointer (some ⟨pd, 0, none⟩) := hI.old 11 (by omega) (by omega)
        refine wpOp_step rfl fun K hK => ?_
        have hK' := hK _ _ (hI.put 16 (.agg #[.int .u32 ((e : Nat) : Int), .int .u32 ((b : Nat) : Int), .int .i64 ((i : Nat) : Int), .int .i64 ((c : Nat) : Int), .int .u32 ((l : Nat) : Int)]) w' (by omega) (Below.refl _ _))
        simpa [go_sem, Act.eval, Region.wanted, yielded, tellSlot, q125, e125, s125, q11, g0, g1, g2, g3, g4] using hK'
      | 17, ho, hL, hpre =>
        clear hL
        cases ho
        have q125 : a'.tmps.getD 125 undef = .bool true := hI.val 15 (by omega) (hpre ⟨15, .guard⟩ (by simp) rfl)
        have e125 : a'.tmps[125]?.getD undef = .bool true := by rw [← q125]; simp
        have s125 := slot_some hI.sz 125 (by omega) q125
        have q1 : a'.tmps.getD 1 undef = .pointer (some ⟨w.heap.size, 0, none⟩) := hI.old 1 (by omega) (by omega)
        refine wpOp_step rfl fun K hK => ?_
        have hK' := hK _ _ (hI.put 17 (.pointer (some ⟨w.heap.size, 1, none⟩)) w' (by omega) (Below.refl _ _))
        simpa [go_sem, Act.eval, Region.wanted, yielded, tellSlot, q125, e125, s125, q1] using hK'
      | 18, ho, hL, hpre =>
        clear hL
        cases ho
        have q127 : a'.tmps.getD 127 undef = .pointer (some ⟨w.heap.size, 1, none⟩) := hI.val 17 (by omega) (hpre ⟨17, .data⟩ (by simp) rfl)
        have e127 : a'.tmps[127]?.getD undef = .pointer (some ⟨w.heap.size, 1, none⟩) := by rw [← q127]; simp
        have q125 : a'.tmps.getD 125 undef = .bool true := hI.val 15 (by omega) (hpre ⟨15, .guard⟩ (by simp) rfl)
        have e125 : a'.tmps[125]?.getD undef = .bool true := by rw [← q125]; simp
        have s125 := slot_some hI.sz 125 (by omega) q125
        obtain ⟨g0, g1, g2, g3, g4, g5, g6⟩ := HHD.out w' hI.bel
        simp only at g0 g1 g2 g3 g4 g5 g6
        refine wpOp_step rfl fun K hK => ?_
        have hK' := hK _ _ (hI.put 18 (.int .u32 ((e : Nat) : Int)) w' (by omega) (Below.refl _ _))
        simpa [go_sem, Act.eval, Region.wanted, yielded, tellSlot, q127, e127, q125, e125, s125, g1] using hK'
      | 19, ho, hL, hpre =>
        clear hL
        cases ho
        have q125 : a'.tmps.getD 125 undef = .bool true := hI.val 15 (by omega) (hpre ⟨15, .guard⟩ (by simp) rfl)
        have e125 : a'.tmps[125]?.getD undef = .bool true := by rw [← q125]; simp
        have s125 := slot_some hI.sz 125 (by omega) q125
        have q1 : a'.tmps.getD 1 undef = .pointer (some ⟨w.heap.size, 0, none⟩) := hI.old 1 (by omega) (by omega)
        refine wpOp_step rfl fun K hK => ?_
        have hK' := hK _ _ (hI.put 19 (.pointer (some ⟨w.heap.size, 2, none⟩)) w' (by omega) (Below.refl _ _))
        simpa [go_sem, Act.eval, Region.wanted, yielded, tellSlot, q125, e125, s125, q1] using hK'
      | 20, ho, hL, hpre =>
        clear hL
        cases ho
        have q129 : a'.tmps.getD 129 undef = .pointer (some ⟨w.heap.size, 2, none⟩) := hI.val 19 (by omega) (hpre ⟨19, .data⟩ (by simp) rfl)
        have e129 : a'.tmps[129]?.getD undef = .pointer (some ⟨w.heap.size, 2, none⟩) := by rw [← q129]; simp
        have q125 : a'.tmps.getD 125 undef = .bool true := hI.val 15 (by omega) (hpre ⟨15, .guard⟩ (by simp) rfl)
        have e125 : a'.tmps[125]?.getD undef = .bool true := by rw [← q125]; simp
        have s125 := slot_some hI.sz 125 (by omega) q125
        obtain ⟨g0, g1, g2, g3, g4, g5, g6⟩ := HHD.out w' hI.bel
        simp only at g0 g1 g2 g3 g4 g5 g6
        refine wpOp_step rfl fun K hK => ?_
        have hK' := hK _ _ (hI.put 20 (.int .u32 ((b : Nat) : Int)) w' (by omega) (Below.refl _ _))
        simpa [go_sem, Act.eval, Region.wanted, yielded, tellSlot, q129, e129, q125, e125, s125, g2] using hK'
      | 21, ho, hL, hpre =>
        clear hL
        cases ho
        have q125 : a'.tmps.getD 125 undef = .bool true := hI.val 15 (by omega) (hpre ⟨15, .guard⟩ (by simp) rfl)
        have e125 : a'.tmps[125]?.getD undef = .bool true := by rw [← q125]; simp
        have s125 := slot_some hI.sz 125 (by omega) q125
        have q1 : a'.tmps.getD 1 undef = .pointer (some ⟨w.heap.size, 0, none⟩) := hI.old 1 (by omega) (by omega)
        refine wpOp_step rfl fun K hK => ?_
        have hK' := hK _ _ (hI.put 21 (.pointer (some ⟨w.heap.size, 3, none⟩)) w' (by omega) (Below.refl _ _))
        simpa [go_sem, Act.eval, Region.wanted, yielded, tellSlot, q125, e125, s125, q1] using hK'
      | 22, ho, hL, hpre =>
        clear hL
        cases ho
        have q131 : a'.tmps.getD 131 undef = .pointer (some ⟨w.heap.size, 3, none⟩) := hI.val 21 (by omega) (hpre ⟨21, .data⟩ (by simp) rfl)
        have e131 : a'.tmps[131]?.getD undef = .pointer (some ⟨w.heap.size, 3, none⟩) := by rw [← q131]; simp
        have q125 : a'.tmps.getD 125 undef = .bool true := hI.val 15 (by omega) (hpre ⟨15, .guard⟩ (by simp) rfl)
        have e125 : a'.tmps[125]?.getD undef = .bool true := by rw [← q125]; simp
        have s125 := slot_some hI.sz 125 (by omega) q125
        obtain ⟨g0, g1, g2, g3, g4, g5, g6⟩ := HHD.out w' hI.bel
        simp only at g0 g1 g2 g3 g4 g5 g6
        refine wpOp_step rfl fun K hK => ?_
        have hK' := hK _ _ (hI.put 22 (.int .u16 ((i : Nat) : Int)) w' (by omega) (Below.refl _ _))
        simpa [go_sem, Act.eval, Region.wanted, yielded, tellSlot, q131, e131, q125, e125, s125, g3] using hK'
      | 23, ho, hL, hpre =>
        clear hL
        cases ho
        have q132 : a'.tmps.getD 132 undef = .int .u16 ((i : Nat) : Int) := hI.val 22 (by omega) (hpre ⟨22, .data⟩ (by simp) rfl)
        have e132 : a'.tmps[132]?.getD undef = .int .u16 ((i : Nat) : Int) := by rw [← q132]; simp
        have q125 : a'.tmps.getD 125 undef = .bool true := hI.val 15 (by omega) (hpre ⟨15, .guard⟩ (by simp) rfl)
        have e125 : a'.tmps[125]?.getD undef = .bool true := by rw [← q125]; simp
        have s125 := slot_some hI.sz 125 (by omega) q125
        have hwr : IntKind.i64.wrap ((i : Nat) : Int) = ((i : Nat) : Int) := by rw [IntKind.wrap_i64]; omega
        refine wpOp_step rfl fun K hK => ?_
        have hK' := hK _ _ (hI.put 23 (.int .i64 ((i : Nat) : Int)) w' (by omega) (Below.refl _ _))
        simpa [go_sem, Act.eval, Region.wanted, yielded, tellSlot, q132, e132, q125, e125, s125, hwr] using hK'
      | 24, ho, hL, hpre =>
        clear hL
        cases ho
        have q125 : a'.tmps.getD 125 undef = .bool true := hI.val 15 (by omega) (hpre ⟨15, .guard⟩ (by simp) rfl)
        have e125 : a'.tmps[125]?.getD undef = .bool true := by rw [← q125]; simp
        have s125 := slot_some hI.sz 125 (by omega) q125
        have q1 : a'.tmps.getD 1 undef = .pointer (some ⟨w.heap.size, 0, none⟩) := hI.old 1 (by omega) (by omega)
        refine wpOp_step rfl fun K hK => ?_
        have hK' := hK _ _ (hI.put 24 (.pointer (some ⟨w.heap.size, 4, none⟩)) w' (by omega) (Below.refl _ _))
        simpa [go_sem, Act.eval, Region.wanted, yielded, tellSlot, q125, e125, s125, q1] using hK'
      | 25, ho, hL, hpre =>
        clear hL
        cases ho
        have q134 : a'.tmps.getD 134 undef = .pointer (some ⟨w.heap.size, 4, none⟩) := hI.val 24 (by omega) (hpre ⟨24, .data⟩ (by simp) rfl)
        have e134 : a'.tmps[134]?.getD undef = .pointer (some ⟨w.heap.size, 4, none⟩) := by rw [← q134]; simp
        have q125 : a'.tmps.getD 125 undef = .bool true := hI.val 15 (by omega) (hpre ⟨15, .guard⟩ (by simp) rfl)
        have e125 : a'.tmps[125]?.getD undef = .bool true := by rw [← q125]; simp
        have s125 := slot_some hI.sz 125 (by omega) q125
        obtain ⟨g0, g1, g2, g3, g4, g5, g6⟩ := HHD.out w' hI.bel
        simp only at g0 g1 g2 g3 g4 g5 g6
        refine wpOp_step rfl fun K hK => ?_
        have hK' := hK _ _ (hI.put 25 (.int .u16 ((c : Nat) : Int)) w' (by omega) (Below.refl _ _))
        simpa [go_sem, Act.eval, Region.wanted, yielded, tellSlot, q134, e134, q125, e125, s125, g4] using hK'
      | 26, ho, hL, hpre =>
        clear hL
        cases ho
        have q135 : a'.tmps.getD 135 undef = .int .u16 ((c : Nat) : Int) := hI.val 25 (by omega) (hpre ⟨25, .data⟩ (by simp) rfl)
        have e135 : a'.tmps[135]?.getD undef = .int .u16 ((c : Nat) : Int) := by rw [← q135]; simp
        have q125 : a'.tmps.getD 125 undef = .bool true := hI.val 15 (by omega) (hpre ⟨15, .guard⟩ (by simp) rfl)
        have e125 : a'.tmps[125]?.getD undef = .bool true := by rw [← q125]; simp
        have s125 := slot_some hI.sz 125 (by omega) q125
        have hwr : IntKind.i64.wrap ((c : Nat) : Int) = ((c : Nat) : Int) := by rw [IntKind.wrap_i64]; omega
        refine wpOp_step rfl fun K hK => ?_
        have hK' := hK _ _ (hI.put 26 (.int .i64 ((c : Nat) : Int)) w' (by omega) (Below.refl _ _))
        simpa [go_sem, Act.eval, Region.wanted, yielded, tellSlot, q135, e135, q125, e125, s125, hwr] using hK'
      | 27, ho, hL, hpre =>
        clear hL
        cases ho
        have q125 : a'.tmps.getD 125 undef = .bool true := hI.val 15 (by omega) (hpre ⟨15, .guard⟩ (by simp) rfl)
        have e125 : a'.tmps[125]?.getD undef = .bool true := by rw [← q125]; simp
        have s125 := slot_some hI.sz 125 (by omega) q125
        have q1 : a'.tmps.getD 1 undef = .pointer (some ⟨w.heap.size, 0, none⟩) := hI.old 1 (by omega) (by omega)
        refine wpOp_step rfl fun K hK => ?_
        have hK' := hK _ _ (hI.put 27 (.pointer (some ⟨w.heap.size, 5, none⟩)) w' (by omega) (Below.refl _ _))
        simpa [go_sem, Act.eval, Region.wanted, yielded, tellSlot, q125, e125, s125, q1] using hK'
      | 28, ho, hL, hpre =>
        clear hL
        cases ho
        have q137 : a'.tmps.getD 137 undef = .pointer (some ⟨w.heap.size, 5, none⟩) := hI.val 27 (by omega) (hpre ⟨27, .data⟩ (by simp) rfl)
        have e137 : a'.tmps[137]?.getD undef = .pointer (some ⟨w.heap.size, 5, none⟩) := by rw [← q137]; simp
        have q125 : a'.tmps.getD 125 undef = .bool true := hI.val 15 (by omega) (hpre ⟨15, .guard⟩ (by simp) rfl)
        have e125 : a'.tmps[125]?.getD undef = .bool true := by rw [← q125]; simp
        have s125 := slot_some hI.sz 125 (by omega) q125
        obtain ⟨g0, g1, g2, g3, g4, g5, g6⟩ := HHD.out w' hI.bel
        simp only at g0 g1 g2 g3 g4 g5 g6
        refine wpOp_step rfl fun K hK => ?_
        have hK' := hK _ _ (hI.put 28 (.int .u32 ((l : Nat) : Int)) w' (by omega) (Below.refl _ _))
        simpa [go_sem, Act.eval, Region.wanted, yielded, tellSlot, q137, e137, q125, e125, s125, g5] using hK'
      | 29, ho, hL, hpre =>
        clear hL
        cases ho
        have q128 : a'.tmps.getD 128 undef = .int .u32 ((e : Nat) : Int) := hI.val 18 (by omega) (hpre ⟨18, .data⟩ (by simp) rfl)
        have e128 : a'.tmps[128]?.getD undef = .int .u32 ((e : Nat) : Int) := by rw [← q128]; simp
        have q130 : a'.tmps.getD 130 undef = .int .u32 ((b : Nat) : Int) := hI.val 20 (by omega) (hpre ⟨20, .data⟩ (by simp) rfl)
        have e130 : a'.tmps[130]?.getD undef = .int .u32 ((b : Nat) : Int) := by rw [← q130]; simp
        have q133 : a'.tmps.getD 133 undef = .int .i64 ((i : Nat) : Int) := hI.val 23 (by omega) (hpre ⟨23, .data⟩ (by simp) rfl)
        have e133 : a'.tmps[133]?.getD undef = .int .i64 ((i : Nat) : Int) := by rw [← q133]; simp
        have q136 : a'.tmps.getD 136 undef = .int .i64 ((c : Nat) : Int) := hI.val 26 (by omega) (hpre ⟨26, .data⟩ (by simp) rfl)
        have e136 : a'.tmps[136]?.getD undef = .int .i64 ((c : Nat) : Int) := by rw [← q136]; simp
        have q138 : a'.tmps.getD 138 undef = .int .u32 ((l : Nat) : Int) := hI.val 28 (by omega) (hpre ⟨28, .data⟩ (by simp) rfl)
        have e138 : a'.tmps[138]?.getD undef = .int .u32 ((l : Nat) : Int) := by rw [← q138]; simp
        have q125 : a'.tmps.getD 125 undef = .bool true := hI.val 15 (by omega) (hpre ⟨15, .guard⟩ (by simp) rfl)
        have e125 : a'.tmps[125]?.getD undef = .bool true := by rw [← q125]; simp
        have s125 := slot_some hI.sz 125 (by omega) q125
        refine wpOp_step rfl fun K hK => ?_
        have hK' := hK _ _ (hI.put 29 (.agg #[.int .u32 ((e : Nat) : Int), .int .u32 ((b : Nat) : Int), .int .i64 ((i : Nat) : Int), .int .i64 ((c : Nat) : Int), .int .u32 ((l : Nat) : Int)]) w' (by omega) (Below.refl _ _))
        simpa [go_sem, Act.eval, Region.wanted, yielded, tellSlot, q128, e128, q130, e130, q133, e133, q136, e136, q138, e138, q125, e125, s125] using hK'
      | 30, ho, hL, hpre =>
        clear hL
        cases ho
        have q126 : a'.tmps.getD 126 undef = .agg #[.int .u32 ((e : Nat) : Int), .int .u32 ((b : Nat) : Int), .int .i64 ((i : Nat) : Int), .int .i64 ((c : Nat) : Int), .int .u32 ((l : Nat) : Int)] := hI.val 16 (by omega) (hpre ⟨16, .data⟩ (by simp) rfl)
        have e126 : a'.tmps[126]?.getD undef = .agg #[.int .u32 ((e : Nat) : Int), .int .u32 ((b : Nat) : Int), .int .i64 ((i : Nat) : Int), .int .i64 ((c : Nat) : Int), .int .u32 ((l : Nat) : Int)] := by rw [← q126]; simp
        have q139 : a'.tmps.getD 139 undef = .agg #[.int .u32 ((e : Nat) : Int), .int .u32 ((b : Nat) : Int), .int .i64 ((i : Nat) : Int), .int .i64 ((c : Nat) : Int), .int .u32 ((l : Nat) : Int)] := hI.val 29 (by omega) (hpre ⟨29, .data⟩ (by simp) rfl)
        have e139 : a'.tmps[139]?.getD undef = .agg #[.int .u32 ((e : Nat) : Int), .int .u32 ((b : Nat) : Int), .int .i64 ((i : Nat) : Int), .int .i64 ((c : Nat) : Int), .int .u32 ((l : Nat) : Int)] := by rw [← q139]; simp
        have q125 : a'.tmps.getD 125 undef = .bool true := hI.val 15 (by omega) (hpre ⟨15, .guard⟩ (by simp) rfl)
        have e125 : a'.tmps[125]?.getD undef = .bool true := by rw [← q125]; simp
        have s125 := slot_some hI.sz 125 (by omega) q125
        have hqd := HQD.out w'
        refine wpOp_step rfl fun K hK => ?_
        have hK' := hK _ _ (hI.put 30 (.bool true) w' (by omega) (Below.refl _ _))
        simpa [go_sem, Act.eval, Region.wanted, yielded, tellSlot, q126, e126, q139, e139, q125, e125, s125, hqd] using hK'
      | 31, ho, hL, hpre =>
        clear hL
        cases ho
        have q125 : a'.tmps.getD 125 undef = .bool true := hI.val 15 (by omega) (hpre ⟨15, .data⟩ (by simp) rfl)
        have e125 : a'.tmps[125]?.getD undef = .bool true := by rw [← q125]; simp
        have q140 : a'.tmps.getD 140 undef = .bool true := hI.val 30 (by omega) (hpre ⟨30, .data⟩ (by simp) rfl)
        have e140 : a'.tmps[140]?.getD undef = .bool true := by rw [← q140]; simp
        have q117 : a'.tmps.getD 117 undef = .bool false := hI.val 7 (by omega) (hpre ⟨7, .guard⟩ (by simp) rfl)
        have e117 : a'.tmps[117]?.getD undef = .bool false := by rw [← q117]; simp
        have s117 := slot_some hI.sz 117 (by omega) q117
        refine wpOp_step rfl fun K hK => ?_
        have hK' := hK _ _ (hI.put 31 (.bool true) w' (by omega) (Below.refl _ _))
        simpa [go_sem, Act.eval, Region.wanted, yielded, tellSlot, q125, e125, q140, e140, q117, e117, s117] using hK'
      | 32, ho, hL, hpre =>
        clear hL
        cases ho
        have q117 : a'.tmps.getD 117 undef = .bool false := hI.val 7 (by omega) (hpre ⟨7, .data⟩ (by simp) rfl)
        have e117 : a'.tmps[117]?.getD undef = .bool false := by rw [← q117]; simp
        have q141 : a'.tmps.getD 141 undef = .bool true := hI.val 31 (by omega) (hpre ⟨31, .data⟩ (by simp) rfl)
        have e141 : a'.tmps[141]?.getD undef = .bool true := by rw [← q141]; simp
        refine wpOp_step rfl fun K hK => ?_
        have hK' := hK _ _ (hI.put 32 (.bool true) w' (by omega) (Below.refl _ _))
        simpa [go_sem, Act.eval, Region.wanted, yielded, tellSlot, q117, e117, q141, e141] using hK'
      | 33, ho, hL, hpre =>
        clear hL
        cases ho
        have q142 : a'.tmps.getD 142 undef = .bool true := hI.val 32 (by omega) (hpre ⟨32, .data⟩ (by simp) rfl)
        have e142 : a'.tmps[142]?.getD undef = .bool true := by rw [← q142]; simp
        refine wpOp_step rfl fun K hK => ?_
        have hK' := hK _ _ (hI.put 33 (.bool true) w' (by omega) (Below.refl _ _))
        simpa [go_sem, Act.eval, Region.wanted, yielded, tellSlot, q142, e142] using hK'
      | i' + 34, ho, _, _ => simp at ho
    case done =>
      intro L a' w' hI hL
      have f2 : a'.tmps.getD 2 undef = .bool true := hI.val 33 (by omega) (hL 33 (by decide))
      obtain ⟨f, hfr, hfk⟩ := frame143 a' hI.sz hI.df
      rw [hfk] at f2
      have hb0 : Below w.heap.size w w' := bel_trans hb09 ((Below.refl _ W9).drew.trans hI.bel)
      clear hI
      rw [hfr, f2]
      clear hfr hfk f2
      go_wp2
      go_ret
      exact ⟨rfl, hb0⟩


end Go.Proofs.Ytjnjkoodeacpdaa
