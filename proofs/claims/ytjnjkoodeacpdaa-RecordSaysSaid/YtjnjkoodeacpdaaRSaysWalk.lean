/- RecordSays: the walk. -/
import Derived.Test.YtjnjkoodeacpdaaRSealed
import Derived.Test.YtjnjkoodeacpdaaRSays
import Derived.Deep.DeepCutAuto
namespace Go.Proofs.Ytjnjkoodeacpdaa
open Go.RowKit

theorem equal_hdr (h k : RH) (w : World) : (Op.equalIn 10000 86 (.agg h.cells) (.agg k.cells)).run Try.prog w = .ok (eqH h k) w := by
  have h1 := eql_hdr h k w
  rw [run_eql_struct] at h1
  cases h2 : (Op.equalIn 10000 86 (.agg h.cells) (.agg k.cells)).run Try.prog w with
  | ok b w' =>
    rw [h2] at h1
    simp [Result.andThen] at h1
    rw [h1.1, h1.2]
  | halt x w' =>
    rw [h2] at h1
    simp [Result.andThen] at h1
theorem neq_hdr (h k : RH) (w : World) : (binOp .neq 86 (.agg h.cells) (.agg k.cells)).run Try.prog w = .ok (.bool (!(eqH h k))) w := by
  rw [run_neq_struct, equal_hdr]
  rfl
/-- A page of a logical block, a page of parity, in memory. -/
def DataAt (B e b : Nat) (i c : Int) (l : Nat) (w : World) : Prop := w.cell? ⟨B, 0, none⟩ = some (.int .u32 (e : Int)) ∧ w.cell? ⟨B, 1, none⟩ = some (.int .u32 (b : Int)) ∧ w.cell? ⟨B, 2, none⟩ = some (.int .i64 i) ∧ w.cell? ⟨B, 3, none⟩ = some (.int .i64 c) ∧ w.cell? ⟨B, 4, none⟩ = some (.int .u32 (l : Int))
theorem DataAt.below {B e b : Nat} {i c : Int} {l B' : Nat} {w w' : World} (h : DataAt B e b i c l w) (hb : Below B' w w') (hlt : B < B') : DataAt B e b i c l w' := by
  have hc : ∀ k, w'.cell? ⟨B, k, none⟩ = w.cell? ⟨B, k, none⟩ := fun k => hb.cell (p := ⟨B, k, none⟩) hlt
  unfold DataAt
  simp only [hc]
  exact h
def ParAt (B e b : Nat) (i c : Int) (w : World) : Prop := w.cell? ⟨B, 0, none⟩ = some (.int .u32 (e : Int)) ∧ w.cell? ⟨B, 1, none⟩ = some (.int .u32 (b : Int)) ∧ w.cell? ⟨B, 2, none⟩ = some (.int .i64 i) ∧ w.cell? ⟨B, 3, none⟩ = some (.int .i64 c)
theorem ParAt.below {B e b : Nat} {i c : Int} {B' : Nat} {w w' : World} (h : ParAt B e b i c w) (hb : Below B' w w') (hlt : B < B') : ParAt B e b i c w' := by
  have hc : ∀ k, w'.cell? ⟨B, k, none⟩ = w.cell? ⟨B, k, none⟩ := fun k => hb.cell (p := ⟨B, k, none⟩) hlt
  unfold ParAt
  simp only [hc]
  exact h
theorem says_start {e b l e2 b2 : Nat} {i c r s : Int} {w W1 : World} (he : W1 = (w.alloc (.cells #[.int .u32 ((e : Nat) : Int), .int .u32 ((b : Nat) : Int), .int .i64 i, .int .i64 c, .int .u32 ((l : Nat) : Int)] 110)).alloc (.cells #[.int .u32 ((e2 : Nat) : Int), .int .u32 ((b2 : Nat) : Int), .int .i64 r, .int .i64 s] 116)) :
    Below w.heap.size w W1 ∧ DataAt w.heap.size e b i c l W1 ∧ ParAt (w.heap.size + 1) e2 b2 r s W1 ∧ W1.heap.size = w.heap.size + 2 := by
  have hz : (w.alloc (.cells #[.int .u32 ((e : Nat) : Int), .int .u32 ((b : Nat) : Int), .int .i64 i, .int .i64 c, .int .u32 ((l : Nat) : Int)] 110)).heap.size = w.heap.size + 1 := by simp
  have h1 : DataAt w.heap.size e b i c l (w.alloc (.cells #[.int .u32 ((e : Nat) : Int), .int .u32 ((b : Nat) : Int), .int .i64 i, .int .i64 c, .int .u32 ((l : Nat) : Int)] 110)) := by
    refine ⟨?_, ?_, ?_, ?_, ?_⟩
    all_goals (rw [World.cell?_alloc_mark w #[.int .u32 ((e : Nat) : Int), .int .u32 ((b : Nat) : Int), .int .i64 i, .int .i64 c, .int .u32 ((l : Nat) : Int)] 110 (0, 0)]; rfl)
  have h2 : ∀ w0 : World, ParAt w0.heap.size e2 b2 r s (w0.alloc (.cells #[.int .u32 ((e2 : Nat) : Int), .int .u32 ((b2 : Nat) : Int), .int .i64 r, .int .i64 s] 116)) := fun w0 => by
    refine ⟨?_, ?_, ?_, ?_⟩
    all_goals (rw [World.cell?_alloc_mark w0 #[.int .u32 ((e2 : Nat) : Int), .int .u32 ((b2 : Nat) : Int), .int .i64 r, .int .i64 s] 116 (0, 0)]; rfl)
  have h3 := h2 (w.alloc (.cells #[.int .u32 ((e : Nat) : Int), .int .u32 ((b : Nat) : Int), .int .i64 i, .int .i64 c, .int .u32 ((l : Nat) : Int)] 110))
  rw [hz] at h3
  subst he
  exact ⟨bel_alloc (bel_alloc (Below.refl _ w) _) _, h1.below (bel_alloc (Below.refl _ _) _) (by omega), h3, by simp⟩
set_option maxRecDepth 100000 in
set_option maxHeartbeats 3200000 in
theorem recordSays_walk (e b : Nat) (i c : Int) (l : Nat) (e2 b2 : Nat) (r s : Int) (n : Int) (w : World) (hin : -9223372036854775808 ≤ i ∧ i ≤ 9223372036854775807 ∧ -9223372036854775808 ≤ c ∧ c ≤ 9223372036854775807) (hin2 : -9223372036854775808 ≤ r ∧ r ≤ 9223372036854775807 ∧ -9223372036854775808 ≤ s ∧ s ≤ 9223372036854775807) :
    Calls Try.prog 14 #[.agg #[.int .u32 ((e : Nat) : Int), .int .u32 ((b : Nat) : Int), .int .i64 i, .int .i64 c, .int .u32 ((l : Nat) : Int)], .agg #[.int .u32 ((e2 : Nat) : Int), .int .u32 ((b2 : Nat) : Int), .int .i64 r, .int .i64 s], .int .i64 n] w fun e' w' => e' = .returned (.bool true) ∧ Below w.heap.size w w' := by
  obtain ⟨hi1, hi2, hc1, hc2⟩ := hin
  have HDATA := Lib.hid (fun W => Said_of _ _ _ (fun w0 => said_data e b i c l w0 ⟨hi1, hi2⟩ ⟨hc1, hc2⟩) W)
  have HPAR := Lib.hid (fun W => Said_of _ _ _ (fun w0 => said_parity e2 b2 r s w0 ⟨hin2.1, hin2.2.1⟩ ⟨hin2.2.2.1, hin2.2.2.2⟩) W)
  have HNUM := Lib.hid (fun W => Said_of _ _ _ (fun w0 => said_num n w0) W)
  clear hi1 hi2 hc1 hc2 hin2
  go_enter Try.func14, Try.ntmps14
  go_wp2_with fail
  obtain ⟨W1, hW1⟩ : ∃ W1, W1 = (w.alloc (.cells #[.int .u32 ((e : Nat) : Int), .int .u32 ((b : Nat) : Int), .int .i64 i, .int .i64 c, .int .u32 ((l : Nat) : Int)] 110)).alloc (.cells #[.int .u32 ((e2 : Nat) : Int), .int .u32 ((b2 : Nat) : Int), .int .i64 r, .int .i64 s] 116) := ⟨_, rfl⟩
  obtain ⟨hb1, hd1, hp1, hz1⟩ := says_start hW1
  rw [← hW1]
  clear hW1
  refine (HDATA.out W1).mono ?_
  rintro e' w2 ⟨rfl, hb2⟩
  have hd2 := hd1.below hb2 (by omega)
  have hp2 := hp1.below hb2 (by omega)
  have hb02 := bel_trans hb1 hb2
  have hz2 := hb2.size
  obtain ⟨H, hH⟩ : ∃ H, withH ⟨4, e, b, 0, 0, l, 0⟩ i c = H := ⟨_, rfl⟩
  obtain ⟨D, hD⟩ : ∃ D, decide (Fits16 i c) = D := ⟨_, rfl⟩
  rw [hH, hD]
  have hh3 := hdr_new H w2
  unfold RH.cells
  obtain ⟨W3, hW3⟩ : ∃ W3, W3 = w2.alloc (.cells #[.int .u8 (H.ki : Int), .int .u32 (H.ep : Int), .int .u32 (H.ba : Int), .int .u16 (H.ix : Int), .int .u16 (H.ct : Int), .int .u32 (H.bl : Int), .int .u32 (H.mo : Int)] 86) := ⟨_, rfl⟩
  have hb23 : Below w2.heap.size w2 W3 := by rw [hW3]; exact bel_alloc (Below.refl _ w2) _
  rw [← hW3] at hh3
  have hd3 := hd2.below hb23 (by omega)
  have hp3 := hp2.below hb23 (by omega)
  have hb03 := bel_trans hb02 hb23
  have hz3 : W3.heap.size = w2.heap.size + 1 := by rw [hW3]; simp
  have HW3 := Lib.hid hW3
  have HH := Lib.hid hH
  have HD := Lib.hid hD
  have HZ2 := Lib.hid (show w.heap.size + 2 ≤ w2.heap.size by omega)
  have HZ3 := Lib.hid hz3
  clear hb1 hd1 hp1 hb2 hd2 hp2 hb02 hb23 hW3 hH hD hz1 hz2 hz3
  obtain ⟨x0, x1, x2, x3, x4⟩ := hd3
  go_upto_region 2 with fail
  rw [← HW3.out]
  go_cut [9] (fun s9 wx => s9 = .bool D ∧ wx = W3)
  case first =>
    by_cases k1 : 0 ≤ i
    · have d1 : decide (0 ≤ i) = true := decide_eq_true k1
      by_cases k2 : i ≤ 65535
      · have d2 : decide (i ≤ 65535) = true := decide_eq_true k2
        by_cases k3 : 0 ≤ c
        · have d3 : decide (0 ≤ c) = true := decide_eq_true k3
          by_cases k4 : c ≤ 65535
          · have d4 : decide (c ≤ 65535) = true := decide_eq_true k4
            have HE : Hid (D = true) := Lib.hid (by rw [← HD.out]; exact decide_eq_true ⟨k1, k2, k3, k4⟩)
            clear k1 k2 k3 k4
            go_wp2
            go_meet
            exact ⟨by rw [HE.out], rfl⟩
          · have d4 : decide (c ≤ 65535) = false := decide_eq_false k4
            have HE : Hid (D = false) := Lib.hid (by rw [← HD.out]; exact decide_eq_false fun h => k4 h.2.2.2)
            clear k1 k2 k3 k4
            go_wp2
            go_meet
            exact ⟨by rw [HE.out], rfl⟩
        · have d3 : decide (0 ≤ c) = false := decide_eq_false k3
          have HE : Hid (D = false) := Lib.hid (by rw [← HD.out]; exact decide_eq_false fun h => k3 h.2.2.1)
          clear k1 k2 k3
          go_wp2
          go_meet
          exact ⟨by rw [HE.out], rfl⟩
      · have d2 : decide (i ≤ 65535) = false := decide_eq_false k2
        have HE : Hid (D = false) := Lib.hid (by rw [← HD.out]; exact decide_eq_false fun h => k2 h.2.1)
        clear k1 k2
        go_wp2
        go_meet
        exact ⟨by rw [HE.out], rfl⟩
    · have d1 : decide (0 ≤ i) = false := decide_eq_false k1
      have HE : Hid (D = false) := Lib.hid (by rw [← HD.out]; exact decide_eq_false fun h => k1 h.1)
      clear k1
      go_wp2
      go_meet
      exact ⟨by rw [HE.out], rfl⟩
  case rest =>
    obtain ⟨rfl, rfl⟩ := hcut
    go_wp2_with fail
    refine (sealed_any wc).mono ?_
    rintro e' w4 ⟨rfl, hb4⟩
    have hh4 := hh3.below hb4 (by have := HZ3.out; omega)
    have hp4 := hp3.below hb4 (by have := HZ2.out; have := HZ3.out; omega)
    have hd4 : DataAt w.heap.size e b i c l w4 := DataAt.below ⟨x0, x1, x2, x3, x4⟩ hb4 (by have := HZ3.out; have := HZ2.out; omega)
    have hb04 := bel_trans hb03 hb4
    have hz4 : w2.heap.size < w4.heap.size := by have := hb4.size; have := HZ3.out; omega
    have HZ4 := Lib.hid hz4
    have HWB := Lib.hid hb04.size
    clear hh3 hp3 hb03 x0 x1 x2 x3 x4 hb4 HZ3 HW3 hz4
    obtain ⟨y0, y1, y2, y3⟩ := hp4
    cases D with
    | true =>
      have hfit := of_decide_eq_true HD.out
      have hH : H = ⟨4, e, b, i.toNat, c.toNat, l, 0⟩ := by rw [← HH.out]; unfold withH; rw [if_pos hfit]
      obtain ⟨f1, f2, f3, f4⟩ := hfit
      obtain ⟨i, rfl⟩ : ∃ n : Nat, i = (n : Int) := ⟨i.toNat, by omega⟩
      obtain ⟨c, rfl⟩ : ∃ n : Nat, c = (n : Int) := ⟨c.toNat, by omega⟩
      simp only [Int.toNat_natCast] at hH
      subst hH
      obtain ⟨c0, c1, c2, c3, c4, c5, c6⟩ := hh4
      obtain ⟨x0, x1, x2, x3, x4⟩ := hd4
      simp only at c0 c1 c2 c3 c4 c5 c6
      have c0 : w4.cell? ⟨w2.heap.size, 0, none⟩ = some (.int .u8 4) := c0
      go_wp2_with fail
      refine (HPAR.out w4).mono ?_
      rintro e' w5 ⟨rfl, hb5⟩
      have hp5 : ParAt (w.heap.size + 1) e2 b2 r s w5 := ParAt.below ⟨y0, y1, y2, y3⟩ hb5 (by have := HZ4.out; have := HZ2.out; omega)
      have hb05 := bel_trans hb04 hb5
      have HZ5 := Lib.hid (show w.heap.size + 2 ≤ w5.heap.size by have := HZ4.out; have := HZ2.out; have := hb5.size; omega)
      obtain ⟨H2, hH2⟩ : ∃ H, withH ⟨5, e2, b2, 0, 0, 0, 0⟩ r s = H := ⟨_, rfl⟩
      obtain ⟨D2, hD2⟩ : ∃ D, decide (Fits16 r s) = D := ⟨_, rfl⟩
      rw [hH2, hD2]
      have hh6 := hdr_new H2 w5
      unfold RH.cells
      obtain ⟨W6, hW6⟩ : ∃ W6, W6 = w5.alloc (.cells #[.int .u8 (H2.ki : Int), .int .u32 (H2.ep : Int), .int .u32 (H2.ba : Int), .int .u16 (H2.ix : Int), .int .u16 (H2.ct : Int), .int .u32 (H2.bl : Int), .int .u32 (H2.mo : Int)] 86) := ⟨_, rfl⟩
      have hb56 : Below w5.heap.size w5 W6 := by rw [hW6]; exact bel_alloc (Below.refl _ w5) _
      rw [← hW6] at hh6
      have hp6 := hp5.below hb56 (by have := HZ5.out; omega)
      have hb06 := bel_trans hb05 hb56
      have HW6 := Lib.hid hW6
      have HH2 := Lib.hid hH2
      have HD2 := Lib.hid hD2
      clear hb5 hp5 hb05 hb56 hW6 hH2 hD2 hb04 y0 y1 y2 y3 c0 c1 c2 c3 c4 c5 c6 x0 x1 x2 x3 x4
      obtain ⟨y0, y1, y2, y3⟩ := hp6

      go_upto_region 6 with fail
      rw [← HW6.out]
      go_cut [9] (fun s9 wx => s9 = .bool D2 ∧ wx = W6)
      case first =>
        by_cases k1 : 0 ≤ r
        · have d1 : decide (0 ≤ r) = true := decide_eq_true k1
          by_cases k2 : r ≤ 65535
          · have d2 : decide (r ≤ 65535) = true := decide_eq_true k2
            by_cases k3 : 0 ≤ s
            · have d3 : decide (0 ≤ s) = true := decide_eq_true k3
              by_cases k4 : s ≤ 65535
              · have d4 : decide (s ≤ 65535) = true := decide_eq_true k4
                have HE : Hid (D2 = true) := Lib.hid (by rw [← HD2.out]; exact decide_eq_true ⟨k1, k2, k3, k4⟩)
                clear k1 k2 k3 k4
                go_wp2
                go_meet
                exact ⟨by rw [HE.out], rfl⟩
              · have d4 : decide (s ≤ 65535) = false := decide_eq_false k4
                have HE : Hid (D2 = false) := Lib.hid (by rw [← HD2.out]; exact decide_eq_false fun h => k4 h.2.2.2)
                clear k1 k2 k3 k4
                go_wp2
                go_meet
                exact ⟨by rw [HE.out], rfl⟩
            · have d3 : decide (0 ≤ s) = false := decide_eq_false k3
              have HE : Hid (D2 = false) := Lib.hid (by rw [← HD2.out]; exact decide_eq_false fun h => k3 h.2.2.1)
              clear k1 k2 k3
              go_wp2
              go_meet
              exact ⟨by rw [HE.out], rfl⟩
          · have d2 : decide (r ≤ 65535) = false := decide_eq_false k2
            have HE : Hid (D2 = false) := Lib.hid (by rw [← HD2.out]; exact decide_eq_false fun h => k2 h.2.1)
            clear k1 k2
            go_wp2
            go_meet
            exact ⟨by rw [HE.out], rfl⟩
        · have d1 : decide (0 ≤ r) = false := decide_eq_false k1
          have HE : Hid (D2 = false) := Lib.hid (by rw [← HD2.out]; exact decide_eq_false fun h => k1 h.1)
          clear k1
          go_wp2
          go_meet
          exact ⟨by rw [HE.out], rfl⟩

      case rest =>
        obtain ⟨rfl, rfl⟩ := hcut
        cases D2 with
        | true =>
          have hfit := of_decide_eq_true HD2.out
          have hH : H2 = ⟨5, e2, b2, r.toNat, s.toNat, 0, 0⟩ := by rw [← HH2.out]; unfold withH; rw [if_pos hfit]
          obtain ⟨f1, f2, f3, f4⟩ := hfit
          obtain ⟨r, rfl⟩ : ∃ n : Nat, r = (n : Int) := ⟨r.toNat, by omega⟩
          obtain ⟨s, rfl⟩ : ∃ n : Nat, s = (n : Int) := ⟨s.toNat, by omega⟩
          simp only [Int.toNat_natCast] at hH
          subst hH
          obtain ⟨c0, c1, c2, c3, c4, c5, c6⟩ := hh6
          simp only at c0 c1 c2 c3 c4 c5 c6
          have c0 : wc.cell? ⟨w5.heap.size, 0, none⟩ = some (.int .u8 5) := c0
          go_wp2_with fail
          refine (HNUM.out wc).mono ?_
          rintro e' w8 ⟨rfl, hb8⟩
          have hb08 := bel_trans hb06 hb8
          unfold RH.zero RH.cells
          clear hb06 hb8 c0 c1 c2 c3 c4 c5 c6 y0 y1 y2 y3
          go_wp2
          go_ret
          exact ⟨rfl, bel_alloc hb08 _⟩
        | false =>
          have hfit := of_decide_eq_false HD2.out
          have hH : H2 = RH.zero := by rw [← HH2.out]; unfold withH; rw [if_neg hfit]
          subst hH
          go_wp2_with fail
          refine (HNUM.out wc).mono ?_
          rintro e' w8 ⟨rfl, hb8⟩
          have hb08 := bel_trans hb06 hb8
          unfold RH.zero RH.cells
          clear hb06 hb8 y0 y1 y2 y3
          go_wp2
          go_ret
          exact ⟨rfl, bel_alloc hb08 _⟩
    | false =>
      have hfit := of_decide_eq_false HD.out
      have hH : H = RH.zero := by rw [← HH.out]; unfold withH; rw [if_neg hfit]
      subst hH
      obtain ⟨c0, c1, c2, c3, c4, c5, c6⟩ := hh4
      have hq := neq_hdr RH.zero RH.zero
      rw [eqH_self] at hq
      unfold RH.cells RH.zero at hq
      clear hd4 hfit
      go_wp2_with fail
      refine (HPAR.out w4).mono ?_
      rintro e' w5 ⟨rfl, hb5⟩
      have hp5 : ParAt (w.heap.size + 1) e2 b2 r s w5 := ParAt.below ⟨y0, y1, y2, y3⟩ hb5 (by have := HZ4.out; have := HZ2.out; omega)
      have hb05 := bel_trans hb04 hb5
      have HZ5 := Lib.hid (show w.heap.size + 2 ≤ w5.heap.size by have := HZ4.out; have := HZ2.out; have := hb5.size; omega)
      obtain ⟨H2, hH2⟩ : ∃ H, withH ⟨5, e2, b2, 0, 0, 0, 0⟩ r s = H := ⟨_, rfl⟩
      obtain ⟨D2, hD2⟩ : ∃ D, decide (Fits16 r s) = D := ⟨_, rfl⟩
      rw [hH2, hD2]
      have hh6 := hdr_new H2 w5
      unfold RH.cells
      obtain ⟨W6, hW6⟩ : ∃ W6, W6 = w5.alloc (.cells #[.int .u8 (H2.ki : Int), .int .u32 (H2.ep : Int), .int .u32 (H2.ba : Int), .int .u16 (H2.ix : Int), .int .u16 (H2.ct : Int), .int .u32 (H2.bl : Int), .int .u32 (H2.mo : Int)] 86) := ⟨_, rfl⟩
      have hb56 : Below w5.heap.size w5 W6 := by rw [hW6]; exact bel_alloc (Below.refl _ w5) _
      rw [← hW6] at hh6
      have hp6 := hp5.below hb56 (by have := HZ5.out; omega)
      have hb06 := bel_trans hb05 hb56
      have HW6 := Lib.hid hW6
      have HH2 := Lib.hid hH2
      have HD2 := Lib.hid hD2
      clear hb5 hp5 hb05 hb56 hW6 hH2 hD2 hb04 y0 y1 y2 y3 c0 c1 c2 c3 c4 c5 c6 hq
      obtain ⟨y0, y1, y2, y3⟩ := hp6

      go_upto_region 6 with fail
      rw [← HW6.out]
      go_cut [9] (fun s9 wx => s9 = .bool D2 ∧ wx = W6)
      case first =>
        by_cases k1 : 0 ≤ r
        · have d1 : decide (0 ≤ r) = true := decide_eq_true k1
          by_cases k2 : r ≤ 65535
          · have d2 : decide (r ≤ 65535) = true := decide_eq_true k2
            by_cases k3 : 0 ≤ s
            · have d3 : decide (0 ≤ s) = true := decide_eq_true k3
              by_cases k4 : s ≤ 65535
              · have d4 : decide (s ≤ 65535) = true := decide_eq_true k4
                have HE : Hid (D2 = true) := Lib.hid (by rw [← HD2.out]; exact decide_eq_true ⟨k1, k2, k3, k4⟩)
                clear k1 k2 k3 k4
                go_wp2
                go_meet
                exact ⟨by rw [HE.out], rfl⟩
              · have d4 : decide (s ≤ 65535) = false := decide_eq_false k4
                have HE : Hid (D2 = false) := Lib.hid (by rw [← HD2.out]; exact decide_eq_false fun h => k4 h.2.2.2)
                clear k1 k2 k3 k4
                go_wp2
                go_meet
                exact ⟨by rw [HE.out], rfl⟩
            · have d3 : decide (0 ≤ s) = false := decide_eq_false k3
              have HE : Hid (D2 = false) := Lib.hid (by rw [← HD2.out]; exact decide_eq_false fun h => k3 h.2.2.1)
              clear k1 k2 k3
              go_wp2
              go_meet
              exact ⟨by rw [HE.out], rfl⟩
          · have d2 : decide (r ≤ 65535) = false := decide_eq_false k2
            have HE : Hid (D2 = false) := Lib.hid (by rw [← HD2.out]; exact decide_eq_false fun h => k2 h.2.1)
            clear k1 k2
            go_wp2
            go_meet
            exact ⟨by rw [HE.out], rfl⟩
        · have d1 : decide (0 ≤ r) = false := decide_eq_false k1
          have HE : Hid (D2 = false) := Lib.hid (by rw [← HD2.out]; exact decide_eq_false fun h => k1 h.1)
          clear k1
          go_wp2
          go_meet
          exact ⟨by rw [HE.out], rfl⟩

      case rest =>
        obtain ⟨rfl, rfl⟩ := hcut
        cases D2 with
        | true =>
          have hfit := of_decide_eq_true HD2.out
          have hH : H2 = ⟨5, e2, b2, r.toNat, s.toNat, 0, 0⟩ := by rw [← HH2.out]; unfold withH; rw [if_pos hfit]
          obtain ⟨f1, f2, f3, f4⟩ := hfit
          obtain ⟨r, rfl⟩ : ∃ n : Nat, r = (n : Int) := ⟨r.toNat, by omega⟩
          obtain ⟨s, rfl⟩ : ∃ n : Nat, s = (n : Int) := ⟨s.toNat, by omega⟩
          simp only [Int.toNat_natCast] at hH
          subst hH
          obtain ⟨c0, c1, c2, c3, c4, c5, c6⟩ := hh6
          simp only at c0 c1 c2 c3 c4 c5 c6
          have c0 : wc.cell? ⟨w5.heap.size, 0, none⟩ = some (.int .u8 5) := c0
          go_wp2_with fail
          refine (HNUM.out wc).mono ?_
          rintro e' w8 ⟨rfl, hb8⟩
          have hb08 := bel_trans hb06 hb8
          unfold RH.zero RH.cells
          clear hb06 hb8 c0 c1 c2 c3 c4 c5 c6 y0 y1 y2 y3
          go_wp2
          go_ret
          exact ⟨rfl, bel_alloc hb08 _⟩
        | false =>
          have hfit := of_decide_eq_false HD2.out
          have hH : H2 = RH.zero := by rw [← HH2.out]; unfold withH; rw [if_neg hfit]
          subst hH
          go_wp2_with fail
          refine (HNUM.out wc).mono ?_
          rintro e' w8 ⟨rfl, hb8⟩
          have hb08 := bel_trans hb06 hb8
          unfold RH.zero RH.cells
          clear hb06 hb8 y0 y1 y2 y3
          go_wp2
          go_ret
          exact ⟨rfl, bel_alloc hb08 _⟩

end Go.Proofs.Ytjnjkoodeacpdaa
