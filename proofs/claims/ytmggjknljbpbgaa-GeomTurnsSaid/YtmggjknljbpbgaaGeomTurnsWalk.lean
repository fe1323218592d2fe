/- GeomTurns: the walk. -/
import Derived.Test.YtmggjknljbpbgaaGeomTurnsOut
import Derived.Test.YtmggjknljbpbgaaGeoS
namespace Go.Proofs.Ytmggjknljbpbgaa
open Go.RowKit

theorem par_apart {a x : Int} {i k : Nat} (hi : i < k) (hk : (k : Int) < a) : (x + i) % a ≠ (x + k) % a := by
  intro h
  have h1 : (a : Int) ∣ (x + k) - (x + i) := Int.dvd_of_emod_eq_zero (by
    rw [Int.sub_emod, h, Int.sub_self]; simp)
  have h2 := Int.le_of_dvd (by omega) h1
  omega

set_option maxRecDepth 100000 in
set_option maxHeartbeats 3200000 in
theorem geomTurns_walk (a b c d seg row : Int) (w : World) (_ : In64x4 a b c d) (_ : (Lit.int .i64 seg).wf = true) (_ : (Lit.int .i64 row).wf = true) :
    Calls Try.prog 5 #[.agg #[.int .i64 a, .int .i64 b, .int .i64 c, .int .i64 d], .int .i64 seg, .int .i64 row] w fun e w' => e = .returned (.bool true) ∧ Below w.heap.size w w' := by
  by_cases hin : GoodG a b c d ∧ 0 ≤ seg ∧ seg ≤ 1000 ∧ 0 ≤ row ∧ row ≤ 1000
  case neg => exact geomTurns_out a b c d seg row w hin
  obtain ⟨hg, s0, s1, r0, r1⟩ := hin
  have HS := Lib.hid (gs_new w a b c d)
  have HPl := Lib.hid placed_any
  have HC := Lib.hid fun x : World => check_good a b c d x hg
  obtain ⟨n, rfl⟩ : ∃ n : Nat, a = (n : Int) := ⟨a.toNat, by have := hg.1; omega⟩
  have hn : 3 ≤ n ∧ n ≤ 16 := by have := hg.1; have := hg.2.1; omega
  obtain ⟨f, hf⟩ : ∃ f : Nat → Nat, ∀ i : Nat, ((f i : Nat) : Int) = ParOf (n : Int) c seg (row + i) := ⟨fun i => (ParOf (n : Int) c seg (row + i)).toNat, fun i => Int.toNat_of_nonneg (Int.emod_nonneg _ (by omega))⟩
  have HP : Hid (∀ (k : Nat) (x : World), k ≤ 16 → Calls Try.prog 19 #[.agg #[.int .i64 (n : Int), .int .i64 b, .int .i64 c, .int .i64 d], .int .i64 seg, .int .i64 (row + (k : Int))] x fun e w' => e = .returned (.int .i64 ((f k : Nat) : Int)) ∧ Below x.heap.size x w') := Lib.hid fun k x hk => by
    rw [hf k]; exact parity_any (n : Int) b c d seg (row + k) x hg s0 (by omega) (by omega) (by omega)
  have HL : Hid (∀ k, f k < n) := Lib.hid fun k => by
    have h1 := hf k
    have h2 : ParOf (n : Int) c seg (row + k) < (n : Int) := Int.emod_lt_of_pos _ (by omega)
    omega
  have HA : Hid (∀ i k : Nat, i < k → k < n → f i ≠ f k) := Lib.hid fun i k hik hk e => by
    have h1 := hf i
    have h2 := hf k
    rw [e, h2] at h1
    unfold ParOf at h1
    have h3 := par_apart (a := (n : Int)) (x := seg * c + row) (i := i) (k := k) hik (by omega)
    rw [Int.add_assoc, Int.add_assoc] at h3
    exact h3 h1.symm
  clear hf
  have k1 : decide (seg < 0) = false := by simp; omega
  have k2 : decide (1000 < seg) = false := by simp; omega
  have k3 : decide (row < 0) = false := by simp; omega
  have k4 : decide (1000 < row) = false := by simp; omega
  obtain ⟨i1, hi1, hz1, hs1, hb1⟩ := info_parts info_int
  have hmk : ∀ x, (Instr.makeSlice 27 (.int .i64 (n : Int)) (.int .i64 (n : Int))).run Try.prog x = _ := fun x => run_make x 27 3 i1 _ Try.underlying27 hi1 hz1 .i64 .i64 (n : Int) (n : Int) (by omega) (by omega) (by rw [hb1]; omega) (by omega)
  simp only [hs1, Int.toNat_natCast, Nat.mul_one] at hmk
  have HMK := Lib.hid hmk
  clear hmk hi1 hz1 hs1 hb1 hg
  go_enter Try.func5, Try.ntmps5
  obtain ⟨c0, c1, c2, c3, _⟩ := HS.out
  go_wp2_with fail
  ((with_reducible refine (HC.out _).mono ?_))
  rintro e w0 ⟨rfl, hb⟩
  have HS0 := Lib.hid (HS.out.step hb)
  clear hb c0 c1 c2 c3
  obtain ⟨c0, c1, c2, c3, _⟩ := HS0.out
  have hmk := HMK.out
  go_wp2_with fail
  have HR0 := Lib.hid ((World.rowIs_made w0 (.int .i64 0) n 3).congr (g := seenC f 0) (fun j _ => (seenC_zero f j).symm))
  have HS1 := Lib.hid (HS0.out.step (bel_alloc (Below.refl _ w0) (.cells (madeCells #[.int .i64 0] n) 3)))
  obtain ⟨sb, hsb⟩ : ∃ sb, sb = w0.heap.size := ⟨_, rfl⟩
  obtain ⟨w1, hw1⟩ : ∃ w1, w1 = w0.alloc (.cells (madeCells #[.int .i64 0] n) 3) := ⟨_, rfl⟩
  have HSB : Hid (w.heap.size < sb) := Lib.hid (by rw [hsb]; exact World.block_lt_of_cell? w0 _ c0)
  rw [← hsb, ← hw1] at HR0 ⊢
  rw [← hw1] at HS1
  clear hsb hw1 hmk HMK HS0 c0 c1 c2 c3 HC HS
  go_loopw [8] (fun i wr => ∃ k : Nat, k ≤ n ∧ i = .int .i64 (k : Int) ∧ GS w w.heap.size (n : Int) b c d wr ∧ wr.rowIs sb 3 n (seenC f k)) (fun i _ => n - (intOf i).toNat)
  case atStart => exact ⟨0, Nat.zero_le _, rfl, HS1.out, HR0.out⟩
  case round =>
    obtain ⟨k, hk, rfl, hgs, hrow⟩ := hrel
    have HGS := Lib.hid hgs
    have HROW := Lib.hid hrow
    clear hgs hrow
    obtain ⟨c0, c1, c2, c3, _⟩ := HGS.out
    by_cases hlt : k < n
    · have t1 : decide (k < n) = true := by simpa using hlt
      have hp := HP.out k wr (by omega)
      have hl := HL.out k
      have hne := fun i hi => HA.out i k hi hlt
      have HZ := Lib.hid (seenC_new hne)
      have HSU := Lib.hid (seenC_succ f k)
      obtain ⟨m, hm⟩ : ∃ m, m = f k := ⟨_, rfl⟩
      rw [← hm] at hp hl HZ HSU
      have hp2 := Lib.hid hp
      clear hm hne hp
      go_wp2_with fail
      ((with_reducible refine hp2.out.mono ?_))
      rintro e w2 ⟨rfl, hb⟩
      have HGS2 := Lib.hid (HGS.out.step hb)
      have HROW2 := Lib.hid (HROW.out.of_block (hb.block _ HROW.out.lt))
      clear hb c0 c1 c2 c3 HGS HROW
      obtain ⟨c0, c1, c2, c3, _⟩ := HGS2.out
      have cz : w2.cell? ⟨sb, m, none⟩ = some (.int .i64 0) := by rw [HROW2.out.cell hl, HZ.out]
      have fz := HROW2.out.frozen m
      have t2 : decide ((m : Int) < 0) = false := by simp
      have t3 : decide (n ≤ m) = false := by simpa using hl
      go_wp2_with fail
      go_roundw
      case rel =>
        exact ⟨k + 1, by omega, by go_num, HGS2.out.set (by have := HSB.out; omega) (by have := HSB.out; omega) _ _, seen_set HROW2.out HSU.out⟩
      case measure => simp [intOf]; omega
    · have t1 : decide (k < n) = false := by simpa using hlt
      go_wp2_with fail
      ((with_reducible refine (HPl.out _).mono ?_))
      rintro e w2 ⟨rfl, hb⟩
      have HGS2 := Lib.hid (HGS.out.step hb)
      clear hb
      go_wp2
      go_ret
      exact ⟨rfl, HGS2.out.2.2.2.2⟩

end Go.Proofs.Ytmggjknljbpbgaa
