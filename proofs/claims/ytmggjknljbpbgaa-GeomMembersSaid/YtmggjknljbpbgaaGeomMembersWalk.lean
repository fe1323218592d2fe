/- GeomMembers: the walk. -/
import Derived.Test.YtmggjknljbpbgaaGeomMembersOut
import Derived.Test.YtmggjknljbpbgaaGeoSlot
namespace Go.Proofs.Ytmggjknljbpbgaa
open Go.RowKit Go.Deep

theorem memOf_ne (p k : Nat) : memOf p k ≠ p := by unfold memOf; split <;> omega
theorem memOf_inj {p j k : Nat} (h : memOf p j = memOf p k) : j = k := by unfold memOf at h; split at h <;> split at h <;> omega
/-- Which slot member m has. -/
def slotOf (p m : Nat) : Nat := if m < p then m else m - 1
theorem memOf_slotOf {p m : Nat} (h : m ≠ p) : memOf p (slotOf p m) = m := by
  unfold memOf slotOf
  by_cases h2 : m < p
  · rw [if_pos h2, if_pos h2]
  · rw [if_neg h2, if_neg (by omega)]; omega
theorem slot_no (a b c d seg row : Int) (p n : Nat) (w : World) (hg : GoodG a b c d) (h0 : 0 ≤ seg) (h1 : seg ≤ 2000) (h2 : 0 ≤ row) (h3 : row ≤ 2000) (hp : ((p : Nat) : Int) = ParOf a c seg row) (hn : (n : Int) = a - 1) :
    Calls Try.prog 23 #[.agg #[.int .i64 a, .int .i64 b, .int .i64 c, .int .i64 d], .int .i64 seg, .int .i64 row, .int .i64 (p : Int)] w fun e w' => e = .returned (.tuple #[.int .i64 0, .bool false]) ∧ Below w.heap.size w w' :=
  (slot_any a b c d seg row p n p w hg h0 h1 h2 h3 hp hn).mono fun e w' ⟨h, hb⟩ => by
    rcases h with ⟨h, _⟩ | ⟨k, _, _, h⟩
    · exact ⟨h, hb⟩
    · exact absurd h (memOf_ne p k)
theorem slot_yes (a b c d seg row : Int) (p n k : Nat) (w : World) (hg : GoodG a b c d) (h0 : 0 ≤ seg) (h1 : seg ≤ 2000) (h2 : 0 ≤ row) (h3 : row ≤ 2000) (hp : ((p : Nat) : Int) = ParOf a c seg row) (hn : (n : Int) = a - 1) (hk : k < n) :
    Calls Try.prog 23 #[.agg #[.int .i64 a, .int .i64 b, .int .i64 c, .int .i64 d], .int .i64 seg, .int .i64 row, .int .i64 ((memOf p k : Nat) : Int)] w fun e w' => e = .returned (.tuple #[.int .i64 (k : Int), .bool true]) ∧ Below w.heap.size w w' :=
  (slot_any a b c d seg row p n (memOf p k) w hg h0 h1 h2 h3 hp hn).mono fun e w' ⟨h, hb⟩ => by
    rcases h with ⟨_, h⟩ | ⟨j, _, he, h⟩
    · exact absurd rfl (h k hk)
    · rw [he, memOf_inj h]; exact ⟨rfl, hb⟩

theorem seenC_skip {f : Nat → Nat} {k j N : Nat} (h : N ≤ f k) (hj : j < N) : seenC f k j = seenC f (k + 1) j := by
  rw [← seenC_succ, if_neg (by omega)]
def slotF (p m : Nat) : Nat := if m = p then 1000 else slotOf p m
/-- How many of the first k members have slots. -/
def slotsTo (p k : Nat) : Nat := if k ≤ p then k else k - 1

set_option maxRecDepth 100000 in
set_option maxHeartbeats 6400000 in
theorem geomMembers_walk (a b c d seg row : Int) (w : World) (_ : In64x4 a b c d) (_ : (Lit.int .i64 seg).wf = true) (_ : (Lit.int .i64 row).wf = true) :
    Calls Try.prog 7 #[.agg #[.int .i64 a, .int .i64 b, .int .i64 c, .int .i64 d], .int .i64 seg, .int .i64 row] w fun e w' => e = .returned (.bool true) ∧ Below w.heap.size w w' := by
  by_cases hin : GoodG a b c d ∧ 0 ≤ seg ∧ seg ≤ 1000 ∧ 0 ≤ row ∧ row ≤ 1000
  case neg => exact geomMembers_out a b c d seg row w hin
  obtain ⟨hg, s0, s1, r0, r1⟩ := hin
  have HS := Lib.hid (gs_new w a b c d)
  have HPl := Lib.hid placed_any
  have HC := Lib.hid fun x : World => check_good a b c d x hg
  obtain ⟨n, rfl⟩ : ∃ n : Nat, a = (n : Int) + 1 := ⟨(a - 1).toNat, by have := hg.1; omega⟩
  have hn : 2 ≤ n ∧ n ≤ 15 := by have := hg.1; have := hg.2.1; omega
  have hwn : IntKind.i64.wrap ((n : Int) + 1) = (n : Int) + 1 := wrap_of (by omega) (by omega)
  obtain ⟨p, hp⟩ : ∃ p : Nat, ((p : Nat) : Int) = ParOf ((n : Int) + 1) c seg row := ⟨(ParOf ((n : Int) + 1) c seg row).toNat, Int.toNat_of_nonneg (Int.emod_nonneg _ (by omega))⟩
  have hpn : p ≤ n := by
    have h2 : ParOf ((n : Int) + 1) c seg row < (n : Int) + 1 := Int.emod_lt_of_pos _ (by omega)
    omega
  have HP := Lib.hid fun x : World => parity_any ((n : Int) + 1) b c d seg row x hg s0 (by omega) r0 (by omega)
  rw [← hp] at HP
  have HNo := Lib.hid fun x : World => slot_no ((n : Int) + 1) b c d seg row p n x hg s0 (by omega) r0 (by omega) hp (by omega)
  have HYes := Lib.hid fun (k : Nat) (x : World) (hk : k < n) => slot_yes ((n : Int) + 1) b c d seg row p n k x hg s0 (by omega) r0 (by omega) hp (by omega) hk
  have HM := Lib.hid fun (k : Nat) (x : World) (hk : k ≤ 1000) => member_any ((n : Int) + 1) b c d seg row p k x hg s0 (by omega) r0 (by omega) hp hk
  have k1 : decide (seg < 0) = false := by simp; omega
  have k2 : decide (1000 < seg) = false := by simp; omega
  have k3 : decide (row < 0) = false := by simp; omega
  have k4 : decide (1000 < row) = false := by simp; omega
  obtain ⟨i1, hi1, hz1, hs1, hb1⟩ := info_parts info_int
  have hmk : ∀ x, (Instr.makeSlice 27 (.int .i64 ((n : Int) + 1)) (.int .i64 ((n : Int) + 1))).run Try.prog x = _ := fun x => run_make x 27 3 i1 _ Try.underlying27 hi1 hz1 .i64 .i64 ((n : Int) + 1) ((n : Int) + 1) (by omega) (by omega) (by rw [hb1]; omega) (by omega)
  simp only [hs1, show ((n : Int) + 1).toNat = n + 1 by omega, Nat.mul_one] at hmk
  have HMK := Lib.hid hmk
  clear hmk hi1 hz1 hs1 hb1 hg hp
  go_enter Try.func7, Try.ntmps7
  obtain ⟨c0, c1, c2, c3, _⟩ := HS.out
  go_wp2_with fail
  ((with_reducible refine (HC.out _).mono ?_))
  rintro e w0 ⟨rfl, hb⟩
  have HS0 := Lib.hid (HS.out.step hb)
  clear hb c0 c1 c2 c3
  obtain ⟨c0, c1, c2, c3, _⟩ := HS0.out
  have hmk := HMK.out
  go_wp2_with fail
  have HR0 := Lib.hid ((World.rowIs_made w0 (.int .i64 0) (n + 1) 3).congr (g := seenC (slotF p) 0) (fun j _ => (seenC_zero (slotF p) j).symm))
  have HS1 := Lib.hid (HS0.out.step (bel_alloc (Below.refl _ w0) (.cells (madeCells #[.int .i64 0] (n + 1)) 3)))
  obtain ⟨sb, hsb⟩ : ∃ sb, sb = w0.heap.size := ⟨_, rfl⟩
  obtain ⟨w1, hw1⟩ : ∃ w1, w1 = w0.alloc (.cells (madeCells #[.int .i64 0] (n + 1)) 3) := ⟨_, rfl⟩
  have HSB : Hid (w.heap.size < sb) := Lib.hid (by rw [hsb]; exact World.block_lt_of_cell? w0 _ c0)
  rw [← hsb, ← hw1] at HR0 ⊢
  rw [← hw1] at HS1
  clear hsb hw1 hmk HMK HS0 c0 c1 c2 c3 HC HS
  go_loopw [8, 9] (fun q i wr => ∃ k : Nat, k ≤ n + 1 ∧ i = .int .i64 (k : Int) ∧ q = .int .i64 ((slotsTo p k : Nat) : Int) ∧ GS w w.heap.size ((n : Int) + 1) b c d wr ∧ wr.rowIs sb 3 (n + 1) (seenC (slotF p) k)) (fun _ i _ => n + 1 - (intOf i).toNat)
  case atStart => exact ⟨0, Nat.zero_le _, rfl, by simp [slotsTo], HS1.out, HR0.out⟩
  case round =>
    obtain ⟨k, hk, rfl, rfl, hgs, hrow⟩ := hrel
    have HGS := Lib.hid hgs
    have HROW := Lib.hid hrow
    clear hgs hrow
    obtain ⟨c0, c1, c2, c3, _⟩ := HGS.out
    by_cases hlt : k < n + 1
    · have t1 : decide ((k : Int) < (n : Int) + 1) = true := by simp; omega
      by_cases hkp : k = p
      · subst hkp
        have hq : slotsTo k (k + 1) = slotsTo k k := by unfold slotsTo; rw [if_neg (by omega), if_pos (by omega)]; omega
        have HQ := Lib.hid hq
        clear hq
        go_wp2_with fail
        ((with_reducible refine (HNo.out _).mono ?_))
        rintro e w2 ⟨rfl, hb⟩
        have HGS2 := Lib.hid (HGS.out.step hb)
        have HROW2 := Lib.hid (HROW.out.of_block (hb.block _ HROW.out.lt))
        clear hb c0 c1 c2 c3 HGS HROW
        obtain ⟨c0, c1, c2, c3, _⟩ := HGS2.out
        go_wp2_with fail
        ((with_reducible refine (HP.out _).mono ?_))
        rintro e w3 ⟨rfl, hb⟩
        have HGS3 := Lib.hid (HGS2.out.step hb)
        have HROW3 := Lib.hid (HROW2.out.of_block (hb.block _ HROW2.out.lt))
        clear hb c0 c1 c2 c3 HGS2 HROW2
        go_wp2
        go_roundw
        case rel => exact ⟨k + 1, by omega, by go_num, by rw [HQ.out], HGS3.out, HROW3.out.congr fun j hj => seenC_skip (N := n + 1) (by unfold slotF; rw [if_pos rfl]; omega) hj⟩
        case measure => simp [intOf]; omega
      · have hsn : slotOf p k < n := by unfold slotOf; split <;> omega
        have hmo := memOf_slotOf hkp
        have hf : slotF p k = slotOf p k := by unfold slotF; rw [if_neg hkp]
        have hq : slotsTo p (k + 1) = slotsTo p k + 1 := by unfold slotsTo; split <;> split <;> omega
        have hne : ∀ i, i < k → slotF p i ≠ slotF p k := fun i hi e => by
          rw [hf] at e
          by_cases hip : i = p
          · unfold slotF at e; rw [if_pos hip] at e; omega
          · have h1 := memOf_slotOf hip
            unfold slotF at e; rw [if_neg hip] at e
            rw [e, hmo] at h1; omega
        have HZ := Lib.hid (seenC_new hne)
        have HSU := Lib.hid (seenC_succ (slotF p) k)
        have hy := HYes.out (slotOf p k)
        have hm := HM.out (slotOf p k)
        rw [hmo] at hy hm
        rw [hf] at HZ HSU
        obtain ⟨s, hs⟩ : ∃ s, s = slotOf p k := ⟨_, rfl⟩
        obtain ⟨q, hqq⟩ : ∃ q, q = slotsTo p k := ⟨_, rfl⟩
        have hq16 : q ≤ 16 := by rw [hqq]; unfold slotsTo; split <;> omega
        rw [← hs] at hy hm hsn HZ HSU
        rw [← hqq] at hq ⊢
        have HQ := Lib.hid hq
        have HY := Lib.hid hy
        have HM2 := Lib.hid hm
        clear hq hy hm hs hqq hne hf hmo hkp
        go_wp2_with fail
        ((with_reducible refine (HY.out _ hsn).mono ?_))
        rintro e w2 ⟨rfl, hb⟩
        have HGS2 := Lib.hid (HGS.out.step hb)
        have HROW2 := Lib.hid (HROW.out.of_block (hb.block _ HROW.out.lt))
        clear hb c0 c1 c2 c3 HGS HROW
        obtain ⟨c0, c1, c2, c3, _⟩ := HGS2.out
        have cz : w2.cell? ⟨sb, s, none⟩ = some (.int .i64 0) := by rw [HROW2.out.cell (by omega), HZ.out]
        have t2 : decide ((s : Int) < 0) = false := by simp
        have t3 : decide ((n : Int) + 1 ≤ (s : Int)) = false := by simp; omega
        go_wp2_with fail
        ((with_reducible refine (HM2.out _ (by omega)).mono ?_))
        rintro e w3 ⟨rfl, hb⟩
        have HGS3 := Lib.hid (HGS2.out.step hb)
        have HROW3 := Lib.hid (HROW2.out.of_block (hb.block _ HROW2.out.lt))
        clear hb c0 c1 c2 c3 cz HGS2 HROW2
        have cz : w3.cell? ⟨sb, s, none⟩ = some (.int .i64 0) := by rw [HROW3.out.cell (by omega), HZ.out]
        have fz := HROW3.out.frozen s
        go_wp2_with fail
        go_roundw
        case rel =>
          exact ⟨k + 1, by omega, by go_num, by rw [HQ.out]; go_num, HGS3.out.set (by have := HSB.out; omega) (by have := HSB.out; omega) _ _, seen_set HROW3.out HSU.out⟩
        case measure => simp [intOf]; omega
    · obtain rfl : k = n + 1 := by omega
      have hq : slotsTo p (n + 1) = n := by unfold slotsTo; rw [if_neg (by omega)]; omega
      rw [hq]
      clear hq
      go_wp2_with fail
      ((with_reducible refine (HPl.out _).mono ?_))
      rintro e w2 ⟨rfl, hb⟩
      have HGS2 := Lib.hid (HGS.out.step hb)
      clear hb c0 c1 c2 c3
      obtain ⟨c0, c1, c2, c3, _⟩ := HGS2.out
      go_wp2
      go_ret
      exact ⟨rfl, HGS2.out.2.2.2.2⟩

end Go.Proofs.Ytmggjknljbpbgaa
