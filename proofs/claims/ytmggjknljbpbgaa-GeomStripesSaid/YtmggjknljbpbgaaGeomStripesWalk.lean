/- GeomStripes: the walk. -/
import Derived.Test.YtmggjknljbpbgaaGeomStripesOut
import Derived.Test.YtmggjknljbpbgaaGeomMembersWalk
import Derived.Test.YtmggjknljbpbgaaGeoRef
namespace Go.Proofs.Ytmggjknljbpbgaa
open Go.RowKit Go.Deep

/-- A list of the members. -/
def MemsAt (p n : Nat) (b : Nat) (x : World) : Prop := ∀ i, i < n → x.cell? ⟨b, i, none⟩ = some (.int .i64 ((memOf p i : Nat) : Int))
theorem MemsAt.step {p n b : Nat} {x y : World} (h : MemsAt p n b x) (hb : Below x.heap.size x y) : MemsAt p n b y := fun i hi => cell_step (h i hi) hb
theorem memsAt_of {B p n : Nat} {x : World} {v : Value} (h : x.ownsRow B 3 1 v n (vals (upto (memOf p) n))) (hn : 0 < n) : ∃ b cap, v = .slice (some ⟨b, 0, none⟩) n cap ∧ n ≤ cap ∧ cap ≤ maxLen ∧ MemsAt p n b x := by
  have h0 := h
  rcases h.2 with ⟨_, e⟩ | ⟨g, cap, cur, rfl, _, _, hc, hm, _⟩
  · omega
  · refine ⟨g, cap, rfl, hc, hm, fun i hi => ?_⟩
    rw [h0.cellAt i (by omega)]
    simp [vals, upto, hi]

set_option maxRecDepth 100000 in
set_option maxHeartbeats 6400000 in
theorem geomStripes_walk (a b c d seg row : Int) (w : World) (_ : In64x4 a b c d) (_ : (Lit.int .i64 seg).wf = true) (_ : (Lit.int .i64 row).wf = true) :
    Calls Try.prog 3 #[.agg #[.int .i64 a, .int .i64 b, .int .i64 c, .int .i64 d], .int .i64 seg, .int .i64 row] w fun e w' => e = .returned (.bool true) ∧ Below w.heap.size w w' := by
  by_cases hin : GoodG a b c d ∧ 0 ≤ seg ∧ seg ≤ 1000 ∧ 0 ≤ row ∧ row ≤ 1000
  case neg => exact geomStripes_out a b c d seg row w hin
  obtain ⟨hg, s0, s1, r0, r1⟩ := hin
  have HS := Lib.hid (gs_new w a b c d)
  have HPl := Lib.hid placed_any
  have HC := Lib.hid fun x : World => check_good a b c d x hg
  have HW := Lib.hid fun x : World => width_any a b c d x (by have := hg.1; omega) (by have := hg.2.1; omega)
  obtain ⟨n, rfl⟩ : ∃ n : Nat, a = (n : Int) + 1 := ⟨(a - 1).toNat, by have := hg.1; omega⟩
  rw [show (n : Int) + 1 - 1 = n by omega] at HW
  have hn : 2 ≤ n ∧ n ≤ 15 := by have := hg.1; have := hg.2.1; omega
  obtain ⟨p, hp⟩ : ∃ p : Nat, ((p : Nat) : Int) = ParOf ((n : Int) + 1) c seg row := ⟨(ParOf ((n : Int) + 1) c seg row).toNat, Int.toNat_of_nonneg (Int.emod_nonneg _ (by omega))⟩
  have hpn : p ≤ n := by
    have h2 : ParOf ((n : Int) + 1) c seg row < (n : Int) + 1 := Int.emod_lt_of_pos _ (by omega)
    omega
  have HP := Lib.hid fun x : World => parity_any ((n : Int) + 1) b c d seg row x hg s0 (by omega) r0 (by omega)
  have HRP := Lib.hid fun x : World => refPar_any ((n : Int) + 1) b c d seg row x hg s0 (by omega) r0 (by omega)
  rw [← hp] at HP HRP
  have HRM := Lib.hid fun x : World => refMembers_any b c d seg row p n x hg s0 (by omega) r0 (by omega) hp hpn (by omega)
  have HNo := Lib.hid fun x : World => slot_no ((n : Int) + 1) b c d seg row p n x hg s0 (by omega) r0 (by omega) hp (by omega)
  have HYes := Lib.hid fun (k : Nat) (x : World) (hk : k < n) => slot_yes ((n : Int) + 1) b c d seg row p n k x hg s0 (by omega) r0 (by omega) hp (by omega) hk
  have HM := Lib.hid fun (k : Nat) (x : World) (hk : k ≤ 1000) => member_any ((n : Int) + 1) b c d seg row p k x hg s0 (by omega) r0 (by omega) hp hk
  have k1 : decide (seg < 0) = false := by simp; omega
  have k2 : decide (1000 < seg) = false := by simp; omega
  have k3 : decide (row < 0) = false := by simp; omega
  have k4 : decide (1000 < row) = false := by simp; omega
  clear hg hp
  go_enter Try.func3, Try.ntmps3
  obtain ⟨c0, c1, c2, c3, _⟩ := HS.out
  go_wp2_with fail
  ((with_reducible refine (HC.out _).mono ?_))
  rintro e w0 ⟨rfl, hb⟩
  have HS0 := Lib.hid (HS.out.step hb)
  clear hb c0 c1 c2 c3
  obtain ⟨c0, c1, c2, c3, _⟩ := HS0.out
  go_wp2_with fail
  ((with_reducible refine (HRM.out _).mono ?_))
  intro e w1 hq
  obtain ⟨v, rfl, hown, hb⟩ := hq
  obtain ⟨bl, cap, rfl, hcap, hmax, hmem⟩ := memsAt_of hown (by omega)
  unfold maxLen at hmax
  have HMA1 := Lib.hid hmem
  have HS1 := Lib.hid (HS0.out.step hb)
  clear hb c0 c1 c2 c3 hown hmem
  obtain ⟨c0, c1, c2, c3, _⟩ := HS1.out
  go_wp2_with fail
  ((with_reducible refine (HP.out _).mono ?_))
  rintro e w2 ⟨rfl, hb⟩
  have HS2 := Lib.hid (HS1.out.step hb)
  have HMA2 := Lib.hid (HMA1.out.step hb)
  clear hb c0 c1 c2 c3
  go_wp2_with fail
  ((with_reducible refine (HPl.out _).mono ?_))
  rintro e w3 ⟨rfl, hb⟩
  have HS3 := Lib.hid (HS2.out.step hb)
  have HMA3 := Lib.hid (HMA2.out.step hb)
  clear hb
  obtain ⟨c0, c1, c2, c3, _⟩ := HS3.out
  go_wp2_with fail
  ((with_reducible refine (HRP.out _).mono ?_))
  rintro e w4 ⟨rfl, hb⟩
  have HS4 := Lib.hid (HS3.out.step hb)
  have HMA4 := Lib.hid (HMA3.out.step hb)
  clear hb c0 c1 c2 c3
  obtain ⟨c0, c1, c2, c3, _⟩ := HS4.out
  go_wp2_with fail
  ((with_reducible refine (HW.out _).mono ?_))
  rintro e w5 ⟨rfl, hb⟩
  have HS5 := Lib.hid (HS4.out.step hb)
  have HMA5 := Lib.hid (HMA4.out.step hb)
  clear hb c0 c1 c2 c3
  go_wp2_with fail
  go_loopw [9] (fun i wr => ∃ k : Nat, k ≤ n ∧ i = .int .i64 (k : Int) ∧ GS w w.heap.size ((n : Int) + 1) b c d wr ∧ MemsAt p n bl wr) (fun i _ => n - (intOf i).toNat)
  case atStart => exact ⟨0, Nat.zero_le _, rfl, HS5.out, HMA5.out⟩
  case round =>
    obtain ⟨k, hk, rfl, hgs, hma⟩ := hrel
    have HGS := Lib.hid hgs
    have HMA := Lib.hid hma
    clear hgs hma
    obtain ⟨c0, c1, c2, c3, _⟩ := HGS.out
    by_cases hlt : k < n
    · have t1 : decide (k < n) = true := by simpa using hlt
      have hm := HM.out k
      have hy := HYes.out k
      have hcl := HMA.out k hlt
      have hst := fun (y : World) (hb : Below wr.heap.size wr y) => (HMA.out.step hb) k hlt
      obtain ⟨m, hmm⟩ : ∃ m, m = memOf p k := ⟨_, rfl⟩
      have HMM := Lib.hid hmm
      rw [← hmm] at hm hy
      have HM2 := Lib.hid hm
      have HY2 := Lib.hid hy
      clear hm hy hcl hst hmm
      go_wp2_with fail
      ((with_reducible refine (HM2.out _ (by omega)).mono ?_))
      rintro e w6 ⟨rfl, hb⟩
      have HGS6 := Lib.hid (HGS.out.step hb)
      have HMA6 := Lib.hid (HMA.out.step hb)
      clear hb c0 c1 c2 c3
      obtain ⟨c0, c1, c2, c3, _⟩ := HGS6.out
      go_wp2_with fail
      ((with_reducible refine (HY2.out _ hlt).mono ?_))
      rintro e w7 ⟨rfl, hb⟩
      have HGS7 := Lib.hid (HGS6.out.step hb)
      have HMA7 := Lib.hid (HMA6.out.step hb)
      clear hb c0 c1 c2 c3
      have cm : w7.cell? ⟨bl, k, none⟩ = some (.int .i64 (m : Int)) := by rw [HMM.out]; exact HMA7.out k hlt
      go_wp2
      go_roundw
      case rel => exact ⟨k + 1, by omega, by go_num, HGS7.out, HMA7.out⟩
      case measure => simp [intOf]; omega
    · have t1 : decide (k < n) = false := by simpa using hlt
      go_wp2_with fail
      ((with_reducible refine (HNo.out _).mono ?_))
      rintro e w6 ⟨rfl, hb⟩
      have HGS6 := Lib.hid (HGS.out.step hb)
      clear hb c0 c1 c2 c3
      go_wp2
      go_ret
      exact ⟨rfl, HGS6.out.2.2.2.2⟩

end Go.Proofs.Ytmggjknljbpbgaa
