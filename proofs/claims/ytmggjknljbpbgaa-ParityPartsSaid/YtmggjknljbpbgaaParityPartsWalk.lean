/- ParityParts: the walk. -/
import Derived.Test.YtmggjknljbpbgaaParityXorsWalk
namespace Go.Proofs.Ytmggjknljbpbgaa
open Go.RowKit

theorem take_snoc' (L : List PS) (k : Nat) (hk : k < L.length) : L.take k ++ [L.getD k PS.nil] = L.take (k + 1) := by
  rw [List.take_succ_eq_append_getElem hk]
  simp [List.getD, hk]
theorem all_le (L : List PS) (k : Nat) (hk : k < L.length) {m : Nat} (h : ∀ q ∈ L.take k, q.n ≤ m) (h2 : (L.getD k PS.nil).n ≤ m) : ∀ q ∈ L.take (k + 1), q.n ≤ m := fun q hq => by
  rw [← take_snoc' L k hk] at hq
  rcases List.mem_append.1 hq with hq | hq
  · exact h q hq
  · rw [List.mem_singleton.1 hq]; exact h2

set_option maxRecDepth 100000 in
set_option maxHeartbeats 3200000 in
theorem parityParts_in (a : Option Addr) (n cap : Nat) (L : List PS) (b : Option Addr) (m capb : Nat) (M : List PS) (w : World) (hn : n = L.length) (hp : PartsL w a L) (hnm : n ≤ maxLen) (hm : m = M.length) (hq : PartsL w b M) (hmm : m ≤ maxLen) :
    Calls Try.prog 14 #[.slice a n cap, .slice b m capb] w fun e w' => e = .returned (.bool true) ∧ Below w.heap.size w w' := by
  unfold maxLen at hnm hmm
  have HS := Lib.hid summed_any
  have HP := Lib.hid hp
  have HN := Lib.hid hn
  have HQ := Lib.hid hq
  have HM := Lib.hid hm
  clear hp hn hq hm
  by_cases h10 : 10 < n
  · have t0 : decide ((10 : Int) < (n : Int)) = true := by simp; omega
    clear h10
    go_enter Try.func14, Try.ntmps14
    go_wp2_with fail
    ((with_reducible refine (HS.out _).mono ?_))
    rintro e w1 ⟨rfl, hb⟩
    go_wp2
    go_ret
    exact ⟨rfl, hb⟩
  have t0 : decide ((10 : Int) < (n : Int)) = false := by simp; omega
  have h10' : n ≤ 10 := by omega
  clear h10
  by_cases h11 : 10 < m
  · have t1 : decide ((10 : Int) < (m : Int)) = true := by simp; omega
    clear h11
    go_enter Try.func14, Try.ntmps14
    go_wp2_with fail
    ((with_reducible refine (HS.out _).mono ?_))
    rintro e w1 ⟨rfl, hb⟩
    go_wp2
    go_ret
    exact ⟨rfl, hb⟩
  have t1 : decide ((10 : Int) < (m : Int)) = false := by simp; omega
  have h11' : m ≤ 10 := by omega
  clear h11
  go_enter Try.func14, Try.ntmps14
  go_wp2
  go_loopw [5, 6] (fun v i wr => ∃ k : Nat, k ≤ n ∧ i = .int .i64 (k : Int) ∧ OwnL w.heap.size wr v (L.take k) ∧ Below w.heap.size w wr ∧ (∀ p ∈ L.take k, p.n ≤ 300)) (fun _ i _ => n - (intOf i).toNat)
  case atStart => exact ⟨0, Nat.zero_le _, rfl, by rw [List.take_zero]; exact ownL_nil _ _, Below.refl _ _, fun p hp => by simp at hp⟩
  case round =>
    obtain ⟨k, hk, rfl, hown, hbe, hall⟩ := hrel
    have HO := Lib.hid hown
    have HB := Lib.hid hbe
    have HA := Lib.hid hall
    clear hown hbe hall
    by_cases hlt : k < n
    · have t2 : decide (k < n) = true := by simpa using hlt
      have hpw := HP.out.keep HB.out (Nat.le_refl _)
      have hkL : k < L.length := by have := HN.out; omega
      obtain ⟨bb, off, rfl, hc⟩ := hpw.cell hkL
      have HOK : Hid (PartOk wr (L.getD k PS.nil)) := Lib.hid (hpw.2 k hkL)
      have HTR := Lib.hid (take_snoc' L k hkL)
      have HAL : Hid ((L.getD k PS.nil).n ≤ 300 → ∀ q ∈ L.take (k + 1), q.n ≤ 300) := Lib.hid fun h => all_le L k hkL HA.out h
      have hk0 : (0 : Int) ≤ (k : Int) := by omega
      have hk1 : (k : Int) < (n : Int) := by omega
      obtain ⟨p, hpd⟩ : ∃ p, p = L.getD k PS.nil := ⟨_, rfl⟩
      rw [← hpd] at hc HOK HTR HAL
      clear hpd hpw
      by_cases h3 : 300 < p.n
      · have t3 : decide ((300 : Int) < (p.n : Int)) = true := by simp; omega
        clear h3
        go_wp2_with fail
        ((with_reducible refine (HS.out _).mono ?_))
        rintro e w1 ⟨rfl, hb⟩
        have HB2 := Lib.hid (bel_trans HB.out hb)
        clear hb
        go_wp2
        go_ret
        exact ⟨rfl, HB2.out⟩
      · have t3 : decide ((300 : Int) < (p.n : Int)) = false := by simp; omega
        have hp3 : p.n ≤ 300 := by omega
        have HA3 := Lib.hid (HAL.out hp3)
        have hln : (L.take k).length ≤ 100 := by rw [List.length_take]; omega
        clear h3 hp3
        obtain ⟨R, hR⟩ : ∃ R, R = L.take k := ⟨_, rfl⟩
        have HRR : Hid (R ++ [p] = L.take (k + 1)) := Lib.hid (by rw [hR, HTR.out])
        rw [← hR] at HO hln
        clear hR
        go_wp2_with (at_builtin; refine wpList_appL rfl _ _ rfl w.heap.size _ R rfl (HO.out.alloc _) _ 1 1 [p] rfl rfl (cells_one wr p) (fun h => by cases h) (Nat.le_trans HB.out.size (by simp)) (by omega) ?_; intro v' w3 hap)
        rw [HRR.out] at hap
        have HO3 := Lib.hid hap.own
        have HB3 := Lib.hid ((bel_alloc HB.out _).trans hap.below)
        clear hap
        go_wp2
        go_roundw
        case rel => exact ⟨k + 1, by omega, by go_num, HO3.out, HB3.out, HA3.out⟩
        case measure => simp [intOf]; omega
    · obtain rfl : k = n := by omega
      have t2 : decide (k < k) = false := by simp
      have hta := take_all L k HN.out.symm
      rw [hta] at HO HA
      clear hta
      obtain ⟨n0, hn0⟩ : ∃ n0, n0 = k := ⟨_, rfl⟩
      subst hn0
      have HO0 := Lib.hid HO.out
      have HB0 := Lib.hid HB.out
      have HA0 := Lib.hid HA.out
      clear HO HB HA t2
      go_wp2
      go_loopw [5, 7] (fun v i wr => ∃ k : Nat, k ≤ m ∧ i = .int .i64 (k : Int) ∧ OwnL w.heap.size wr v (L ++ M.take k) ∧ Below w.heap.size w wr ∧ (∀ p ∈ M.take k, p.n ≤ 300)) (fun _ i _ => m - (intOf i).toNat)
      case atStart => exact ⟨0, Nat.zero_le _, rfl, by rw [List.take_zero, List.append_nil]; exact HO0.out, HB0.out, fun p hp => by simp at hp⟩
      case round =>
        obtain ⟨k, hk, rfl, hown, hbe, hall⟩ := hrel
        have HO := Lib.hid hown
        have HB := Lib.hid hbe
        have HA := Lib.hid hall
        clear hown hbe hall
        by_cases hlt : k < m
        · have t2 : decide (k < m) = true := by simpa using hlt
          have hpw := HQ.out.keep HB.out (Nat.le_refl _)
          have hkL : k < M.length := by have := HM.out; omega
          obtain ⟨bb, off, rfl, hc⟩ := hpw.cell hkL
          have HOK : Hid (PartOk wr (M.getD k PS.nil)) := Lib.hid (hpw.2 k hkL)
          have HTR := Lib.hid (take_snoc' M k hkL)
          have HAL : Hid ((M.getD k PS.nil).n ≤ 300 → ∀ q ∈ M.take (k + 1), q.n ≤ 300) := Lib.hid fun h => all_le M k hkL HA.out h
          have hk0 : (0 : Int) ≤ (k : Int) := by omega
          have hk1 : (k : Int) < (m : Int) := by omega
          obtain ⟨p, hpd⟩ : ∃ p, p = M.getD k PS.nil := ⟨_, rfl⟩
          rw [← hpd] at hc HOK HTR HAL
          clear hpd hpw
          by_cases h3 : 300 < p.n
          · have t3 : decide ((300 : Int) < (p.n : Int)) = true := by simp; omega
            clear h3
            go_wp2_with fail
            ((with_reducible refine (HS.out _).mono ?_))
            rintro e w1 ⟨rfl, hb⟩
            have HB2 := Lib.hid (bel_trans HB.out hb)
            clear hb
            go_wp2
            go_ret
            exact ⟨rfl, HB2.out⟩
          · have t3 : decide ((300 : Int) < (p.n : Int)) = false := by simp; omega
            have hp3 : p.n ≤ 300 := by omega
            have HA3 := Lib.hid (HAL.out hp3)
            have hln : (L ++ M.take k).length ≤ 100 := by rw [List.length_append, List.length_take, ← HN.out]; omega
            clear h3 hp3
            obtain ⟨R, hR⟩ : ∃ R, R = L ++ M.take k := ⟨_, rfl⟩
            have HRR : Hid (R ++ [p] = L ++ M.take (k + 1)) := Lib.hid (by rw [hR, List.append_assoc, HTR.out])
            rw [← hR] at HO hln
            clear hR
            go_wp2_with (at_builtin; refine wpList_appL rfl _ _ rfl w.heap.size _ R rfl (HO.out.alloc _) _ 1 1 [p] rfl rfl (cells_one wr p) (fun h => by cases h) (Nat.le_trans HB.out.size (by simp)) (by omega) ?_; intro v' w3 hap)
            rw [HRR.out] at hap
            have HO3 := Lib.hid hap.own
            have HB3 := Lib.hid ((bel_alloc HB.out _).trans hap.below)
            clear hap
            go_wp2
            go_roundw
            case rel => exact ⟨k + 1, by omega, by go_num, HO3.out, HB3.out, HA3.out⟩
            case measure => simp [intOf]; omega
        · obtain rfl : k = m := by omega
          have t2 : decide (k < k) = false := by simp
          have hta := take_all M k HM.out.symm
          rw [hta] at HO HA
          clear hta
          have HPL := Lib.hid (HP.out.keep HB.out (Nat.le_refl _))
          have HQL := Lib.hid (HQ.out.keep HB.out (Nat.le_refl _))
          obtain ⟨sa, sc, rfl, hcl, hle, hmx, hnn⟩ := cellsL_own HO.out
          have HR := Lib.hid (partsL_of hcl fun p hp => (List.mem_append.1 hp).elim (partsL_mem HPL.out p) (partsL_mem HQL.out p))
          have hlr : (L ++ M).length = n0 + k := by rw [List.length_append, ← HN.out, ← HM.out]
          have HLR := Lib.hid hlr
          rw [hlr]
          clear hcl hle hmx hnn hlr
          have HA1 : Hid (∀ q ∈ L, q.n ≤ 100000) := Lib.hid fun q hq => Nat.le_trans (HA0.out q hq) (by omega)
          have HA2 : Hid (∀ q ∈ M, q.n ≤ 100000) := Lib.hid fun q hq => Nat.le_trans (HA.out q hq) (by omega)
          have HA3 : Hid (∀ q ∈ L ++ M, q.n ≤ 100000) := Lib.hid fun q hq => (List.mem_append.1 hq).elim (HA1.out q) (HA2.out q)
          have hn1 : n0 ≤ 100000 := by omega
          have hk1 : k ≤ 100000 := by omega
          have hs1 : n0 + k ≤ 100000 := by omega
          have HLA : Hid (lgL (L.map PS.l) ≤ 100000) := Lib.hid (lgL_le fun y hy => by
            rw [List.mem_map] at hy
            obtain ⟨q, hq, rfl⟩ := hy
            rw [(partsL_mem HPL.out q hq).1.1]; exact HA1.out q hq)
          have HLB : Hid (lgL (M.map PS.l) ≤ 100000) := Lib.hid (lgL_le fun y hy => by
            rw [List.mem_map] at hy
            obtain ⟨q, hq, rfl⟩ := hy
            rw [(partsL_mem HQL.out q hq).1.1]; exact HA2.out q hq)
          go_wp2_with fail
          ((with_reducible refine (HS.out _).mono ?_))
          rintro e w1 ⟨rfl, hb⟩
          have HP1 := Lib.hid (HPL.out.step hb)
          have HQ1 := Lib.hid (HQL.out.step hb)
          have HR1 := Lib.hid (HR.out.step hb)
          have HB1 := Lib.hid (bel_trans HB.out hb)
          clear hb
          go_wp2_with fail
          ((with_reducible refine (xorL_any a cap L n0 _ HN.out HP1.out hn1 HA1.out).mono ?_))
          intro e w2 hr
          obtain ⟨x, rfl, hxl, hxn, hok, hb⟩ := part_ret hr
          have HX2 := Lib.hid hok
          have HXL := Lib.hid hxl
          have HXN : Hid (x.n ≤ 100000) := Lib.hid (by rw [hxn, xorL_len]; exact HLA.out)
          have HQ2 := Lib.hid (HQ1.out.step hb)
          have HR2 := Lib.hid (HR1.out.step hb)
          have HB2 := Lib.hid (bel_trans HB1.out hb)
          clear hr hxl hxn hok hb
          go_wp2_with fail
          ((with_reducible refine (xorL_any b capb M k _ HM.out HQ2.out hk1 HA2.out).mono ?_))
          intro e w3 hr
          obtain ⟨y, rfl, hyl, hyn, hok, hb⟩ := part_ret hr
          have HY3 := Lib.hid hok
          have HYL := Lib.hid hyl
          have HYN : Hid (y.n ≤ 100000) := Lib.hid (by rw [hyn, xorL_len]; exact HLB.out)
          have HX3 := Lib.hid (HX2.out.step hb)
          have HR3 := Lib.hid (HR2.out.step hb)
          have HB3 := Lib.hid (bel_trans HB2.out hb)
          clear hr hyl hyn hok hb
          have HC4 := Lib.hid (partsL_of (cells_two w3 x y) fun q hq => by
            simp only [List.mem_cons, List.not_mem_nil, or_false] at hq
            rcases hq with rfl | rfl
            · exact HX3.out.step (bel_alloc (Below.refl _ _) _)
            · exact HY3.out.step (bel_alloc (Below.refl _ _) _))
          have HC5 : Hid (∀ q ∈ [x, y], q.n ≤ 100000) := Lib.hid fun q hq => by
            simp only [List.mem_cons, List.not_mem_nil, or_false] at hq
            rcases hq with rfl | rfl
            · exact HXN.out
            · exact HYN.out
          go_wp2_with fail
          ((with_reducible refine (xorL_any _ 2 [x, y] 2 _ rfl HC4.out (by omega) HC5.out).mono ?_))
          intro e w5 hr
          obtain ⟨z, rfl, hzl, hzn, hok, hb⟩ := part_ret hr
          have HZ5 := Lib.hid hok
          have HZL : Hid (z.l = xorL ((L ++ M).map PS.l)) := Lib.hid (by
            rw [hzl, List.map_append, ← xorL_two, ← HXL.out, ← HYL.out]; rfl)
          have HR5 := Lib.hid (HR3.out.step ((bel_alloc (Below.refl _ w3) _).trans (hb.mono (by simp))))
          have HB5 := Lib.hid (bel_trans (bel_alloc HB3.out _) hb)
          clear hr hzl hzn hok hb
          go_wp2_with fail
          ((with_reducible refine (xorL_any sa sc (L ++ M) (n0 + k) _ HLR.out.symm HR5.out hs1 HA3.out).mono ?_))
          intro e w6 hr
          obtain ⟨u, rfl, hul, hun, hok, hb⟩ := part_ret hr
          have HSM := Lib.hid (sameB_any z.a z.n z.c u.a u.n u.c z.l u.l w6 (HZ5.out.step hb).1 hok.1)
          rw [HZL.out, hul] at HSM
          have HB6 := Lib.hid (bel_trans HB5.out hb)
          clear hr hul hun hok hb
          go_wp2_with fail
          ((with_reducible refine HSM.out.mono ?_))
          rintro e w7 ⟨rfl, rfl⟩
          simp only [decide_true]
          clear HSM
          go_wp2
          go_ret
          exact ⟨rfl, HB6.out⟩

theorem parityParts_walk (a : Option Addr) (n cap : Nat) (A : Nat → Option Addr) (L C : Nat → Nat) (B : Nat → List Nat) (b : Option Addr) (m capb : Nat) (A' : Nat → Option Addr) (L' C' : Nat → Nat) (B' : Nat → List Nat) (w : World) (hin : InParts w a n cap A L C B) (hin2 : InParts w b m capb A' L' C' B') :
    Calls Try.prog 14 #[.slice a n cap, .slice b m capb] w fun e w' => e = .returned (.bool true) ∧ Below w.heap.size w w' :=
  parityParts_in a n cap (plist n A L C B) b m capb (plist m A' L' C' B') w (plist_len n A L C B).symm (parts_of_in hin) hin.1 (plist_len m A' L' C' B').symm (parts_of_in hin2) hin2.1

end Go.Proofs.Ytmggjknljbpbgaa
