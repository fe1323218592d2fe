/- ParityXors: the walk. -/
import Derived.Test.YtmggjknljbpbgaaSummed
import Derived.Test.YtmggjknljbpbgaaEnds
import Derived.Test.YtmggjknljbpbgaaFrameParts
namespace Go.Proofs.Ytmggjknljbpbgaa
open Go.RowKit

/-- Parts that came in, as a list. -/
def plist (n : Nat) (A : Nat → Option Addr) (L C : Nat → Nat) (B : Nat → List Nat) : List PS := (List.range n).map fun i => ⟨A i, L i, C i, B i⟩
theorem plist_len (n : Nat) (A : Nat → Option Addr) (L C : Nat → Nat) (B : Nat → List Nat) : (plist n A L C B).length = n := by simp [plist]
theorem plist_at {n : Nat} (A : Nat → Option Addr) (L C : Nat → Nat) (B : Nat → List Nat) {i : Nat} (hi : i < n) : (plist n A L C B).getD i PS.nil = ⟨A i, L i, C i, B i⟩ := by
  simp [plist, List.getD, hi]
theorem parts_of_in {W : World} {a : Option Addr} {n cap : Nat} {A : Nat → Option Addr} {L C : Nat → Nat} {B : Nat → List Nat} (h : InParts W a n cap A L C B) : PartsL W a (plist n A L C B) := by
  obtain ⟨_, _, h1, h2⟩ := h
  unfold PartsL
  rw [plist_len]
  refine ⟨fun h0 => ?_, fun i hi => ?_⟩
  · obtain ⟨b, off, e, hc⟩ := h1 h0
    exact ⟨b, off, e, fun i hi => by dsimp only; rw [plist_at A L C B hi]; exact hc i hi⟩
  · dsimp only
    rw [plist_at A L C B hi]
    exact h2 i hi
theorem take_rev (L : List PS) (k : Nat) (hk : k < L.length) : [L.getD k PS.nil] ++ (L.take k).reverse = (L.take (k + 1)).reverse := by
  rw [List.take_succ_eq_append_getElem hk, List.reverse_append]
  simp [List.getD, hk]
theorem take_all (L : List PS) (k : Nat) (hk : L.length = k) : L.take k = L := List.take_of_length_le (by omega)
theorem zeros_rep (n : Nat) : zeros (List.replicate n 0) = true := by
  unfold zeros
  rw [List.all_eq_true]
  intro x hx
  rw [List.eq_of_mem_replicate hx]; rfl

set_option maxRecDepth 100000 in
set_option maxHeartbeats 3200000 in
theorem parityXors_in (a : Option Addr) (n cap : Nat) (L : List PS) (w : World) (hn : n = L.length) (hp : PartsL w a L) (hm : n ≤ maxLen) (hz : a = none → cap = 0) :
    Calls Try.prog 10 #[.slice a n cap] w fun e w' => e = .returned (.bool true) ∧ Below w.heap.size w w' := by
  unfold maxLen at hm
  have HS := Lib.hid summed_any
  have HP := Lib.hid hp
  have HN := Lib.hid hn
  have HZ := Lib.hid hz
  clear hp hn hz
  by_cases h12 : 12 < n
  · have t0 : decide ((12 : Int) < (n : Int)) = true := by simp; omega
    clear h12
    go_enter Try.func10, Try.ntmps10
    go_wp2_with fail
    ((with_reducible refine (HS.out _).mono ?_))
    rintro e w1 ⟨rfl, hb⟩
    go_wp2
    go_ret
    exact ⟨rfl, hb⟩
  have t0 : decide ((12 : Int) < (n : Int)) = false := by simp; omega
  have h12' : n ≤ 12 := by omega
  clear h12
  go_enter Try.func10, Try.ntmps10
  go_wp2
  go_loopw [3, 4] (fun v i wr => ∃ k : Nat, k ≤ n ∧ i = .int .i64 (k : Int) ∧ OwnL w.heap.size wr v (L.take k).reverse ∧ Below w.heap.size w wr ∧ (∀ p ∈ L.take k, p.n ≤ 300)) (fun _ i _ => n - (intOf i).toNat)
  case atStart => exact ⟨0, Nat.zero_le _, rfl, ownL_nil _ _, Below.refl _ _, fun p hp => by simp at hp⟩
  case round =>
    obtain ⟨k, hk, rfl, hown, hbe, hall⟩ := hrel
    have HO := Lib.hid hown
    have HB := Lib.hid hbe
    have HA := Lib.hid hall
    clear hown hbe hall
    by_cases hlt : k < n
    · have t1 : decide (k < n) = true := by simpa using hlt
      have hpw := HP.out.keep HB.out (Nat.le_refl _)
      have hkL : k < L.length := by have := HN.out; omega
      obtain ⟨b, off, rfl, hc⟩ := hpw.cell hkL
      have HOK : Hid (PartOk wr (L.getD k PS.nil)) := Lib.hid (hpw.2 k hkL)
      have HTR := Lib.hid (take_rev L k hkL)
      have hk0 : (0 : Int) ≤ (k : Int) := by omega
      have hk1 : (k : Int) < (n : Int) := by omega
      obtain ⟨p, hpd⟩ : ∃ p, p = L.getD k PS.nil := ⟨_, rfl⟩
      have HPD := Lib.hid hpd
      rw [← hpd] at hc HOK HTR
      clear hpd hpw
      by_cases h3 : 300 < p.n
      · have t2 : decide ((300 : Int) < (p.n : Int)) = true := by simp; omega
        clear h3
        go_wp2_with fail
        ((with_reducible refine (HS.out _).mono ?_))
        rintro e w1 ⟨rfl, hb⟩
        have HB2 := Lib.hid (bel_trans HB.out hb)
        clear hb
        go_wp2
        go_ret
        exact ⟨rfl, HB2.out⟩
      · have t2 : decide ((300 : Int) < (p.n : Int)) = false := by simp; omega
        have hp3 : p.n ≤ 300 := by omega
        clear h3
        obtain ⟨sa, sc, rfl, hcl, hle, hmx, hnn⟩ := cellsL_own HO.out
        have hlen : (L.take k).reverse.length = k := by rw [List.length_reverse, List.length_take]; omega
        have HC2 : Hid (CellsL (wr.alloc (.cells #[.slice p.a p.n p.c] 47)) sa (L.take k).reverse) := Lib.hid (hcl.step (bel_alloc (Below.refl _ wr) _))
        obtain ⟨R, hR⟩ : ∃ R, R = (L.take k).reverse := ⟨_, rfl⟩
        have HRR := Lib.hid hR
        rw [← hR] at HC2 HTR hlen hcl hle
        rw [← hR, hlen]
        clear hR
        have HLEN := Lib.hid hlen
        have HNN := Lib.hid hnn
        have HO1 := Lib.hid (own_one wr p w.heap.size HB.out.size)
        clear hlen hcl hle hmx hnn
        go_wp2_with (at_builtin; refine wpList_appL rfl _ _ rfl w.heap.size _ [p] rfl HO1.out sa k sc R rfl HLEN.out.symm HC2.out HNN.out (Nat.le_trans HB.out.size (by simp)) (by simp; omega) ?_; intro v' w3 hap)
        rw [HTR.out] at hap
        have HO3 := Lib.hid hap.own
        have HB3 := Lib.hid ((bel_alloc HB.out _).trans hap.below)
        have HA3 : Hid (∀ q ∈ L.take (k + 1), q.n ≤ 300) := Lib.hid fun q hq => by
          rw [List.take_succ_eq_append_getElem hkL] at hq
          rcases List.mem_append.1 hq with hq | hq
          · exact HA.out q hq
          · have e : q = p := by rw [HPD.out]; simp at hq; simp [List.getD, hkL, hq]
            rw [e]; exact hp3
        clear hap
        go_wp2
        go_roundw
        case rel => exact ⟨k + 1, by omega, by go_num, HO3.out, HB3.out, HA3.out⟩
        case measure => simp [intOf]; omega
    · obtain rfl : k = n := by omega
      have hta := take_all L k HN.out.symm
      rw [hta] at HO HA
      obtain ⟨sa, sc, rfl, hcl, hle, hmx, hnn⟩ := cellsL_own HO.out
      have hPL := HP.out.keep HB.out (Nat.le_refl _)
      have HR := Lib.hid (partsL_of hcl fun p hp => partsL_mem hPL p (List.mem_reverse.1 hp))
      have HP0 := Lib.hid hPL
      have hlr : L.reverse.length = k := by rw [List.length_reverse]; exact HN.out.symm
      have HLR := Lib.hid hlr
      rw [hlr]
      clear hta hcl hle hmx hnn hPL hlr
      have hA1 : ∀ q ∈ L, q.n ≤ 100000 := fun q hq => Nat.le_trans (HA.out q hq) (by omega)
      have HA1 := Lib.hid hA1
      have HA2 : Hid (∀ q ∈ L.reverse, q.n ≤ 100000) := Lib.hid fun q hq => hA1 q (List.mem_reverse.1 hq)
      have hk1 : k ≤ 100000 := by omega
      clear hA1
      go_wp2_with fail
      ((with_reducible refine (xorL_any a cap L k _ HN.out HP0.out hk1 HA1.out).mono ?_))
      intro e w1 hr
      obtain ⟨x, rfl, hxl, hxn, hok, hb1⟩ := part_ret hr
      have HX1 := Lib.hid hok
      have HXL := Lib.hid hxl
      have HXN : Hid (x.n ≤ 300) := Lib.hid (by
        rw [hxn, xorL_len]
        have h1 : lgL (L.map PS.l) ≤ 300 := lgL_le fun y hy => by
          rw [List.mem_map] at hy
          obtain ⟨q, hq, rfl⟩ := hy
          rw [(partsL_mem HP0.out q hq).1.1]; exact HA.out q hq
        exact h1)
      have HP1 := Lib.hid (HP0.out.step hb1)
      have HR1 := Lib.hid (HR.out.step hb1)
      have HB1 := Lib.hid (bel_trans HB.out hb1)
      clear hr hxl hxn hok hb1
      go_wp2_with fail
      ((with_reducible refine (HS.out _).mono ?_))
      rintro e w2 ⟨rfl, hb⟩
      have HP2 := Lib.hid (HP1.out.step hb)
      have HR2 := Lib.hid (HR1.out.step hb)
      have HX2 := Lib.hid (HX1.out.step hb)
      have HB2 := Lib.hid (bel_trans HB1.out hb)
      clear hb
      go_wp2_with fail
      ((with_reducible refine (refXorL_any a cap L k _ HN.out HP2.out hk1 HA1.out).mono ?_))
      intro e w3 hr
      obtain ⟨y, rfl, hyl, hyn, hyk, hb⟩ := part_ret hr
      have HR3 := Lib.hid (HR2.out.step hb)
      have HX3 := Lib.hid (HX2.out.step hb)
      have HB3 := Lib.hid (bel_trans HB2.out hb)
      have HSM := Lib.hid (sameB_any x.a x.n x.c y.a y.n y.c x.l y.l w3 HX3.out.1 hyk.1)
      rw [HXL.out, hyl] at HSM
      clear hr hyl hyn hyk hb
      go_wp2_with fail
      ((with_reducible refine HSM.out.mono ?_))
      rintro e w4 ⟨rfl, rfl⟩
      simp only [decide_true]
      clear HSM
      go_wp2_with fail
      ((with_reducible refine (xorL_any sa sc L.reverse k _ HLR.out.symm HR3.out hk1 HA2.out).mono ?_))
      intro e w5 hr
      obtain ⟨z, rfl, hzl, hzn, hzk, hb⟩ := part_ret hr
      have HX5 := Lib.hid (HX3.out.step hb)
      have HB5 := Lib.hid (bel_trans HB3.out hb)
      have HSM := Lib.hid (sameB_any z.a z.n z.c x.a x.n x.c z.l x.l w5 hzk.1 HX5.out.1)
      rw [HXL.out, hzl, List.map_reverse, xorL_reverse] at HSM
      clear hr hzl hzn hzk hb
      go_wp2_with fail
      ((with_reducible refine HSM.out.mono ?_))
      rintro e w6 ⟨rfl, rfl⟩
      simp only [decide_true]
      clear HSM
      have HC2 := Lib.hid (partsL_of (cells_two w6 x x) fun q hq => by
        simp only [List.mem_cons, List.not_mem_nil, or_false, or_self] at hq
        subst hq
        exact HX5.out.step (bel_alloc (Below.refl _ _) _))
      go_wp2_with fail
      ((with_reducible refine (xorL_any _ 2 [x, x] 2 _ rfl HC2.out (by omega) (fun q hq => by
        simp only [List.mem_cons, List.not_mem_nil, or_false, or_self] at hq
        subst hq
        exact Nat.le_trans HXN.out (by omega))).mono ?_))
      intro e w7 hr
      obtain ⟨t, rfl, htl, htn, htk, hb⟩ := part_ret hr
      have HB7 := Lib.hid (bel_trans (bel_alloc HB5.out _) hb)
      have htn2 : t.n ≤ 1000000 := by
        rw [htn, xorL_len]
        simp only [List.map_cons, List.map_nil, lgL]
        have := HX5.out.1.1
        have := HXN.out
        omega
      have HIZ := Lib.hid (refIsZero_any (c := t.c) htk.1 htn2)
      rw [htl] at HIZ
      simp only [List.map_cons, List.map_nil] at HIZ
      rw [xorL_self, zeros_rep] at HIZ
      clear hr htl htn htk hb htn2
      go_wp2_with fail
      ((with_reducible refine HIZ.out.mono ?_))
      rintro e w8 ⟨rfl, hb⟩
      have HB8 := Lib.hid (bel_trans HB7.out hb)
      clear hb HIZ
      go_wp2_with fail
      ((with_reducible refine (xorL_any none 0 [] 0 _ rfl (partsL_nil _) (by omega) (nil_le 100000)).mono ?_))
      intro e w9 hr
      obtain ⟨u, rfl, hul, hun, huk, hb⟩ := part_ret hr
      have hu0 : u.n = 0 := hun
      have HB9 := Lib.hid (bel_trans HB8.out hb)
      clear hr hul hun huk hb
      obtain ⟨ua, un, uc, ul⟩ := u
      simp only at hu0
      subst hu0
      go_wp2
      go_ret
      exact ⟨rfl, HB9.out⟩

theorem parityXors_walk (a : Option Addr) (n cap : Nat) (A : Nat → Option Addr) (L C : Nat → Nat) (B : Nat → List Nat) (w : World) (hin : InParts w a n cap A L C B) :
    Calls Try.prog 10 #[.slice a n cap] w fun e w' => e = .returned (.bool true) ∧ Below w.heap.size w w' :=
  parityXors_in a n cap (plist n A L C B) w (plist_len n A L C B).symm (parts_of_in hin) hin.1 hin.2.1

end Go.Proofs.Ytmggjknljbpbgaa
