/- DirentOrders: the walk. -/
import Derived.Test.YtdpkinppkhnjkaaDnRef
namespace Go.Proofs.Ytdpkinppkhnjkaa
open Go.RowKit

/-- How often a name stands in a list. -/
def cntN (s : ByteArray) (l : List ByteArray) : Nat := l.countP fun x => x.toList == s.toList
theorem cntN_nm (s : ByteArray) (L : EntL) {k nd : Nat} {nm : ByteArray} (h : k < L.length) (hL : L.getD k ent0 = (nd, nm)) : cntN s (nmL (L.take (k + 1))) = cntN s (nmL (L.take k)) + (if (nd != 0 && nm.toList == s.toList) = true then 1 else 0) := by
  rw [nmL_step L h, hL]
  unfold cntN
  rw [List.countP_append]
  by_cases c : nd = 0
  · simp [c]
  · by_cases c2 : nm.toList = s.toList
    · simp [c, c2]
    · simp [c, c2]
theorem cntN_row (s : ByteArray) (S : List ByteArray) {k : Nat} (h : k < S.length) : cntN s (S.take (k + 1)) = cntN s (S.take k) + (if ((S.getD k ByteArray.empty).toList == s.toList) = true then 1 else 0) := by
  have e : S.getD k ByteArray.empty = S[k] := by simp [List.getD, h]
  rw [List.take_add_one, List.getElem?_eq_getElem h, e]
  unfold cntN
  rw [List.countP_append]
  simp
theorem cntN_le (s : ByteArray) (l : List ByteArray) : cntN s l ≤ l.length := List.countP_le_length
set_option maxRecDepth 100000 in
set_option maxHeartbeats 4000000 in
theorem direntOrders_any (a : Option Addr) (n cap : Nat) (L : EntL) (w : World) (hr : RowD w a n L) (hz : ∀ x ∈ L, x.2.size ≤ 70368744177664) :
    Calls Try.prog 4 #[.slice a n cap] w fun e w' => e = .returned (.bool true) ∧ Below w.heap.size w w' := by
  have HR := Lib.hid hr
  have HL : Hid (L.length = n) := Lib.hid hr.1
  have HORD := Lib.hid ordered_any
  by_cases c0 : 50 < n
  · have t0 : decide ((50 : Int) < (n : Int)) = true := by simp; omega
    have t0' : decide (50 < n) = true := by simpa using c0
    clear hr hz c0
    go_enter Try.func4, Try.ntmps4
    go_wp2_with fail
    ((with_reducible refine (HORD.out _).mono ?_))
    rintro e w1 ⟨rfl, hb⟩
    have HB := Lib.hid hb
    clear hb
    go_wp2_with fail
    ((with_reducible refine (HORD.out _).mono ?_))
    rintro e w2 ⟨rfl, hb⟩
    have HB2 := Lib.hid (bel_trans HB.out hb)
    clear hb
    go_wp2_with fail
    go_ret
    exact ⟨rfl, HB2.out⟩
  have t0 : decide ((50 : Int) < (n : Int)) = false := by simp; omega
  have t0' : decide (50 < n) = false := by simpa using c0
  have HN : Hid (n ≤ 50) := Lib.hid (by omega)
  have HZ := Lib.hid hz
  clear hr hz c0
  go_enter Try.func4, Try.ntmps4
  go_wp2_with fail
  ((with_reducible refine (HORD.out _).mono ?_))
  rintro e w1 ⟨rfl, hb⟩
  have HB1 := Lib.hid hb
  have HC1 := Lib.hid (names_any a n cap L w1 (HR.out.below hb) (by have := HN.out; omega) HZ.out)
  clear hb
  go_wp2_with fail
  ((with_reducible refine HC1.out.mono ?_))
  rintro e w2 ⟨sa, sc, S, rfl, hrs, hp, ho, hb⟩
  have HB2 := Lib.hid (bel_trans HB1.out hb)
  have HP := Lib.hid hp
  have HO := Lib.hid ho
  have HS := Lib.hid hrs
  obtain ⟨M, hM⟩ : ∃ x, S.length = x := ⟨_, rfl⟩
  have HM : Hid (S.length = M ∧ M ≤ 50) := Lib.hid ⟨hM, by
    have h1 := hp.length_eq
    have h2 := nmL_le L
    have h3 := HL.out
    have h4 := HN.out
    omega⟩
  rw [hM] at HS ⊢
  clear hb hp ho hrs hM t0 t0' HC1
  go_wp2_with fail
  go_loopw [4, 5, 6, 7, 8, 9] (fun cv iv _ _ _ _ wr => ∃ (k c : Nat), iv = .int .i64 (k : Int) ∧ cv = .int .i64 (c : Int) ∧ k ≤ n ∧ c = (nmL (L.take k)).length ∧ (∀ j, j < k → (L.getD j ent0).2.size ≤ 100) ∧ Below w2.heap.size w2 wr) (fun _ iv _ _ _ _ _ => n - (intOf iv).toNat)
  case atStart => exact ⟨0, 0, rfl, rfl, Nat.zero_le _, rfl, fun j h => absurd h (Nat.not_lt_zero _), Below.refl _ _⟩
  case round =>
    obtain ⟨k, c, rfl, rfl, hk, hc, hsz, hb⟩ := hrel
    obtain ⟨V, rfl⟩ : ∃ x, x = wr := ⟨wr, rfl⟩
    have HB := Lib.hid hb
    have HCC := Lib.hid hc
    have HSZ := Lib.hid hsz
    clear hb hc hsz
    by_cases hlt : k < n
    · have t1 : decide ((k : Int) < (n : Int)) = true := by simp; omega
      have t1' : decide (k < n) = true := by simpa using hlt
      have HRV := Lib.hid (HR.out.below (bel_trans HB2.out HB.out))
      obtain ⟨b, off, nd, nm, rfl, hL, hnd, c1, c2⟩ := HRV.out.at hlt
      have j0 : (0 : Int) ≤ (k : Int) := by omega
      have j1 : (k : Int) < (n : Int) := by omega
      obtain ⟨k1, hk1⟩ : ∃ x, k + 1 = x := ⟨_, rfl⟩
      have e1 : (k : Int) + 1 = (k1 : Int) := by omega
      have u1 : IntKind.i64.wrap (k1 : Int) = (k1 : Int) := by have := HN.out; rw [IntKind.wrap_i64]; omega
      have HT := Lib.hid (nmL_step L (k := k) (by rw [HL.out]; exact hlt))
      rw [hL, hk1] at HT
      simp only at HT
      have HLK := Lib.hid hL
      have HK : Hid (k < n ∧ k1 = k + 1) := Lib.hid ⟨hlt, by omega⟩
      have HC2 := Lib.hid c2
      have HE1 := Lib.hid (And.intro e1 u1)
      clear hL hlt hk hk1
      by_cases hs : 100 < nm.size
      · have t2 : decide ((100 : Int) < (nm.size : Int)) = true := by simp; omega
        have t2' : decide (100 < nm.size) = true := by simpa using hs
        clear hs
        go_wp2_with fail
        go_ret
        exact ⟨rfl, bel_trans HB2.out HB.out⟩
      have t2 : decide ((100 : Int) < (nm.size : Int)) = false := by simp; omega
      have t2' : decide (100 < nm.size) = false := by simpa using hs
      have HSZ2 : Hid (∀ j, j < k1 → (L.getD j ent0).2.size ≤ 100) := Lib.hid fun j hj => by
        by_cases e : j = k
        · rw [e, HLK.out]; exact Nat.le_of_not_lt hs
        · exact HSZ.out j (by have := HK.out; omega)
      clear hs
      by_cases hz : nd = 0
      · subst hz
        rw [if_pos rfl, List.append_nil] at HT
        go_wp2_with fail
        clear e1 u1
        go_roundw
        case rel => exact ⟨k1, c, rfl, rfl, by have := HK.out; omega, by rw [HT.out]; exact HCC.out, HSZ2.out, HB.out⟩
        case measure => have := HK.out; simp [intOf]; omega
      · have t3 : ((nd : Int) == 0) = false := by rw [beq_eq_false_iff_ne]; omega
        rw [if_neg hz] at HT
        obtain ⟨c', hc'⟩ : ∃ x, c + 1 = x := ⟨_, rfl⟩
        have e2 : (c : Int) + 1 = (c' : Int) := by omega
        have hcl : c ≤ 50 := by
          have h1 := HCC.out
          have h2 := nmL_le (L.take k)
          rw [List.length_take] at h2
          have := HK.out; have := HN.out
          omega
        have u2 : IntKind.i64.wrap (c' : Int) = (c' : Int) := by rw [IntKind.wrap_i64]; omega
        have HCN : Hid (c' = (nmL (L.take k1)).length) := Lib.hid (by rw [HT.out, List.length_append, ← HCC.out, List.length_singleton]; exact hc'.symm)
        clear hz hc' hcl
        go_wp2_with fail
        clear e1 u1 e2 u2 t1 t1' t2 t2' t3
        go_loopw [6, 8] (fun av jv wr => ∃ (j x : Nat), jv = .int .i64 (j : Int) ∧ av = .int .i64 (x : Int) ∧ j ≤ n ∧ x = cntN nm (nmL (L.take j)) ∧ Below V.heap.size V wr) (fun _ jv _ => n - (intOf jv).toNat)
        case atStart => exact ⟨0, 0, rfl, rfl, Nat.zero_le _, rfl, Below.refl _ _⟩
        case round =>
          obtain ⟨j, x, rfl, rfl, hj, hx, hb⟩ := hrel
          have HBJ := Lib.hid hb
          have HX := Lib.hid hx
          clear hb hx
          by_cases hlt : j < n
          · have t1 : decide ((j : Int) < (n : Int)) = true := by simp; omega
            have t1' : decide (j < n) = true := by simpa using hlt
            have c4 := pt_stepS HC2.out HBJ.out
            obtain ⟨b', off', nd', s, he, hL, hnd', d1, d2⟩ := (HRV.out.below HBJ.out).at hlt
            cases he
            have i0 : (0 : Int) ≤ (j : Int) := by omega
            have i1 : (j : Int) < (n : Int) := by omega
            obtain ⟨l, hl⟩ : ∃ x, j + 1 = x := ⟨_, rfl⟩
            have e3 : (j : Int) + 1 = (l : Int) := by omega
            have u3 : IntKind.i64.wrap (l : Int) = (l : Int) := by have := HN.out; rw [IntKind.wrap_i64]; omega
            have HSTEP := Lib.hid (cntN_nm nm L (k := j) (by rw [HL.out]; exact hlt) hL)
            rw [hl] at HSTEP
            obtain ⟨bb, hbb⟩ : ∃ t, (nd' != 0 && s.toList == nm.toList) = t := ⟨_, rfl⟩
            rw [hbb] at HSTEP
            have HBB := Lib.hid hbb
            have HJ : Hid (j < n ∧ l = j + 1) := Lib.hid ⟨hlt, by omega⟩
            clear hbb hL hlt hj hl
            go_upto_region 16 with fail
            go_cut [66] (fun t wx => t = .bool bb ∧ Below wr.heap.size wr wx)
            case first =>
              by_cases hz : nd' = 0
              · subst hz
                obtain rfl : bb = false := by rw [← HBB.out]; rfl
                clear e3 u3
                go_quiet (fail)
                all_goals
                  go_wp2_with fail
                  go_meet
                  exact ⟨rfl, (Below.refl _ _).trans ⟨rfl, rfl, rfl, Nat.le_refl _, fun _ _ => rfl⟩⟩
              · have t5 : ((nd' : Int) != 0) = true := by simp; omega
                have t6 : (s.toList == nm.toList) = bb := by rw [← HBB.out]; simp [hz]
                clear hz e3 u3
                go_quiet (fail)
                all_goals
                  go_wp2_with fail
                  go_meet
                  exact ⟨rfl, (Below.refl _ _).trans ⟨rfl, rfl, rfl, Nat.le_refl _, fun _ _ => rfl⟩⟩
            case rest =>
            obtain ⟨rfl, hb⟩ := hcut
            obtain ⟨W, rfl⟩ : ∃ x, x = wc := ⟨wc, rfl⟩
            have HBW := Lib.hid (bel_trans HBJ.out hb)
            clear hb c4 d1 d2
            cases bb with
            | true =>
              obtain ⟨x1, hx1⟩ : ∃ y, x + 1 = y := ⟨_, rfl⟩
              have e4 : (x : Int) + 1 = (x1 : Int) := by omega
              have hxl : x ≤ 50 := by
                have h1 := HX.out
                have h2 := cntN_le nm (nmL (L.take j))
                have h3 := nmL_le (L.take j)
                rw [List.length_take] at h3
                have := HJ.out; have := HN.out
                omega
              have u4 : IntKind.i64.wrap (x1 : Int) = (x1 : Int) := by rw [IntKind.wrap_i64]; omega
              have HX1 : Hid (x1 = cntN nm (nmL (L.take l))) := Lib.hid (by rw [HSTEP.out, ← HX.out, if_pos rfl]; exact hx1.symm)
              clear hx1 hxl
              go_wp2_with fail
              clear e3 u3 e4 u4
              go_roundw
              case rel => exact ⟨l, x1, rfl, rfl, by have := HJ.out; omega, HX1.out, HBW.out⟩
              case measure => have := HJ.out; simp [intOf]; omega
            | false =>
              have HX1 : Hid (x = cntN nm (nmL (L.take l))) := Lib.hid (by rw [HSTEP.out, ← HX.out]; simp)
              go_wp2_with fail
              clear e3 u3
              go_roundw
              case rel => exact ⟨l, x, rfl, rfl, by have := HJ.out; omega, HX1.out, HBW.out⟩
              case measure => have := HJ.out; simp [intOf]; omega
          · obtain rfl : j = n := by omega
            have t1 : decide ((j : Int) < (j : Int)) = false := by simp
            have t1' : decide (j < j) = false := by simp
            have HXA : Hid (x = cntN nm S) := Lib.hid (by
              rw [HX.out, ← HL.out, nmL_all]
              exact (HP.out.countP_eq _).symm)
            have HSW := Lib.hid (rowS_below HS.out (bel_trans HB.out HBJ.out))
            obtain ⟨V2, rfl⟩ : ∃ x, x = wr := ⟨wr, rfl⟩
            clear hlt hj
            go_wp2_with fail
            clear t1 t1'
            go_loopw [7, 9] (fun bv jv wr => ∃ (i y : Nat), jv = .int .i64 (i : Int) ∧ bv = .int .i64 (y : Int) ∧ i ≤ M ∧ y = cntN nm (S.take i) ∧ Below V2.heap.size V2 wr) (fun _ jv _ => M - (intOf jv).toNat)
            case atStart => exact ⟨0, 0, rfl, rfl, Nat.zero_le _, rfl, Below.refl _ _⟩
            case round =>
              obtain ⟨i, y, rfl, rfl, hi, hy, hb⟩ := hrel
              have HBI := Lib.hid hb
              have HY := Lib.hid hy
              clear hb hy
              by_cases hlt : i < M
              · have t1 : decide ((i : Int) < (M : Int)) = true := by simp; omega
                have t1' : decide (i < M) = true := by simpa using hlt
                have c4 := pt_stepS HC2.out (bel_trans HBJ.out HBI.out)
                obtain ⟨-, -, -, -, h1⟩ := HSW.out
                obtain ⟨g1, o1, he, hc1⟩ := h1 (by omega)
                have d1 := pt_stepS (hc1 i hlt) HBI.out
                have i0 : (0 : Int) ≤ (i : Int) := by omega
                have i1 : (i : Int) < (M : Int) := by omega
                obtain ⟨l, hl⟩ : ∃ x, i + 1 = x := ⟨_, rfl⟩
                have e3 : (i : Int) + 1 = (l : Int) := by omega
                have u3 : IntKind.i64.wrap (l : Int) = (l : Int) := by have := HM.out; rw [IntKind.wrap_i64]; omega
                have HSTEP := Lib.hid (cntN_row nm S (k := i) (by rw [HM.out.1]; exact hlt))
                obtain ⟨s, hs⟩ : ∃ x, S.getD i ByteArray.empty = x := ⟨_, rfl⟩
                rw [hs] at d1 HSTEP
                obtain ⟨bb, hbb⟩ : ∃ t, (s.toList == nm.toList) = t := ⟨_, rfl⟩
                rw [hbb, hl] at HSTEP
                have HI : Hid (i < M ∧ l = i + 1) := Lib.hid ⟨hlt, by omega⟩
                have HE3 := Lib.hid (And.intro e3 u3)
                subst he
                clear h1 hc1 hs hlt hi hl e3 u3
                go_upto_region 21 with fail
                go_cut [84] (fun t wx => t = .bool bb ∧ Below wr.heap.size wr wx)
                case first =>
                  go_quiet (fail)
                  all_goals
                    go_wp2_with fail
                    go_meet
                    exact ⟨rfl, (Below.refl _ _).trans ⟨rfl, rfl, rfl, Nat.le_refl _, fun _ _ => rfl⟩⟩
                case rest =>
                obtain ⟨rfl, hb⟩ := hcut
                obtain ⟨W, rfl⟩ : ∃ x, x = wc := ⟨wc, rfl⟩
                have HBW := Lib.hid (bel_trans HBI.out hb)
                obtain ⟨e3, u3⟩ := HE3.out
                clear hb c4 d1 hbb
                cases bb with
                | true =>
                  obtain ⟨y1, hy1⟩ : ∃ z, y + 1 = z := ⟨_, rfl⟩
                  have e4 : (y : Int) + 1 = (y1 : Int) := by omega
                  have hyl : y ≤ 50 := by
                    have h1 := HY.out
                    have h2 := cntN_le nm (S.take i)
                    rw [List.length_take] at h2
                    have := HI.out; have := HM.out
                    omega
                  have u4 : IntKind.i64.wrap (y1 : Int) = (y1 : Int) := by rw [IntKind.wrap_i64]; omega
                  have HY1 : Hid (y1 = cntN nm (S.take l)) := Lib.hid (by rw [HSTEP.out, ← HY.out, if_pos rfl]; exact hy1.symm)
                  clear hy1 hyl
                  go_wp2_with fail
                  clear e3 u3 e4 u4
                  go_roundw
                  case rel => exact ⟨l, y1, rfl, rfl, by have := HI.out; omega, HY1.out, HBW.out⟩
                  case measure => have := HI.out; simp [intOf]; omega
                | false =>
                  have HY1 : Hid (y = cntN nm (S.take l)) := Lib.hid (by rw [HSTEP.out, ← HY.out]; simp)
                  go_wp2_with fail
                  clear e3 u3
                  go_roundw
                  case rel => exact ⟨l, y, rfl, rfl, by have := HI.out; omega, HY1.out, HBW.out⟩
                  case measure => have := HI.out; simp [intOf]; omega
              · obtain rfl : i = M := by omega
                have t1 : decide ((i : Int) < (i : Int)) = false := by simp
                have t1' : decide (i < i) = false := by simp
                obtain rfl : y = x := by rw [HY.out, HXA.out, ← HM.out.1, List.take_length]
                have t7 : ((y : Int) != (y : Int)) = false := by simp
                have HBF := Lib.hid (bel_trans HB.out (bel_trans HBJ.out HBI.out))
                obtain ⟨e1, u1⟩ := HE1.out
                clear hlt hi c1 c2
                go_wp2_with fail
                clear e1 u1
                go_roundw
                case rel => exact ⟨k1, c', rfl, rfl, by have := HK.out; omega, HCN.out, HSZ2.out, HBF.out⟩
                case measure => have := HK.out; simp [intOf]; omega
    · obtain rfl : k = n := by omega
      have t1 : decide ((k : Int) < (k : Int)) = false := by simp
      have t1' : decide (k < k) = false := by simp
      have HCF : Hid (c = M) := Lib.hid (by
        rw [HCC.out, ← HL.out, nmL_all, ← HP.out.length_eq]
        exact HM.out.1)
      have HSM : Hid (∀ s ∈ S, s.size ≤ 100) := Lib.hid fun s hs => by
        obtain ⟨x, hx, rfl⟩ := nmL_mem (HP.out.mem_iff.1 hs)
        obtain ⟨j, hj, rfl⟩ := List.getElem_of_mem hx
        have := HSZ.out j (by rw [← HL.out]; exact hj)
        simpa [List.getD, hj] using this
      have HSV := Lib.hid (rowS_below HS.out HB.out)
      clear hlt hk
      go_wp2_with fail
      clear t1 t1'
      go_loopw [10] (fun jv wr => ∃ i : Nat, jv = .int .i64 (i : Int) ∧ 1 ≤ i ∧ i ≤ M + 1 ∧ Below V.heap.size V wr) (fun jv _ => M + 1 - (intOf jv).toNat)
      case atStart => exact ⟨1, rfl, Nat.le_refl _, by omega, Below.refl _ _⟩
      case round =>
        obtain ⟨i, rfl, hi1, hi2, hb⟩ := hrel
        have HBI := Lib.hid hb
        clear hb
        by_cases hlt : i < M
        · have t1 : decide ((i : Int) < (M : Int)) = true := by simp; omega
          have t1' : decide (i < M) = true := by simpa using hlt
          obtain ⟨p, hp⟩ : ∃ p, i - 1 = p := ⟨_, rfl⟩
          have e5 : (i : Int) - 1 = (p : Int) := by omega
          have u5 : IntKind.i64.wrap (p : Int) = (p : Int) := by have := HM.out; rw [IntKind.wrap_i64]; omega
          obtain ⟨-, -, -, -, h1⟩ := HSV.out
          obtain ⟨g1, o1, rfl, hc1⟩ := h1 (by omega)
          have d1 := pt_stepS (hc1 i hlt) HBI.out
          have d2 := pt_stepS (hc1 p (by omega)) HBI.out
          have i0 : (0 : Int) ≤ (i : Int) := by omega
          have i1 : (i : Int) < (M : Int) := by omega
          have p0 : (0 : Int) ≤ (p : Int) := by omega
          have p1 : (p : Int) < (M : Int) := by omega
          obtain ⟨l, hl⟩ : ∃ x, i + 1 = x := ⟨_, rfl⟩
          have e3 : (i : Int) + 1 = (l : Int) := by omega
          have u3 : IntKind.i64.wrap (l : Int) = (l : Int) := by have := HM.out; rw [IntKind.wrap_i64]; omega
          have hSi : i < S.length := by rw [HM.out.1]; exact hlt
          have hSp : p < S.length := by omega
          have ei : S.getD i ByteArray.empty = S[i] := by simp [List.getD, hSi]
          have ep : S.getD p ByteArray.empty = S[p] := by simp [List.getD, hSp]
          have hord : leS (S.getD p ByteArray.empty) (S.getD i ByteArray.empty) := by
            rw [ei, ep]
            exact List.pairwise_iff_getElem.1 HO.out p i hSp hSi (by omega)
          have hx1 : (S.getD i ByteArray.empty).size ≤ 1000 := by rw [ei]; have := HSM.out _ (List.getElem_mem hSi); omega
          have hy1 : (S.getD p ByteArray.empty).size ≤ 1000 := by rw [ep]; have := HSM.out _ (List.getElem_mem hSp); omega
          have HC := Lib.hid fun u : World => refLess_any _ _ u hy1 hx1
          have hcase := leS_cases hord
          obtain ⟨x, hx⟩ : ∃ x, S.getD i ByteArray.empty = x := ⟨_, rfl⟩
          obtain ⟨y, hy⟩ : ∃ x, S.getD p ByteArray.empty = x := ⟨_, rfl⟩
          rw [hx] at d1 HC hcase
          rw [hy] at d2 HC hcase
          have HI : Hid (i < M ∧ l = i + 1 ∧ 1 ≤ i) := Lib.hid ⟨hlt, by omega, hi1⟩
          have HE3 := Lib.hid (And.intro e3 u3)
          clear h1 hc1 hSi hSp ei ep hord hx1 hy1 hx hy hlt hi1 hi2 hp hl e3 u3
          go_upto_region 28 with fail
          go_cut [118] (fun t wx => t = .bool false ∧ Below wr.heap.size wr wx)
          case first =>
            by_cases hxy : x.toList = y.toList
            · have t5 : (x.toList != y.toList) = false := by simp [hxy]
              have t5' : (x.toList == y.toList) = true := by simp [hxy]
              clear hxy hcase
              go_quiet (fail)
              all_goals
                go_wp2_with fail
                go_meet
                exact ⟨rfl, (Below.refl _ _).trans ⟨rfl, rfl, rfl, Nat.le_refl _, fun _ _ => rfl⟩⟩
            · have t5 : (x.toList != y.toList) = true := by simpa using hxy
              have t5' : (x.toList == y.toList) = false := by simpa using hxy
              have hl : lessOf y x = true := hcase.resolve_right fun e => hxy (by rw [e])
              rw [hl] at HC
              obtain ⟨S', hS⟩ : ∃ S : World → Prop, S = fun y => Below wr.heap.size wr y := ⟨_, rfl⟩
              have hs0 : S' wr.drew := by rw [hS]; exact (Below.refl _ _).drew
              have hS2 : ∀ u : World, S' u → Below wr.heap.size wr u := fun u h => by rw [hS] at h; exact h
              have HSB : Hid (∀ y : Wd S', Below wr.heap.size wr y.w) := Lib.hid fun y => hS2 _ y.ok
              clear hS2
              have f1 : ∀ z : Wd S', z.w.cell? ⟨g1, o1 + i, none⟩ = some (.string x) := fun z => pt_stepS d1 (HSB.out z)
              have f2 : ∀ z : Wd S', z.w.cell? ⟨g1, o1 + p, none⟩ = some (.string y) := fun z => pt_stepS d2 (HSB.out z)
              have HCY : Hid (∀ z : Wd S', Calls Try.prog 11 #[.string y, .string x] z.w fun e w'' => e = .returned (.bool true) ∧ ∃ z : Wd S', w'' = z.w) := Lib.hid fun z => Calls.wd (fun u hu => by rw [hS]; exact bel_trans (HSB.out z) hu) (HC.out z.w)
              clear hS d1 d2 hxy hcase hl
              haveI : Nonempty (Wd S') := ⟨⟨_, hs0⟩⟩
              refine wp_region_wd S' (by kernel_rfl) (by kernel_rfl) hs0 ?_
              repeat (go_big_quiet_step (first | (go_at_call 11; with_reducible exact HCY.out _)))
              refine wpQuiet_nil ?_
              intro _ hw'
              obtain ⟨z, rfl⟩ := hw'
              go_wp2_with fail
              go_meet
              exact ⟨rfl, HSB.out z⟩
          case rest =>
          obtain ⟨rfl, hb⟩ := hcut
          obtain ⟨W, rfl⟩ : ∃ x, x = wc := ⟨wc, rfl⟩
          have HBW := Lib.hid (bel_trans HBI.out hb)
          obtain ⟨e3, u3⟩ := HE3.out
          clear hb d1 d2 e5 u5
          go_wp2_with fail
          clear e3 u3
          go_roundw
          case rel => exact ⟨l, rfl, by have := HI.out; omega, by have := HI.out; omega, HBW.out⟩
          case measure => have := HI.out; simp [intOf]; omega
        · have t1 : decide ((i : Int) < (M : Int)) = false := by simp; omega
          have t1' : decide (i < M) = false := by simpa using hlt
          have hcm := HCF.out
          subst hcm
          have t7 : ((c : Int) == (c : Int)) = true := by simp
          clear hlt hi1 hi2
          go_wp2_with fail
          go_ret
          exact ⟨rfl, bel_trans HB2.out (bel_trans HB.out HBI.out)⟩
end Go.Proofs.Ytdpkinppkhnjkaa
