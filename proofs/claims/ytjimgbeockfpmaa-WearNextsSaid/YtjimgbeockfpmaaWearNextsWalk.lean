/- WearNexts: walked. -/
import Derived.Test.YtjimgbeockfpmaaWearR
namespace Go.Proofs.Ytjimgbeockfpmaa
open Go.RowKit

theorem dead_more (G : List SegV) (i : Nat) (hd : (G.getD i SegV.nil).k = 2 ∧ (G.getD i SegV.nil).l = 0) : ∀ n, i < n → (deadL G i).length < (deadL G n).length ∧ (deadL G n).getD (deadL G i).length 0 = (i : Int)
  | 0, h => by omega
  | n + 1, h => by
    rcases Nat.lt_or_ge i n with q | q
    · obtain ⟨h1, h2⟩ := dead_more G i hd n q
      have e : deadL G (n + 1) = if (G.getD n SegV.nil).k = 2 ∧ (G.getD n SegV.nil).l = 0 then deadL G n ++ [(n : Int)] else deadL G n := rfl
      rw [e]
      split
      · refine ⟨by rw [List.length_append]; omega, ?_⟩
        rw [List.getD, List.getElem?_append_left h1]
        exact h2
      · exact ⟨h1, h2⟩
    · obtain rfl : i = n := by omega
      have e : deadL G (i + 1) = deadL G i ++ [(i : Int)] := by
        show (if _ then _ else _) = _
        rw [if_pos hd]
      rw [e]
      exact ⟨by simp, by simp [List.getD]⟩
set_option maxRecDepth 100000 in
set_option maxHeartbeats 4000000 in
theorem wearNexts_small (a : Option Addr) (len cap : Nat) (G : List SegV) (K : Int) (w : World) (hr : RowG w a len G) (hlc : len ≤ cap) (hcm : cap ≤ maxLen) (hl : ¬ 100 < len) :
    Calls Try.prog 4 #[.slice a len cap, .int .i64 K] w fun e w' => e = .returned (.bool true) ∧ Below w.heap.size w w' := by
  have t1 : decide ((100 : Int) < (len : Int)) = false := by simp; omega
  have t2 : decide (100 < len) = false := by simpa using hl
  have HR := Lib.hid hr
  have hlen := hr.1
  go_enter Try.func4, Try.ntmps4
  go_wp2_with fail
  refine (dead_any a len cap G w hr hlc hcm (by omega)).mono ?_
  rintro e w1 ⟨v, rfl, ho, hb1⟩
  obtain ⟨da, dc, rfl, _, _, hd⟩ := ownZ_row ho
  have HB1 := Lib.hid hb1
  have HD := Lib.hid hd
  obtain ⟨dl, hdl⟩ : ∃ n, n = (deadL G len).length := ⟨_, rfl⟩
  rw [← hdl] at HD ⊢
  have HDL := Lib.hid hdl
  clear hr ho hb1 hd hdl
  go_wp2_with fail
  go_loopw [8, 5, 7] (fun iv nv kv wr => ∃ (i : Nat), i ≤ len ∧ iv = .int .i64 (i : Int) ∧ nv = .int .i64 (cntK K G i : Int) ∧ kv = .int .i64 ((deadL G i).length : Int) ∧ wr = w1) (fun iv _ _ _ => len - (intOf iv).toNat)
  case atStart => exact ⟨0, Nat.zero_le _, rfl, rfl, rfl, rfl⟩
  case round =>
    obtain ⟨i, hi, rfl, rfl, rfl, rfl⟩ := hrel
    by_cases hlt : i < len
    · have t3 : decide (i < len) = true := by simpa using hlt
      obtain ⟨b, off, rfl, hbs, hc⟩ := rowG_at (HR.out.step HB1.out) hlt
      obtain ⟨c0, c1, c2⟩ := hc i hlt
      obtain ⟨g, hg⟩ : ∃ g, g = G.getD i SegV.nil := ⟨_, rfl⟩
      rw [← hg] at c0 c1 c2
      have HG := Lib.hid hg
      clear hc hg
      have i0 : (0 : Int) ≤ (i : Int) := by omega
      have i1 : (i : Int) < (len : Int) := by omega
      have hcl := cntK_le K G i
      have hdll := deadL_len G i
      obtain ⟨n, hn⟩ : ∃ n, n = cntK K G i := ⟨_, rfl⟩
      obtain ⟨k, hk⟩ : ∃ n, n = (deadL G i).length := ⟨_, rfl⟩
      rw [← hn] at hcl
      rw [← hk] at hdll
      rw [← hn, ← hk]
      have HN := Lib.hid hn
      have HK := Lib.hid hk
      clear hn hk
      by_cases hK : g.k = K
      · have t4 : (g.k == K) = true := by simpa using hK
        have hnn : Hid ((n : Int) + 1 = (cntK K G (i + 1) : Int)) := Lib.hid (by
          show _ = ((cntK K G i + if (G.getD i SegV.nil).k = K then 1 else 0 : Nat) : Int)
          rw [← HG.out, if_pos hK, HN.out]; omega)
        clear hK
        by_cases hT : g.k = 2
        · have t5 : (g.k == 2) = true := by simpa using hT
          by_cases hZ : g.l = 0
          · have t6 : (g.l == 0) = true := by simpa using hZ
            obtain ⟨m1, m2⟩ := dead_more G i (by rw [← HG.out]; exact ⟨hT, hZ⟩) len hlt
            rw [← HDL.out, ← HK.out] at m1
            rw [← HK.out] at m2
            obtain ⟨dg, rfl, hdc⟩ := HD.out (by omega)
            have d0 := hdc k m1
            rw [m2] at d0
            have hkk : Hid ((k : Int) + 1 = ((deadL G (i + 1)).length : Int)) := Lib.hid (by
              have e : deadL G (i + 1) = deadL G i ++ [(i : Int)] := by
                show (if _ then _ else _) = _
                rw [← HG.out, if_pos ⟨hT, hZ⟩]
              rw [e, List.length_append, HK.out]; simp)
            have k0 : (0 : Int) ≤ (k : Int) := by omega
            have k1 : (k : Int) < (dl : Int) := by omega
            have k2 : decide ((dl : Int) ≤ (k : Int)) = false := by simp; omega
            have k3 : decide (dl ≤ k) = false := by simp; omega
            clear hT hZ m1 m2 hdc
            go_wp2_with fail
            go_roundw
            case rel => exact ⟨i + 1, by omega, by go_num, by rw [← hnn.out], by rw [← hkk.out], trivial⟩
            case measure => simp [intOf]; omega
          · have t6 : (g.l == 0) = false := by simpa using hZ
            have hkk : Hid ((k : Int) = ((deadL G (i + 1)).length : Int)) := Lib.hid (by
              have e : deadL G (i + 1) = deadL G i := by
                show (if _ then _ else _) = _
                rw [← HG.out, if_neg (fun q => hZ q.2)]
              rw [e, HK.out])
            clear hT hZ
            go_wp2_with fail
            go_roundw
            case rel => exact ⟨i + 1, by omega, by go_num, by rw [← hnn.out], by rw [← hkk.out], trivial⟩
            case measure => simp [intOf]; omega
        · have t5 : (g.k == 2) = false := by simpa using hT
          have hkk : Hid ((k : Int) = ((deadL G (i + 1)).length : Int)) := Lib.hid (by
            have e : deadL G (i + 1) = deadL G i := by
              show (if _ then _ else _) = _
              rw [← HG.out, if_neg (fun q => hT q.1)]
            rw [e, HK.out])
          clear hT
          go_wp2_with fail
          go_roundw
          case rel => exact ⟨i + 1, by omega, by go_num, by rw [← hnn.out], by rw [← hkk.out], trivial⟩
          case measure => simp [intOf]; omega
      · have t4 : (g.k == K) = false := by simpa using hK
        have hnn : Hid ((n : Int) = (cntK K G (i + 1) : Int)) := Lib.hid (by
          show _ = ((cntK K G i + if (G.getD i SegV.nil).k = K then 1 else 0 : Nat) : Int)
          rw [← HG.out, if_neg hK, HN.out]; omega)
        clear hK
        by_cases hT : g.k = 2
        · have t5 : (g.k == 2) = true := by simpa using hT
          by_cases hZ : g.l = 0
          · have t6 : (g.l == 0) = true := by simpa using hZ
            obtain ⟨m1, m2⟩ := dead_more G i (by rw [← HG.out]; exact ⟨hT, hZ⟩) len hlt
            rw [← HDL.out, ← HK.out] at m1
            rw [← HK.out] at m2
            obtain ⟨dg, rfl, hdc⟩ := HD.out (by omega)
            have d0 := hdc k m1
            rw [m2] at d0
            have hkk : Hid ((k : Int) + 1 = ((deadL G (i + 1)).length : Int)) := Lib.hid (by
              have e : deadL G (i + 1) = deadL G i ++ [(i : Int)] := by
                show (if _ then _ else _) = _
                rw [← HG.out, if_pos ⟨hT, hZ⟩]
              rw [e, List.length_append, HK.out]; simp)
            have k0 : (0 : Int) ≤ (k : Int) := by omega
            have k1 : (k : Int) < (dl : Int) := by omega
            have k2 : decide ((dl : Int) ≤ (k : Int)) = false := by simp; omega
            have k3 : decide (dl ≤ k) = false := by simp; omega
            clear hT hZ m1 m2 hdc
            go_wp2_with fail
            go_roundw
            case rel => exact ⟨i + 1, by omega, by go_num, by rw [← hnn.out], by rw [← hkk.out], trivial⟩
            case measure => simp [intOf]; omega
          · have t6 : (g.l == 0) = false := by simpa using hZ
            have hkk : Hid ((k : Int) = ((deadL G (i + 1)).length : Int)) := Lib.hid (by
              have e : deadL G (i + 1) = deadL G i := by
                show (if _ then _ else _) = _
                rw [← HG.out, if_neg (fun q => hZ q.2)]
              rw [e, HK.out])
            clear hT hZ
            go_wp2_with fail
            go_roundw
            case rel => exact ⟨i + 1, by omega, by go_num, by rw [← hnn.out], by rw [← hkk.out], trivial⟩
            case measure => simp [intOf]; omega
        · have t5 : (g.k == 2) = false := by simpa using hT
          have hkk : Hid ((k : Int) = ((deadL G (i + 1)).length : Int)) := Lib.hid (by
            have e : deadL G (i + 1) = deadL G i := by
              show (if _ then _ else _) = _
              rw [← HG.out, if_neg (fun q => hT q.1)]
            rw [e, HK.out])
          clear hT
          go_wp2_with fail
          go_roundw
          case rel => exact ⟨i + 1, by omega, by go_num, by rw [← hnn.out], by rw [← hkk.out], trivial⟩
          case measure => simp [intOf]; omega
    · obtain rfl : i = len := by omega
      have t3 : decide (i < i) = false := by simp
      rw [← HDL.out]
      obtain ⟨n, hn⟩ : ∃ n, n = cntK K G i := ⟨_, rfl⟩
      rw [← hn]
      have HN := Lib.hid hn
      have hr1 := Lib.hid (HR.out.step HB1.out)
      clear hn
      rename World => wr
      go_wp2_with fail
      refine (chosen_any _).mono ?_
      rintro e w2 ⟨rfl, hb2⟩
      go_wp2_with fail
      refine (next_any _ i cap G w2 (hr1.out.step hb2) hlc hcm).mono ?_
      rintro e w3 ⟨r, rfl, hv, hb3⟩
      have hb23 := wbel_trans hb2 hb3
      go_wp2_with fail
      refine (of_any _ i cap G w3 (hr1.out.step hb23) (by omega)).mono ?_
      rintro e w4 ⟨v, rfl, ho, hb4⟩
      have hb24 := wbel_trans hb23 hb4
      obtain ⟨a4, c4, hsv, _, _, hrow⟩ := ownH_row hr1.out.2.1 ho
      rw [hlen] at hsv hrow
      subst hsv
      go_wp2_with fail
      refine (refNext_any a4 i c4 G w4 hrow (by omega)).mono ?_
      rintro e w5 ⟨r', rfl, hv', hb5⟩
      have hb25 := wbel_trans hb24 hb5
      obtain rfl : r = r' := first_same hv hv'
      have tr : (r == r) = true := by simp
      have tn : ((n : Int) == (n : Int)) = true := by simp
      have td : ((dl : Int) == (dl : Int)) = true := by simp
      have HBE := Lib.hid (wbel_trans HB1.out hb25)
      clear hv hv' ho hrow hb2 hb3 hb4 hb5 hb23 hb24
      go_wp2_with fail
      refine (count_any _ i cap G K w5 (hr1.out.step hb25) hlc hcm).mono ?_
      rintro e w6 ⟨rfl, hb6⟩
      rw [← HN.out]
      go_wp2_with fail
      go_ret
      exact ⟨rfl, wbel_trans HBE.out hb6⟩
theorem wearNexts_all (a : Option Addr) (len cap : Nat) (G : List SegV) (K : Int) (w : World) (hr : RowG w a len G ∧ len ≤ cap ∧ cap ≤ maxLen) (_ : (Lit.int .i64 K).wf = true) :
    Calls Try.prog 4 #[.slice a len cap, .int .i64 K] w fun e w' => e = .returned (.bool true) ∧ Below w.heap.size w w' := by
  obtain ⟨hr, hlc, hcm⟩ := hr
  by_cases hl : 100 < len
  · have t1 : decide ((100 : Int) < (len : Int)) = true := by simp; omega
    have t2 : decide (100 < len) = true := by simpa using hl
    go_enter Try.func4, Try.ntmps4
    go_wp2_with fail
    refine (chosen_any w).mono ?_
    rintro e w1 ⟨rfl, hb1⟩
    go_wp2_with fail
    go_ret
    exact ⟨rfl, hb1⟩
  · exact wearNexts_small a len cap G K w hr hlc hcm hl
end Go.Proofs.Ytjimgbeockfpmaa
