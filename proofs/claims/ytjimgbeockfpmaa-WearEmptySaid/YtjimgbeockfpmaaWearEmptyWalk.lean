/- WearEmpty: walked. -/
import Derived.Test.YtjimgbeockfpmaaWearM
namespace Go.Proofs.Ytjimgbeockfpmaa
open Go.RowKit

/-- What the law makes of a segment. -/
def opS (a b : Bool) (s : SegV) : SegV := if (a = true ∧ s.k = 2) ∨ (b = true ∧ s.k = 0) then ⟨1, s.l, s.e⟩ else s
def opL (a b : Bool) (G : List SegV) (k : Nat) : List SegV := (G.take k).map (opS a b) ++ G.drop k
theorem opL_len (a b : Bool) (G : List SegV) (k : Nat) : (opL a b G k).length = G.length := by
  simp [opL]; omega
theorem opL_zero (a b : Bool) (G : List SegV) : opL a b G 0 = G := by simp [opL]
theorem opL_at (a b : Bool) (G : List SegV) (k : Nat) (h : k < G.length) : (opL a b G k).getD k SegV.nil = G.getD k SegV.nil := by
  simp [opL, List.getD, List.getElem?_append_right, List.length_take, Nat.min_eq_left (Nat.le_of_lt h)]
theorem opL_set (a b : Bool) (G : List SegV) (k : Nat) (h : k < G.length) : (opL a b G k).set k (opS a b (G.getD k SegV.nil)) = opL a b G (k + 1) := by
  unfold opL
  rw [List.set_append, if_neg (by simp; omega)]
  have e1 : k - ((G.take k).map (opS a b)).length = 0 := by simp; omega
  have e2 : G.drop k = G.getD k SegV.nil :: G.drop (k + 1) := by
    rw [List.drop_eq_getElem_cons h]; simp [List.getD, h]
  have e3 : G.take (k + 1) = G.take k ++ [G.getD k SegV.nil] := by
    rw [List.take_succ_eq_append_getElem h]; simp [List.getD, h]
  rw [e1, e2, List.set_cons_zero, e3]
  simp
theorem opL_same (a b : Bool) (G : List SegV) (k : Nat) (h : k < G.length) (hs : opS a b (G.getD k SegV.nil) = G.getD k SegV.nil) : opL a b G k = opL a b G (k + 1) := by
  rw [← opL_set a b G k h, hs, ← opL_at a b G k h]
  have hl : k < (opL a b G k).length := by rw [opL_len]; exact h
  simp [List.getD, hl]
theorem opL_end (a b : Bool) (G : List SegV) (j : Nat) (hj : j < G.length) : (opL a b G G.length).getD j SegV.nil = opS a b (G.getD j SegV.nil) := by
  simp [opL, List.getD, hj]
theorem opS_two (b : Bool) (s : SegV) : (opS true b s).k ≠ 2 := by
  unfold opS
  split
  · show (1 : Int) ≠ 2; decide
  · rename_i h; intro e; exact h (.inl ⟨rfl, e⟩)
theorem opS_zero (a : Bool) (s : SegV) : (opS a true s).k ≠ 0 := by
  unfold opS
  split
  · show (1 : Int) ≠ 0; decide
  · rename_i h; intro e; exact h (.inr ⟨rfl, e⟩)
theorem first_none {O : SegV → SegV → Int} {K : Int} {G : List SegV} {n : Nat} {r : Int} (h : FirstIs O K G n r) (hn : ∀ j, j < n → (G.getD j SegV.nil).k ≠ K) : r = -1 := by
  rcases h with ⟨h, _⟩ | ⟨m, h1, _, h3, _⟩
  · exact h
  · exact absurd h3 (hn m h1)
theorem victim_none {G : List SegV} {r : Int} (h : VictimIs G r) (hn : ∀ j, j < G.length → (G.getD j SegV.nil).k ≠ 2) : r = -1 := by
  unfold VictimIs at h
  split at h
  · exact first_none h hn
  · exact first_none h hn
theorem dead_none {G : List SegV} : ∀ {n : Nat}, (∀ j, j < n → (G.getD j SegV.nil).k ≠ 2) → deadL G n = []
  | 0, _ => rfl
  | n + 1, h => by
    have h1 := dead_none (n := n) (fun j hj => h j (by omega))
    have h2 := h n (by omega)
    unfold deadL
    rw [if_neg (fun q => h2 q.1), h1]
theorem wearEmpty_big (a : Option Addr) (len cap : Nat) (x y : Bool) (w : World) (hl : 100 < len) :
    Calls Try.prog 7 #[.slice a len cap, .bool x, .bool y] w fun e w' => e = .returned (.bool true) ∧ Below w.heap.size w w' := by
  have t1 : decide ((100 : Int) < (len : Int)) = true := by simp; omega
  have t2 : decide (100 < len) = true := by simpa using hl
  go_enter Try.func7, Try.ntmps7
  go_wp2_with fail
  refine (chosen_any w).mono ?_
  rintro e w1 ⟨rfl, hb1⟩
  go_wp2_with fail
  refine (chosen_any w1).mono ?_
  rintro e w2 ⟨rfl, hb2⟩
  go_wp2_with fail
  go_ret
  exact ⟨rfl, wbel_trans hb1 hb2⟩
theorem heap_new_own (w : World) (cs : Array Value) (t : TypeId) : (w.alloc (.cells cs t)).heap[w.heap.size]? = some (.cells cs t (0, 0)) := heap_alloc_new w _
set_option maxHeartbeats 2000000 in
theorem wearEmpty_tt (a : Option Addr) (len cap : Nat) (G : List SegV) (w : World) (hr : RowG w a len G) (hlc : len ≤ cap) (hnn : a = none → cap = 0) (hl : ¬ 100 < len) :
    Calls Try.prog 7 #[.slice a len cap, .bool true, .bool true] w fun e w' => e = .returned (.bool true) ∧ Below w.heap.size w w' := by
  have t1 : decide ((100 : Int) < (len : Int)) = false := by simp; omega
  have t2 : decide (100 < len) = false := by simpa using hl
  have hlen := hr.1
  go_enter Try.func7, Try.ntmps7
  go_wp2_with fail
  refine (chosen_any w).mono ?_
  rintro e w1 ⟨rfl, hb1⟩
  go_wp2_with (at_builtin; refine wpList_appAll rfl _ _ rfl w.heap.size _ rfl ⟨rfl, .inr ⟨w1.heap.size, 0, #[], rfl, hb1.size, heap_new_own w1 #[] _, Nat.le_refl _, Nat.zero_le _, rfl, rfl⟩⟩ a len cap G rfl hnn hlc (hr.step (wbel_trans hb1 (wbel_alloc (Below.refl _ _) _))) (by have := hb1.size; simp; omega) (by omega) ?_)
  intro sv w2 hm2 hb2
  have hbb : Below w.heap.size w w2 := (wbel_alloc hb1 _).trans hb2
  have HM0 := Lib.hid hm2
  have HB0 := Lib.hid hbb
  obtain ⟨a2, c2, rfl, _, _, _, _⟩ := hm2
  rw [hlen] at HM0
  rw [hlen]
  clear hb1 hb2 hbb hr hnn
  go_wp2_with fail
  go_loopw [8] (fun i wr => ∃ (k : Nat), k ≤ len ∧ i = .int .i64 (k : Int) ∧ MutG w.heap.size wr (.slice a2 len c2) (opL true true G k) ∧ Below w.heap.size w wr) (fun i _ => len - (intOf i).toNat)
  case atStart => exact ⟨0, Nat.zero_le _, rfl, by rw [opL_zero]; exact HM0.out, HB0.out⟩
  case round =>
    obtain ⟨k, hk, rfl, hM, hB⟩ := hrel
    have HB := Lib.hid hB
    clear hB HM0 HB0
    by_cases hlt : k < len
    · have t3 : decide (k < len) = true := by simpa using hlt
      obtain ⟨q, c, cs, hsv, hc1, hc2, hrw, hq, hh, hqs, hc⟩ := hM.at (k := k) (by rw [opL_len, hlen]; exact hlt)
      rw [opL_len, hlen] at hsv
      obtain ⟨rfl, rfl⟩ : a2 = some ⟨q, 0, none⟩ ∧ c2 = c := by simpa using hsv
      rw [opL_len, hlen] at hc1
      have HM : Hid (MutG w.heap.size wr (.slice (some ⟨q, 0, none⟩) (opL true true G k).length c2) (opL true true G k)) := Lib.hid (by rw [opL_len, hlen]; exact hM)
      obtain ⟨c0, _, _⟩ := hc k (by rw [opL_len, hlen]; exact hlt)
      rw [opL_at _ _ _ _ (by rw [hlen]; exact hlt)] at c0
      have HQ := Lib.hid hq
      have HH := Lib.hid hh
      clear hsv hrw hq hh hc hM
      obtain ⟨g, hg⟩ : ∃ g, g = G.getD k SegV.nil := ⟨_, rfl⟩
      rw [← hg] at c0
      have HG := Lib.hid hg
      clear hg
      have hk0 : (0 : Int) ≤ (k : Int) := by omega
      have hk1 : (k : Int) < (len : Int) := by omega
      by_cases hK : g.k = 2
      · have t2 : (g.k == 2) = true := by simpa using hK
        have e1 : opS true true g = ⟨1, g.l, g.e⟩ := by unfold opS; rw [if_pos (by simp [hK])]
        have HN : Hid (MutG w.heap.size (wr.setCell ⟨q, k * 3, none⟩ (.int .i64 1)) (.slice (some ⟨q, 0, none⟩) len c2) (opL true true G (k + 1)) ∧ Below w.heap.size w (wr.setCell ⟨q, k * 3, none⟩ (.int .i64 1))) := Lib.hid ⟨by
          have h1 := HM.out.setK (k := k) (by rw [opL_len, hlen]; exact hlt) 1
          rw [opL_at _ _ _ _ (by rw [hlen]; exact hlt), ← HG.out, ← e1, HG.out, opL_set _ _ _ _ (by rw [hlen]; exact hlt), opL_len, hlen] at h1
          exact h1, HB.out.setCell (p := ⟨q, k * 3, none⟩) (by simp only; exact HQ.out) _⟩
        have zf := frozen_of_row wr q (k * 3) cs _ HH.out
        clear hK e1
        go_wp2_with fail
        go_roundw
        case rel => exact ⟨k + 1, by omega, by go_num, HN.out.1, HN.out.2⟩
        case measure => simp [intOf]; omega

      · have t2 : (g.k == 2) = false := by simpa using hK
        by_cases hJ : g.k = 0
        · have t3 : (g.k == 0) = true := by simpa using hJ
          have e1 : opS true true g = ⟨1, g.l, g.e⟩ := by unfold opS; rw [if_pos (by simp [hJ])]
          have HN : Hid (MutG w.heap.size (wr.setCell ⟨q, k * 3, none⟩ (.int .i64 1)) (.slice (some ⟨q, 0, none⟩) len c2) (opL true true G (k + 1)) ∧ Below w.heap.size w (wr.setCell ⟨q, k * 3, none⟩ (.int .i64 1))) := Lib.hid ⟨by
            have h1 := HM.out.setK (k := k) (by rw [opL_len, hlen]; exact hlt) 1
            rw [opL_at _ _ _ _ (by rw [hlen]; exact hlt), ← HG.out, ← e1, HG.out, opL_set _ _ _ _ (by rw [hlen]; exact hlt), opL_len, hlen] at h1
            exact h1, HB.out.setCell (p := ⟨q, k * 3, none⟩) (by simp only; exact HQ.out) _⟩
          have zf := frozen_of_row wr q (k * 3) cs _ HH.out
          clear hK hJ e1
          go_wp2_with fail
          go_roundw
          case rel => exact ⟨k + 1, by omega, by go_num, HN.out.1, HN.out.2⟩
          case measure => simp [intOf]; omega

        · have t3 : (g.k == 0) = false := by simpa using hJ
          have e1 : opS true true g = g := by unfold opS; rw [if_neg (by simp [hK, hJ])]
          have HN : Hid (MutG w.heap.size wr (.slice (some ⟨q, 0, none⟩) len c2) (opL true true G (k + 1))) := Lib.hid (by
            rw [← opL_same _ _ _ _ (by rw [hlen]; exact hlt) (by rw [← HG.out]; exact e1)]
            have h1 := HM.out
            rw [opL_len, hlen] at h1
            exact h1)
          clear hK hJ e1
          go_wp2_with fail
          go_roundw
          case rel => exact ⟨k + 1, by omega, by go_num, HN.out, HB.out⟩
          case measure => simp [intOf]; omega
    · obtain rfl : k = len := by omega
      have t3 : decide (k < k) = false := by simp
      obtain ⟨a3, c3, hs3, h32, h33, h34, _⟩ := hM
      obtain rfl : k = G.length := hlen.symm
      rw [opL_len] at hs3
      obtain ⟨rfl, rfl⟩ : a2 = a3 ∧ c2 = c3 := by simpa using hs3
      rw [opL_len] at h32
      have HLN : Hid ((opL true true G G.length).length = G.length) := Lib.hid (opL_len _ _ _ _)
      have HR : Hid (RowG wr a2 G.length (opL true true G G.length) ∧ G.length ≤ c2 ∧ c2 ≤ maxLen) := Lib.hid ⟨by rw [opL_len] at h34; exact h34, h32, h33⟩
      have HTW : Hid (∀ j, j < G.length → ((opL true true G G.length).getD j SegV.nil).k ≠ 2) := Lib.hid fun j hj => by rw [opL_end _ _ _ _ hj]; exact opS_two _ _
      have HZE : Hid (∀ j, j < G.length → ((opL true true G G.length).getD j SegV.nil).k ≠ 0) := Lib.hid fun j hj => by rw [opL_end _ _ _ _ hj]; exact opS_zero _ _
      clear hs3 h32 h33 h34 hlen
      go_wp2_with fail
      refine (victim_any _ _ _ _ _ HR.out.1 HR.out.2.1 HR.out.2.2).mono ?_
      rintro e v1 ⟨r, rfl, hv, hv1⟩
      obtain rfl : r = -1 := victim_none hv (by rw [HLN.out]; exact HTW.out)
      clear hv
      go_wp2_with fail
      refine (next_any _ _ _ _ _ (HR.out.1.step hv1) HR.out.2.1 HR.out.2.2).mono ?_
      rintro e v2 ⟨r, rfl, hv, hv2⟩
      obtain rfl : r = -1 := first_none hv HZE.out
      clear hv
      go_wp2_with fail
      refine (dead_any _ _ _ _ _ ((HR.out.1.step hv1).step hv2) HR.out.2.1 HR.out.2.2 (by omega)).mono ?_
      rintro e v3 ⟨v, rfl, ho, hv3⟩
      rw [dead_none HTW.out] at ho
      obtain ⟨a', c', rfl, _, _, _⟩ := ownZ_row ho
      clear ho
      go_wp2_with fail
      go_ret
      exact ⟨rfl, (wbel_trans (wbel_trans (wbel_trans HB.out hv1) hv2) hv3)⟩
set_option maxHeartbeats 2000000 in
theorem wearEmpty_tf (a : Option Addr) (len cap : Nat) (G : List SegV) (w : World) (hr : RowG w a len G) (hlc : len ≤ cap) (hnn : a = none → cap = 0) (hl : ¬ 100 < len) :
    Calls Try.prog 7 #[.slice a len cap, .bool true, .bool false] w fun e w' => e = .returned (.bool true) ∧ Below w.heap.size w w' := by
  have t1 : decide ((100 : Int) < (len : Int)) = false := by simp; omega
  have t2 : decide (100 < len) = false := by simpa using hl
  have hlen := hr.1
  go_enter Try.func7, Try.ntmps7
  go_wp2_with fail
  refine (chosen_any w).mono ?_
  rintro e w1 ⟨rfl, hb1⟩
  go_wp2_with (at_builtin; refine wpList_appAll rfl _ _ rfl w.heap.size _ rfl ⟨rfl, .inr ⟨w1.heap.size, 0, #[], rfl, hb1.size, heap_new_own w1 #[] _, Nat.le_refl _, Nat.zero_le _, rfl, rfl⟩⟩ a len cap G rfl hnn hlc (hr.step (wbel_trans hb1 (wbel_alloc (Below.refl _ _) _))) (by have := hb1.size; simp; omega) (by omega) ?_)
  intro sv w2 hm2 hb2
  have hbb : Below w.heap.size w w2 := (wbel_alloc hb1 _).trans hb2
  have HM0 := Lib.hid hm2
  have HB0 := Lib.hid hbb
  obtain ⟨a2, c2, rfl, _, _, _, _⟩ := hm2
  rw [hlen] at HM0
  rw [hlen]
  clear hb1 hb2 hbb hr hnn
  go_wp2_with fail
  go_loopw [8] (fun i wr => ∃ (k : Nat), k ≤ len ∧ i = .int .i64 (k : Int) ∧ MutG w.heap.size wr (.slice a2 len c2) (opL true false G k) ∧ Below w.heap.size w wr) (fun i _ => len - (intOf i).toNat)
  case atStart => exact ⟨0, Nat.zero_le _, rfl, by rw [opL_zero]; exact HM0.out, HB0.out⟩
  case round =>
    obtain ⟨k, hk, rfl, hM, hB⟩ := hrel
    have HB := Lib.hid hB
    clear hB HM0 HB0
    by_cases hlt : k < len
    · have t3 : decide (k < len) = true := by simpa using hlt
      obtain ⟨q, c, cs, hsv, hc1, hc2, hrw, hq, hh, hqs, hc⟩ := hM.at (k := k) (by rw [opL_len, hlen]; exact hlt)
      rw [opL_len, hlen] at hsv
      obtain ⟨rfl, rfl⟩ : a2 = some ⟨q, 0, none⟩ ∧ c2 = c := by simpa using hsv
      rw [opL_len, hlen] at hc1
      have HM : Hid (MutG w.heap.size wr (.slice (some ⟨q, 0, none⟩) (opL true false G k).length c2) (opL true false G k)) := Lib.hid (by rw [opL_len, hlen]; exact hM)
      obtain ⟨c0, _, _⟩ := hc k (by rw [opL_len, hlen]; exact hlt)
      rw [opL_at _ _ _ _ (by rw [hlen]; exact hlt)] at c0
      have HQ := Lib.hid hq
      have HH := Lib.hid hh
      clear hsv hrw hq hh hc hM
      obtain ⟨g, hg⟩ : ∃ g, g = G.getD k SegV.nil := ⟨_, rfl⟩
      rw [← hg] at c0
      have HG := Lib.hid hg
      clear hg
      have hk0 : (0 : Int) ≤ (k : Int) := by omega
      have hk1 : (k : Int) < (len : Int) := by omega
      by_cases hK : g.k = 2
      · have t2 : (g.k == 2) = true := by simpa using hK
        have e1 : opS true false g = ⟨1, g.l, g.e⟩ := by unfold opS; rw [if_pos (by simp [hK])]
        have HN : Hid (MutG w.heap.size (wr.setCell ⟨q, k * 3, none⟩ (.int .i64 1)) (.slice (some ⟨q, 0, none⟩) len c2) (opL true false G (k + 1)) ∧ Below w.heap.size w (wr.setCell ⟨q, k * 3, none⟩ (.int .i64 1))) := Lib.hid ⟨by
          have h1 := HM.out.setK (k := k) (by rw [opL_len, hlen]; exact hlt) 1
          rw [opL_at _ _ _ _ (by rw [hlen]; exact hlt), ← HG.out, ← e1, HG.out, opL_set _ _ _ _ (by rw [hlen]; exact hlt), opL_len, hlen] at h1
          exact h1, HB.out.setCell (p := ⟨q, k * 3, none⟩) (by simp only; exact HQ.out) _⟩
        have zf := frozen_of_row wr q (k * 3) cs _ HH.out
        clear hK e1
        go_wp2_with fail
        go_roundw
        case rel => exact ⟨k + 1, by omega, by go_num, HN.out.1, HN.out.2⟩
        case measure => simp [intOf]; omega

      · have t2 : (g.k == 2) = false := by simpa using hK
        have e1 : opS true false g = g := by unfold opS; rw [if_neg (by simp [hK])]
        have HN : Hid (MutG w.heap.size wr (.slice (some ⟨q, 0, none⟩) len c2) (opL true false G (k + 1))) := Lib.hid (by
          rw [← opL_same _ _ _ _ (by rw [hlen]; exact hlt) (by rw [← HG.out]; exact e1)]
          have h1 := HM.out
          rw [opL_len, hlen] at h1
          exact h1)
        clear hK e1
        go_wp2_with fail
        go_roundw
        case rel => exact ⟨k + 1, by omega, by go_num, HN.out, HB.out⟩
        case measure => simp [intOf]; omega
    · obtain rfl : k = len := by omega
      have t3 : decide (k < k) = false := by simp
      obtain ⟨a3, c3, hs3, h32, h33, h34, _⟩ := hM
      obtain rfl : k = G.length := hlen.symm
      rw [opL_len] at hs3
      obtain ⟨rfl, rfl⟩ : a2 = a3 ∧ c2 = c3 := by simpa using hs3
      rw [opL_len] at h32
      have HLN : Hid ((opL true false G G.length).length = G.length) := Lib.hid (opL_len _ _ _ _)
      have HR : Hid (RowG wr a2 G.length (opL true false G G.length) ∧ G.length ≤ c2 ∧ c2 ≤ maxLen) := Lib.hid ⟨by rw [opL_len] at h34; exact h34, h32, h33⟩
      have HTW : Hid (∀ j, j < G.length → ((opL true false G G.length).getD j SegV.nil).k ≠ 2) := Lib.hid fun j hj => by rw [opL_end _ _ _ _ hj]; exact opS_two _ _
      clear hs3 h32 h33 h34 hlen
      go_wp2_with fail
      refine (victim_any _ _ _ _ _ HR.out.1 HR.out.2.1 HR.out.2.2).mono ?_
      rintro e v1 ⟨r, rfl, hv, hv1⟩
      obtain rfl : r = -1 := victim_none hv (by rw [HLN.out]; exact HTW.out)
      clear hv
      go_wp2_with fail
      refine (dead_any _ _ _ _ _ ((HR.out.1.step hv1)) HR.out.2.1 HR.out.2.2 (by omega)).mono ?_
      rintro e v3 ⟨v, rfl, ho, hv3⟩
      rw [dead_none HTW.out] at ho
      obtain ⟨a', c', rfl, _, _, _⟩ := ownZ_row ho
      clear ho
      go_wp2_with fail
      go_ret
      exact ⟨rfl, (wbel_trans (wbel_trans HB.out hv1) hv3)⟩
set_option maxHeartbeats 2000000 in
theorem wearEmpty_ft (a : Option Addr) (len cap : Nat) (G : List SegV) (w : World) (hr : RowG w a len G) (hlc : len ≤ cap) (hnn : a = none → cap = 0) (hl : ¬ 100 < len) :
    Calls Try.prog 7 #[.slice a len cap, .bool false, .bool true] w fun e w' => e = .returned (.bool true) ∧ Below w.heap.size w w' := by
  have t1 : decide ((100 : Int) < (len : Int)) = false := by simp; omega
  have t2 : decide (100 < len) = false := by simpa using hl
  have hlen := hr.1
  go_enter Try.func7, Try.ntmps7
  go_wp2_with fail
  refine (chosen_any w).mono ?_
  rintro e w1 ⟨rfl, hb1⟩
  go_wp2_with (at_builtin; refine wpList_appAll rfl _ _ rfl w.heap.size _ rfl ⟨rfl, .inr ⟨w1.heap.size, 0, #[], rfl, hb1.size, heap_new_own w1 #[] _, Nat.le_refl _, Nat.zero_le _, rfl, rfl⟩⟩ a len cap G rfl hnn hlc (hr.step (wbel_trans hb1 (wbel_alloc (Below.refl _ _) _))) (by have := hb1.size; simp; omega) (by omega) ?_)
  intro sv w2 hm2 hb2
  have hbb : Below w.heap.size w w2 := (wbel_alloc hb1 _).trans hb2
  have HM0 := Lib.hid hm2
  have HB0 := Lib.hid hbb
  obtain ⟨a2, c2, rfl, _, _, _, _⟩ := hm2
  rw [hlen] at HM0
  rw [hlen]
  clear hb1 hb2 hbb hr hnn
  go_wp2_with fail
  go_loopw [8] (fun i wr => ∃ (k : Nat), k ≤ len ∧ i = .int .i64 (k : Int) ∧ MutG w.heap.size wr (.slice a2 len c2) (opL false true G k) ∧ Below w.heap.size w wr) (fun i _ => len - (intOf i).toNat)
  case atStart => exact ⟨0, Nat.zero_le _, rfl, by rw [opL_zero]; exact HM0.out, HB0.out⟩
  case round =>
    obtain ⟨k, hk, rfl, hM, hB⟩ := hrel
    have HB := Lib.hid hB
    clear hB HM0 HB0
    by_cases hlt : k < len
    · have t3 : decide (k < len) = true := by simpa using hlt
      obtain ⟨q, c, cs, hsv, hc1, hc2, hrw, hq, hh, hqs, hc⟩ := hM.at (k := k) (by rw [opL_len, hlen]; exact hlt)
      rw [opL_len, hlen] at hsv
      obtain ⟨rfl, rfl⟩ : a2 = some ⟨q, 0, none⟩ ∧ c2 = c := by simpa using hsv
      rw [opL_len, hlen] at hc1
      have HM : Hid (MutG w.heap.size wr (.slice (some ⟨q, 0, none⟩) (opL false true G k).length c2) (opL false true G k)) := Lib.hid (by rw [opL_len, hlen]; exact hM)
      obtain ⟨c0, _, _⟩ := hc k (by rw [opL_len, hlen]; exact hlt)
      rw [opL_at _ _ _ _ (by rw [hlen]; exact hlt)] at c0
      have HQ := Lib.hid hq
      have HH := Lib.hid hh
      clear hsv hrw hq hh hc hM
      obtain ⟨g, hg⟩ : ∃ g, g = G.getD k SegV.nil := ⟨_, rfl⟩
      rw [← hg] at c0
      have HG := Lib.hid hg
      clear hg
      have hk0 : (0 : Int) ≤ (k : Int) := by omega
      have hk1 : (k : Int) < (len : Int) := by omega
      by_cases hK : g.k = 0
      · have t2 : (g.k == 0) = true := by simpa using hK
        have e1 : opS false true g = ⟨1, g.l, g.e⟩ := by unfold opS; rw [if_pos (by simp [hK])]
        have HN : Hid (MutG w.heap.size (wr.setCell ⟨q, k * 3, none⟩ (.int .i64 1)) (.slice (some ⟨q, 0, none⟩) len c2) (opL false true G (k + 1)) ∧ Below w.heap.size w (wr.setCell ⟨q, k * 3, none⟩ (.int .i64 1))) := Lib.hid ⟨by
          have h1 := HM.out.setK (k := k) (by rw [opL_len, hlen]; exact hlt) 1
          rw [opL_at _ _ _ _ (by rw [hlen]; exact hlt), ← HG.out, ← e1, HG.out, opL_set _ _ _ _ (by rw [hlen]; exact hlt), opL_len, hlen] at h1
          exact h1, HB.out.setCell (p := ⟨q, k * 3, none⟩) (by simp only; exact HQ.out) _⟩
        have zf := frozen_of_row wr q (k * 3) cs _ HH.out
        clear hK e1
        go_wp2_with fail
        go_roundw
        case rel => exact ⟨k + 1, by omega, by go_num, HN.out.1, HN.out.2⟩
        case measure => simp [intOf]; omega

      · have t2 : (g.k == 0) = false := by simpa using hK
        have e1 : opS false true g = g := by unfold opS; rw [if_neg (by simp [hK])]
        have HN : Hid (MutG w.heap.size wr (.slice (some ⟨q, 0, none⟩) len c2) (opL false true G (k + 1))) := Lib.hid (by
          rw [← opL_same _ _ _ _ (by rw [hlen]; exact hlt) (by rw [← HG.out]; exact e1)]
          have h1 := HM.out
          rw [opL_len, hlen] at h1
          exact h1)
        clear hK e1
        go_wp2_with fail
        go_roundw
        case rel => exact ⟨k + 1, by omega, by go_num, HN.out, HB.out⟩
        case measure => simp [intOf]; omega
    · obtain rfl : k = len := by omega
      have t3 : decide (k < k) = false := by simp
      obtain ⟨a3, c3, hs3, h32, h33, h34, _⟩ := hM
      obtain rfl : k = G.length := hlen.symm
      rw [opL_len] at hs3
      obtain ⟨rfl, rfl⟩ : a2 = a3 ∧ c2 = c3 := by simpa using hs3
      rw [opL_len] at h32
      have HLN : Hid ((opL false true G G.length).length = G.length) := Lib.hid (opL_len _ _ _ _)
      have HR : Hid (RowG wr a2 G.length (opL false true G G.length) ∧ G.length ≤ c2 ∧ c2 ≤ maxLen) := Lib.hid ⟨by rw [opL_len] at h34; exact h34, h32, h33⟩
      have HZE : Hid (∀ j, j < G.length → ((opL false true G G.length).getD j SegV.nil).k ≠ 0) := Lib.hid fun j hj => by rw [opL_end _ _ _ _ hj]; exact opS_zero _ _
      clear hs3 h32 h33 h34 hlen
      go_wp2_with fail
      refine (next_any _ _ _ _ _ (HR.out.1) HR.out.2.1 HR.out.2.2).mono ?_
      rintro e v2 ⟨r, rfl, hv, hv2⟩
      obtain rfl : r = -1 := first_none hv HZE.out
      clear hv
      go_wp2_with fail
      go_ret
      exact ⟨rfl, (wbel_trans HB.out hv2)⟩
set_option maxHeartbeats 2000000 in
theorem wearEmpty_ff (a : Option Addr) (len cap : Nat) (G : List SegV) (w : World) (hr : RowG w a len G) (hlc : len ≤ cap) (hnn : a = none → cap = 0) (hl : ¬ 100 < len) :
    Calls Try.prog 7 #[.slice a len cap, .bool false, .bool false] w fun e w' => e = .returned (.bool true) ∧ Below w.heap.size w w' := by
  have t1 : decide ((100 : Int) < (len : Int)) = false := by simp; omega
  have t2 : decide (100 < len) = false := by simpa using hl
  have hlen := hr.1
  go_enter Try.func7, Try.ntmps7
  go_wp2_with fail
  refine (chosen_any w).mono ?_
  rintro e w1 ⟨rfl, hb1⟩
  go_wp2_with (at_builtin; refine wpList_appAll rfl _ _ rfl w.heap.size _ rfl ⟨rfl, .inr ⟨w1.heap.size, 0, #[], rfl, hb1.size, heap_new_own w1 #[] _, Nat.le_refl _, Nat.zero_le _, rfl, rfl⟩⟩ a len cap G rfl hnn hlc (hr.step (wbel_trans hb1 (wbel_alloc (Below.refl _ _) _))) (by have := hb1.size; simp; omega) (by omega) ?_)
  intro sv w2 hm2 hb2
  have hbb : Below w.heap.size w w2 := (wbel_alloc hb1 _).trans hb2
  have HM0 := Lib.hid hm2
  have HB0 := Lib.hid hbb
  obtain ⟨a2, c2, rfl, _, _, _, _⟩ := hm2
  rw [hlen] at HM0
  rw [hlen]
  clear hb1 hb2 hbb hr hnn
  go_wp2_with fail
  go_loopw [8] (fun i wr => ∃ (k : Nat), k ≤ len ∧ i = .int .i64 (k : Int) ∧ MutG w.heap.size wr (.slice a2 len c2) (opL false false G k) ∧ Below w.heap.size w wr) (fun i _ => len - (intOf i).toNat)
  case atStart => exact ⟨0, Nat.zero_le _, rfl, by rw [opL_zero]; exact HM0.out, HB0.out⟩
  case round =>
    obtain ⟨k, hk, rfl, hM, hB⟩ := hrel
    have HB := Lib.hid hB
    clear hB HM0 HB0
    by_cases hlt : k < len
    · have t3 : decide (k < len) = true := by simpa using hlt
      obtain ⟨q, c, cs, hsv, hc1, hc2, hrw, hq, hh, hqs, hc⟩ := hM.at (k := k) (by rw [opL_len, hlen]; exact hlt)
      rw [opL_len, hlen] at hsv
      obtain ⟨rfl, rfl⟩ : a2 = some ⟨q, 0, none⟩ ∧ c2 = c := by simpa using hsv
      rw [opL_len, hlen] at hc1
      have HM : Hid (MutG w.heap.size wr (.slice (some ⟨q, 0, none⟩) (opL false false G k).length c2) (opL false false G k)) := Lib.hid (by rw [opL_len, hlen]; exact hM)
      obtain ⟨c0, _, _⟩ := hc k (by rw [opL_len, hlen]; exact hlt)
      rw [opL_at _ _ _ _ (by rw [hlen]; exact hlt)] at c0
      have HQ := Lib.hid hq
      have HH := Lib.hid hh
      clear hsv hrw hq hh hc hM
      obtain ⟨g, hg⟩ : ∃ g, g = G.getD k SegV.nil := ⟨_, rfl⟩
      rw [← hg] at c0
      have HG := Lib.hid hg
      clear hg
      have hk0 : (0 : Int) ≤ (k : Int) := by omega
      have hk1 : (k : Int) < (len : Int) := by omega
      have e1 : opS false false g = g := by unfold opS; rw [if_neg (by simp)]
      have HN : Hid (MutG w.heap.size wr (.slice (some ⟨q, 0, none⟩) len c2) (opL false false G (k + 1))) := Lib.hid (by
        rw [← opL_same _ _ _ _ (by rw [hlen]; exact hlt) (by rw [← HG.out]; exact e1)]
        have h1 := HM.out
        rw [opL_len, hlen] at h1
        exact h1)
      clear e1
      go_wp2_with fail
      go_roundw
      case rel => exact ⟨k + 1, by omega, by go_num, HN.out, HB.out⟩
      case measure => simp [intOf]; omega
    · obtain rfl : k = len := by omega
      have t3 : decide (k < k) = false := by simp
      obtain ⟨a3, c3, hs3, h32, h33, h34, _⟩ := hM
      obtain rfl : k = G.length := hlen.symm
      rw [opL_len] at hs3
      obtain ⟨rfl, rfl⟩ : a2 = a3 ∧ c2 = c3 := by simpa using hs3
      rw [opL_len] at h32
      have HLN : Hid ((opL false false G G.length).length = G.length) := Lib.hid (opL_len _ _ _ _)
      have HR : Hid (RowG wr a2 G.length (opL false false G G.length) ∧ G.length ≤ c2 ∧ c2 ≤ maxLen) := Lib.hid ⟨by rw [opL_len] at h34; exact h34, h32, h33⟩
      clear hs3 h32 h33 h34 hlen
      go_wp2_with fail
      go_ret
      exact ⟨rfl, HB.out⟩
theorem wearEmpty_all (a : Option Addr) (len cap : Nat) (G : List SegV) (x y : Bool) (w : World) (hr : RowG w a len G ∧ len ≤ cap ∧ cap ≤ maxLen ∧ (a = none → cap = 0)) :
    Calls Try.prog 7 #[.slice a len cap, .bool x, .bool y] w fun e w' => e = .returned (.bool true) ∧ Below w.heap.size w w' := by
  by_cases h : 100 < len
  · exact wearEmpty_big a len cap x y w h
  · cases x <;> cases y
    · exact wearEmpty_ff a len cap G w hr.1 hr.2.1 hr.2.2.2 h
    · exact wearEmpty_ft a len cap G w hr.1 hr.2.1 hr.2.2.2 h
    · exact wearEmpty_tf a len cap G w hr.1 hr.2.1 hr.2.2.2 h
    · exact wearEmpty_tt a len cap G w hr.1 hr.2.1 hr.2.2.2 h
end Go.Proofs.Ytjimgbeockfpmaa
