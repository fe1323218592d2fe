/- member.First and Full. -/
import Derived.Test.YtdljihemnfpkaaaMemI
namespace Go.Proofs.Ytdljihemnfpkaaa
open Go.RowKit Go.Deep

def firstL (n : Nat) : List Int := (List.range n).map fun (i : Nat) => (i : Int)
theorem firstL_more (k : Nat) : firstL (k + 1) = firstL k ++ [(k : Int)] := by simp [firstL, List.range_succ]
theorem firstL_len (n : Nat) : (firstL n).length = n := by simp [firstL]
theorem firstL_at (n k : Nat) (h : k < n) : (firstL n).getD k 0 = (k : Int) := by simp [firstL, List.getD, h]
theorem firstL_in (n : Nat) (hn : n ≤ 1000) : ∀ z ∈ firstL n, -9223372036854775808 ≤ z ∧ z ≤ 9223372036854775807 := by
  intro z hz
  unfold firstL at hz
  rw [List.mem_map] at hz
  obtain ⟨i, hi, rfl⟩ := hz
  have := List.mem_range.1 hi
  omega
set_option maxRecDepth 100000 in
theorem full_any (sq : Nat) (a : Option Addr) (n c : Nat) (sp de dn : Int) (w : World) :
    Calls Try.prog 17 #[.agg #[.int .u32 (sq : Int), .slice a n c, .int .i64 sp, .int .i64 de, .int .i64 dn]] w fun e w' => e = .returned (.bool (de == 255)) ∧ Below w.heap.size w w' := by
  go_enter Try.func17, Try.ntmps17
  go_wp2
  go_ret
  exact ⟨rfl, bel_alloc (Below.refl _ w) _⟩
theorem five_put {W : World} {b : Nat} {u0 u1 u2 u3 u4 : Value} (v0 v1 v2 v3 v4 : Value) {t : TypeId} (h : W.heap[b]? = some (.cells #[u0, u1, u2, u3, u4] t (0, 0))) :
    (((((W.setCell ⟨b, 0, none⟩ v0).setCell ⟨b, 1, none⟩ v1).setCell ⟨b, 2, none⟩ v2).setCell ⟨b, 3, none⟩ v3).setCell ⟨b, 4, none⟩ v4).heap[b]? = some (.cells #[v0, v1, v2, v3, v4] t (0, 0)) := by
  have h0 := heap_setCell_same W b 0 _ _ v0 h
  have h1 := heap_setCell_same _ b 1 _ _ v1 h0
  have h2 := heap_setCell_same _ b 2 _ _ v2 h1
  have h3 := heap_setCell_same _ b 3 _ _ v3 h2
  have h4 := heap_setCell_same _ b 4 _ _ v4 h3
  simpa using h4
def MemFirstRet (n : Nat) (w : World) (e : Ending) (w' : World) : Prop :=
  ∃ v, e = .returned (.agg #[.int .u32 1, v, .int .i64 (n : Int), .int .i64 255, .int .i64 0]) ∧ OwnI w.heap.size w' v (firstL n) ∧ Below w.heap.size w w'
set_option maxRecDepth 100000 in
set_option maxHeartbeats 1000000 in
theorem memFirst_any (n : Nat) (b c d : Int) (w : World) (hn : n ≤ 1000) :
    Calls Try.prog 7 #[.agg #[.int .i64 (n : Int), .int .i64 b, .int .i64 c, .int .i64 d]] w (MemFirstRet n w) := by
  have t0 : decide ((n : Int) ≤ 268435455) = true := by simp; omega
  go_enter Try.func7, Try.ntmps7
  go_wp2_with fail
  have lT : (((w.alloc (.cells #[.int .i64 (n : Int), .int .i64 b, .int .i64 c, .int .i64 d] 27)).alloc (.cells #[.int .u32 0, .slice none 0 0, .int .i64 0, .int .i64 0, .int .i64 0] 31)).alloc (.cells #[.int .u32 1, .slice none 0 0, .int .i64 (n : Int), .int .i64 255, .int .i64 0] 31)).heap[w.heap.size + 1 + 1]? = some (.cells #[.int .u32 1, .slice none 0 0, .int .i64 (n : Int), .int .i64 255, .int .i64 0] 31 (0, 0)) := by
    have := heap_alloc_new ((w.alloc (.cells #[.int .i64 (n : Int), .int .i64 b, .int .i64 c, .int .i64 d] 27)).alloc (.cells #[.int .u32 0, .slice none 0 0, .int .i64 0, .int .i64 0, .int .i64 0] 31)) (.cells #[.int .u32 1, .slice none 0 0, .int .i64 (n : Int), .int .i64 255, .int .i64 0] 31)
    simpa using this
  have lR : (((w.alloc (.cells #[.int .i64 (n : Int), .int .i64 b, .int .i64 c, .int .i64 d] 27)).alloc (.cells #[.int .u32 0, .slice none 0 0, .int .i64 0, .int .i64 0, .int .i64 0] 31)).alloc (.cells #[.int .u32 1, .slice none 0 0, .int .i64 (n : Int), .int .i64 255, .int .i64 0] 31)).heap[w.heap.size + 1]? = some (.cells #[.int .u32 0, .slice none 0 0, .int .i64 0, .int .i64 0, .int .i64 0] 31 (0, 0)) := by
    rw [heap_alloc_oldm (by simp)]
    have := heap_alloc_new (w.alloc (.cells #[.int .i64 (n : Int), .int .i64 b, .int .i64 c, .int .i64 d] 27)) (.cells #[.int .u32 0, .slice none 0 0, .int .i64 0, .int .i64 0, .int .i64 0] 31)
    simpa using this
  have hB1 := bel_alloc (bel_alloc (bel_alloc (Below.refl _ w) (.cells #[.int .i64 (n : Int), .int .i64 b, .int .i64 c, .int .i64 d] 27)) (.cells #[.int .u32 0, .slice none 0 0, .int .i64 0, .int .i64 0, .int .i64 0] 31)) (.cells #[.int .u32 1, .slice none 0 0, .int .i64 (n : Int), .int .i64 255, .int .i64 0] 31)
  have hsz : w.heap.size + 1 + 1 < (((w.alloc (.cells #[.int .i64 (n : Int), .int .i64 b, .int .i64 c, .int .i64 d] 27)).alloc (.cells #[.int .u32 0, .slice none 0 0, .int .i64 0, .int .i64 0, .int .i64 0] 31)).alloc (.cells #[.int .u32 1, .slice none 0 0, .int .i64 (n : Int), .int .i64 255, .int .i64 0] 31)).heap.size := by simp
  obtain ⟨R, hR⟩ : ∃ x, x = w.heap.size + 1 := ⟨_, rfl⟩
  obtain ⟨w1, hw1⟩ : ∃ x, x = ((w.alloc (.cells #[.int .i64 (n : Int), .int .i64 b, .int .i64 c, .int .i64 d] 27)).alloc (.cells #[.int .u32 0, .slice none 0 0, .int .i64 0, .int .i64 0, .int .i64 0] 31)).alloc (.cells #[.int .u32 1, .slice none 0 0, .int .i64 (n : Int), .int .i64 255, .int .i64 0] 31) := ⟨_, rfl⟩
  rw [← hw1, ← hR] at lT lR hsz
  rw [← hw1] at hB1
  rw [← hw1, ← hR]
  have LT := Lib.hid lT
  have LR := Lib.hid lR
  have HB1 := Lib.hid hB1
  have HSZ := Lib.hid hsz
  have HRW : Hid (w.heap.size < R) := Lib.hid (by omega)
  clear lT lR hB1 hw1 hR hsz
  go_loopw [13] (fun i wr => ∃ (k : Nat) (v : Value), k ≤ n ∧ i = .int .i64 (k : Int) ∧ wr.heap[R + 1]? = some (.cells #[.int .u32 1, v, .int .i64 (n : Int), .int .i64 255, .int .i64 0] 31 (0, 0)) ∧ wr.heap[R]? = some (.cells #[.int .u32 0, .slice none 0 0, .int .i64 0, .int .i64 0, .int .i64 0] 31 (0, 0)) ∧ OwnI (R + 1 + 1) wr v (firstL k) ∧ Below w.heap.size w wr) (fun i _ => n - (intOf i).toNat)
  case atStart => exact ⟨0, _, Nat.zero_le _, rfl, LT.out, LR.out, ownI_nil _ _, HB1.out⟩
  case round =>
    obtain ⟨k, v, hk, rfl, hT, hRr, ho, hB⟩ := hrel
    have HT := Lib.hid hT
    have HRR := Lib.hid hRr
    have HO := Lib.hid ho
    have HB := Lib.hid hB
    have hlR : R + 1 + 1 ≤ wr.heap.size := by have := (Array.getElem?_eq_some_iff.1 hT).1; omega
    obtain ⟨_, z1, _, _, _⟩ := five_at hT
    have zf := mfree_at hT
    have HLR := Lib.hid hlR
    clear hT hRr ho hB hlR
    by_cases hlt : k < n
    · have t1 : decide (k < n) = true := by simpa using hlt
      go_wp2_with (at_builtin; refine wpList_appV rfl _ _ rfl (R + 1 + 1) _ (firstL k) rfl (ownI_below HO.out (bel_alloc (Below.refl _ _) _)) ⟨wr.heap.size, 0, none⟩ (k : Int) 1 rfl (cell_new1 _ _ _) (by simp; have := HLR.out; omega) (by rw [firstL_len]; omega) ?_)
      intro v' w2 own grow wh hb2
      rw [← firstL_more] at own
      obtain ⟨a', c', rfl, _, _⟩ := ownI_row own (firstL_in _ (by omega))
      have e1 := (hb2.block (R + 1) (by omega)).trans ((heap_alloc_oldm (w := wr) (o := .cells #[.int .i64 (k : Int)] 3) (by have := HLR.out; omega)).trans HT.out)
      have e2 := (hb2.block R (by omega)).trans ((heap_alloc_oldm (w := wr) (o := .cells #[.int .i64 (k : Int)] 3) (by have := HLR.out; omega)).trans HRR.out)
      have e3 := (bel_alloc HB.out (.cells #[.int .i64 (k : Int)] 3)).trans (hb2.mono (show w.heap.size ≤ R + 1 + 1 by have := HRW.out; omega))
      have HR : Hid ((w2.setCell ⟨R + 1, 1, none⟩ (.slice a' (firstL (k + 1)).length c')).heap[R + 1]? = some (.cells #[.int .u32 1, .slice a' (firstL (k + 1)).length c', .int .i64 (n : Int), .int .i64 255, .int .i64 0] 31 (0, 0)) ∧ (w2.setCell ⟨R + 1, 1, none⟩ (.slice a' (firstL (k + 1)).length c')).heap[R]? = some (.cells #[.int .u32 0, .slice none 0 0, .int .i64 0, .int .i64 0, .int .i64 0] 31 (0, 0)) ∧ OwnI (R + 1 + 1) (w2.setCell ⟨R + 1, 1, none⟩ (.slice a' (firstL (k + 1)).length c')) (.slice a' (firstL (k + 1)).length c') (firstL (k + 1)) ∧ Below w.heap.size w (w2.setCell ⟨R + 1, 1, none⟩ (.slice a' (firstL (k + 1)).length c'))) := Lib.hid ⟨by
          have := heap_setCell_same w2 (R + 1) 1 _ _ (.slice a' (firstL (k + 1)).length c') e1
          simpa using this, (heap_setCell_other _ _ R _ (by simp)).trans e2, ownsRow_setCell_below own (by simp) _, e3.setCell (p := ⟨R + 1, 1, none⟩) (by have := HRW.out; simp only; omega) _⟩
      obtain ⟨_, z1, _, _, _⟩ := five_at e1
      have zf := mfree_at e1
      clear own grow wh hb2 e1 e2 e3
      go_wp2
      go_roundw
      case rel => exact ⟨k + 1, _, by omega, by go_num, HR.out⟩
      case measure => simp [intOf]; omega
    · obtain rfl : k = n := by omega
      have t1 : decide (k < k) = false := by simp
      obtain ⟨a', c', rfl, _, _⟩ := ownI_row HO.out (firstL_in _ (by omega))
      obtain ⟨z0, z1, z2, z3, z4⟩ := five_at HT.out
      obtain ⟨y0, y1, y2, y3, y4⟩ := five_at HRR.out
      have yf := mfree_at HRR.out
      have e5 := five_put (.int .u32 1) (.slice a' (firstL k).length c') (.int .i64 (k : Int)) (.int .i64 255) (.int .i64 0) HRR.out
      have e6 : Below w.heap.size w _ := ((((HB.out.setCell (p := ⟨R, 0, none⟩) (Nat.le_of_lt HRW.out) (.int .u32 1)).setCell (p := ⟨R, 1, none⟩) (Nat.le_of_lt HRW.out) (.slice a' (firstL k).length c')).setCell (p := ⟨R, 2, none⟩) (Nat.le_of_lt HRW.out) (.int .i64 (k : Int))).setCell (p := ⟨R, 3, none⟩) (Nat.le_of_lt HRW.out) (.int .i64 255)).setCell (p := ⟨R, 4, none⟩) (Nat.le_of_lt HRW.out) (.int .i64 0)
      have e7 : OwnI (R + 1 + 1) _ (.slice a' (firstL k).length c') (firstL k) := ownsRow_setCell_below (a := ⟨R, 4, none⟩) (ownsRow_setCell_below (a := ⟨R, 3, none⟩) (ownsRow_setCell_below (a := ⟨R, 2, none⟩) (ownsRow_setCell_below (a := ⟨R, 1, none⟩) (ownsRow_setCell_below (a := ⟨R, 0, none⟩) HO.out (by simp only; omega) (.int .u32 1)) (by simp only; omega) (.slice a' (firstL k).length c')) (by simp only; omega) (.int .i64 (k : Int))) (by simp only; omega) (.int .i64 255)) (by simp only; omega) (.int .i64 0)
      have E6 := Lib.hid (And.intro e7 e6)
      have E5 := Lib.hid e5
      clear e5 e6 e7
      go_wp2
      obtain ⟨q0, q1, q2, q3, q4⟩ := five_at E5.out
      refine bodyPost_ret (v := .agg #[.int .u32 1, .slice a' (firstL k).length c', .int .i64 (k : Int), .int .i64 255, .int .i64 0]) ?_ rfl ⟨_, rfl, ownI_mono E6.out.1 (by have := HRW.out; omega), E6.out.2⟩
      simp [results, Try.results7, go_sem, q0, q1, q2, q3, q4]
end Go.Proofs.Ytdljihemnfpkaaa
