/- CursorTexts: the walk. -/
import Derived.Test.YteemegigooafkaaTextsBy
import Derived.Test.YteemegigooafkaaCursorPadsWalk
namespace Go.Proofs.Yteemegigooafkaa
open Go.RowKit

theorem strOf_sbytes (s : ByteArray) : strOf (sbytes s) = s := by
  unfold strOf sbytes
  cases s
  rw [List.map_map, show (UInt8.ofNat ∘ UInt8.toNat) = id from funext fun x => by simp]
  simp
theorem text_facts (s T : ByteArray) (h : sbytes T = (sbytes s).take 255) : (textOf (sbytes s) ++ [9]).length = T.size + 2 ∧ (textOf (sbytes s) ++ [9]).getD 0 0 = T.size ∧ ((textOf (sbytes s) ++ [9]).drop 1).take T.size = sbytes T ∧ (((textOf (sbytes s) ++ [9]).drop 1).drop T.size).getD 0 0 = 9 := by
  unfold textOf
  rw [← h]
  have hl := sbytes_len T
  refine ⟨by simp [hl], by simp [hl], ?_, ?_⟩
  · simp only [List.cons_append, List.drop_succ_cons, List.drop_zero]
    rw [← hl, List.take_left]
  · simp only [List.cons_append, List.drop_succ_cons, List.drop_zero]
    rw [← hl, List.drop_left]; rfl
theorem two_new (w5 : World) (u v : Value) (t t' : TypeId) : ((w5.alloc (.cells #[u] t)).alloc (.cells #[v] t')).cell? ⟨w5.heap.size, 0, none⟩ = some u ∧ ((w5.alloc (.cells #[u] t)).alloc (.cells #[v] t')).cell? ⟨w5.heap.size + 1, 0, none⟩ = some v ∧
    ((w5.alloc (.cells #[u] t)).alloc (.cells #[v] t')).frozen? ⟨w5.heap.size, 0, none⟩ = false ∧ ((w5.alloc (.cells #[u] t)).alloc (.cells #[v] t')).frozen? ⟨w5.heap.size + 1, 0, none⟩ = false := by
  have h1 : ((w5.alloc (.cells #[u] t)).alloc (.cells #[v] t')).heap[w5.heap.size]? = some (.cells #[u] t) := by
    rw [Below.heap_alloc _ _ _ (by simp)]; exact heap_alloc_new w5 _
  have h2 : ((w5.alloc (.cells #[u] t)).alloc (.cells #[v] t')).heap[w5.heap.size + 1]? = some (.cells #[v] t') := by
    have h := heap_alloc_new (w5.alloc (.cells #[u] t)) (.cells #[v] t')
    rw [show (w5.alloc (.cells #[u] t)).heap.size = w5.heap.size + 1 by simp] at h
    exact h
  refine ⟨cell_of_heap1 h1, cell_of_heap1 h2, ?_, ?_⟩
  · unfold World.frozen?; rw [show (_ : World).heap[(⟨w5.heap.size, 0, none⟩ : Addr).block]? = _ from h1]; rfl
  · unfold World.frozen?; rw [show (_ : World).heap[(⟨w5.heap.size + 1, 0, none⟩ : Addr).block]? = _ from h2]; rfl
theorem setTwo_after {w5 W w7 : World} {u v u' v' : Value} {t t' : TypeId} (hq : SetTwo ((w5.alloc (.cells #[u] t)).alloc (.cells #[v] t')) w5.heap.size u' (w5.heap.size + 1) v' W) (hb : Below ((w5.alloc (.cells #[u] t)).alloc (.cells #[v] t')).heap.size W w7) :
    Below w5.heap.size w5 w7 ∧ w7.cell? ⟨w5.heap.size, 0, none⟩ = some u' ∧ w7.cell? ⟨w5.heap.size + 1, 0, none⟩ = some v' := by
  obtain ⟨W2, h2, rfl⟩ := hq
  have hs : ((w5.alloc (.cells #[u] t)).alloc (.cells #[v] t')).heap.size = w5.heap.size + 2 := by simp
  obtain ⟨c1, c2, _, _⟩ := two_new w5 u v t t'
  have d1 := below_cell h2 c1
  have d2 := below_cell h2 c2
  have b1 : Below w5.heap.size w5 W2 := (bel_alloc (bel_alloc (Below.refl _ w5) _) _).trans (h2.mono (B' := w5.heap.size) (by omega))
  have b2 := (b1.setCell (p := ⟨w5.heap.size, 0, none⟩) (Nat.le_refl _) u').setCell (p := ⟨w5.heap.size + 1, 0, none⟩) (Nat.le_succ _) v'
  refine ⟨b2.trans (hb.mono (by omega)), ?_, ?_⟩
  · rw [hb.cell (p := ⟨w5.heap.size, 0, none⟩) (by rw [hs]; show w5.heap.size < w5.heap.size + 2; omega)]
    simp [go_sem, d1]
  · rw [hb.cell (p := ⟨w5.heap.size + 1, 0, none⟩) (by rw [hs]; show w5.heap.size + 1 < w5.heap.size + 2; omega)]
    simp [go_sem, d2]

set_option maxRecDepth 100000 in
set_option maxHeartbeats 800000 in
theorem cursorTexts_walk (s : ByteArray) (w : World) (hs : s.size ≤ maxLen) :
    Calls Try.prog 8 #[.string s] w fun e w' => e = .returned (.bool true) ∧ Below w.heap.size w w' := by
  have hmf : ∀ (fn : Fn) (first cap : Array Value) (w : World), (Instr.makeFunc fn first cap).run Try.prog w = .ok (.func fn first cap) w := fun _ _ _ _ => rfl
  go_enter Try.func8, Try.ntmps8
  go_wp2_with fail
  refine (laid_any _).mono ?_
  rintro e w1 ⟨rfl, hb1⟩
  by_cases hbig : 600 < s.size
  · have hg1 : decide ((s.size : Int) > 600) = true := by simp; omega
    go_wp2_with fail
    refine (laid_any _).mono ?_
    rintro e w2 ⟨rfl, hb2⟩
    go_wp2
    go_ret
    exact ⟨rfl, bel_trans hb1 hb2⟩
  · have hg1 : decide ((s.size : Int) > 600) = false := by simp; omega
    have hz1 := hb1.size
    have hwr := wr_new w1
    have hb02 : Below w.heap.size w (w1.alloc (.cells #[.slice none 0 0] 28)) := bel_alloc hb1 _
    obtain ⟨pw, hpw⟩ : ∃ pw, pw = w1.heap.size := ⟨_, rfl⟩
    obtain ⟨w2, hw2⟩ : ∃ w2, w2 = w1.alloc (.cells #[.slice none 0 0] 28) := ⟨_, rfl⟩
    have hz2 : pw ≤ w2.heap.size := by rw [hw2, hpw]; simp
    rw [← hw2] at hb02 hwr
    rw [← hpw] at hwr
    have hpw1 : w.heap.size ≤ pw := by omega
    have HPW := Lib.hid hpw
    clear hpw hb1
    by_cases h255 : s.size ≤ 255
    · obtain ⟨T, hT⟩ : ∃ T, T = s := ⟨_, rfl⟩
      have hg2 : decide ((s.size : Int) > 255) = false := by simp; omega
      have hsT : sbytes T = (sbytes s).take 255 := by rw [hT, List.take_of_length_le (by rw [sbytes_len]; exact h255)]
      have hTs : T.size ≤ 255 := by rw [hT]; exact h255
      have HT := Lib.hid hT
      clear hT
      have hX0 := text_facts s T hsT
      have HW := Lib.hid hwr
      clear hwr
      go_wp2_with fail
      rw [← hw2, ← HPW.out]
      refine (wText_any pw pw _ _ _ HW.out hz2 s hs (by simp)).mono ?_
      rintro e w3 ⟨rfl, sv3, hw3, hm3⟩
      rw [List.nil_append] at hw3
      have hb3 := hm3.below HW.out hz2
      have hz3 := Nat.le_trans hz2 hb3.size
      have hb03 : Below w.heap.size w w3 := hb02.trans (hb3.mono hpw1)
      obtain ⟨P, hP⟩ : ∃ P, P = textOf (sbytes s) := ⟨_, rfl⟩
      rw [← hP] at hw3 hX0
      have hPl : P.length ≤ 256 := by rw [hP]; unfold textOf; simp; omega
      clear hm3 hb3 hP hw2
      go_wp2_with fail
      refine (wU8_any pw pw sv3 P _ (wr_keep hw3 ((Below.refl _ w3).alloc (Nat.le_refl _) _)) (by simp; omega) _ 1 1 [9] (row_one _ _ (by omega)) (fun h => by cases h) (by omega)).mono ?_
      rintro e w4 ⟨rfl, sv4, hw4, hm4⟩
      have hb4 := hm4.below (wr_keep hw3 ((Below.refl _ w3).alloc (Nat.le_refl _) _)) (by simp; omega)
      have hb04 : Below w.heap.size w w4 := ((hb03.alloc hb03.size _)).trans (hb4.mono hpw1)
      obtain ⟨X, hX⟩ : ∃ X, X = P ++ [9] := ⟨_, rfl⟩
      rw [← hX] at hw4 hX0
      obtain ⟨hXl, hXk, hXd, hXm⟩ := hX0
      clear hm4 hb4 hw3 hX hPl
      go_wp2_with fail
      refine (wBytes_any pw pw sv4 X _ hw4 (by omega)).mono ?_
      intro e w5 h5
      obtain ⟨a5, c5, rfl, hr5, hn5, _, hb5⟩ := retOwn_len h5
      have hb05 := bel_trans hb04 hb5
      have hXi : (X.length : Int) = (T.size : Int) + 2 := by omega
      have HXI := Lib.hid hXi
      obtain ⟨LX, hLX⟩ : ∃ LX, LX = X.length := ⟨_, rfl⟩
      rw [← hLX] at hr5 ⊢
      have HLX := Lib.hid hLX
      have HXL := Lib.hid hXl
      clear h5 hb5 hw4 hXi hb04 hLX hXl
      go_wp2_with fail
      rw [← HT.out]
      have hb6 : Below w5.heap.size w5 ((w5.alloc (.cells #[.string ⟨#[]⟩] 9)).alloc (.cells #[.int .u8 0] 5)) := bel_alloc (bel_alloc (Below.refl _ w5) _) _
      obtain ⟨hcG, hcM, hfG, hfM⟩ := two_new w5 (.string ⟨#[]⟩) (.int .u8 0) 9 5
      have hcall : ∀ (args : Array Value) (wx : World), (callFunc 43 args).run Try.prog wx = .ok (.enter 43 args) wx := fun args wx => by simp [go_sem]
      have hby := textsBy w5.heap.size (w5.heap.size + 1) T.size 9 _ _ _ X hcG hcM hfG hfM (by omega) hXk (by have := HXL.out; omega) hXm
      rw [hXd, strOf_sbytes] at hby
      have hrd6 := row_keep hr5 hb6 (Nat.le_refl _)
      have hX100 : LX ≤ 100000 := by have := HLX.out; have := HXL.out; omega
      have hrok := read_ok a5 LX c5 X _ _ _ _ hrd6 hn5 hX100 hcall hby
      with_reducible refine hrok.mono ?_
      rintro e w7 ⟨rfl, W2, hq, hb7⟩
      obtain ⟨hb57, hcG7, hcM7⟩ := setTwo_after hq hb7
      have hb07 := bel_trans hb05 hb57
      have hLL : ((LX : Int) == (T.size : Int) + 2) = true := by rw [HLX.out, HXI.out]; simp
      clear hq hb7 hb57 hcG hcM hfG hfM hb05 hr5
      go_wp2
      go_ret
      exact ⟨rfl, hb07⟩
    · have hg2 : decide ((s.size : Int) > 255) = true := by simp; omega
      have hmin : min 255 s.size = 255 := by omega
      obtain ⟨T, hT⟩ : ∃ T, T = s.extract 0 255 := ⟨_, rfl⟩
      have hsT : sbytes T = (sbytes s).take 255 := by rw [hT, sbytes_cut]
      have hTs : T.size ≤ 255 := by rw [hT]; simp; omega
      have HT := Lib.hid hT
      clear hT
      have hX0 := text_facts s T hsT
      have HW := Lib.hid hwr
      clear hwr
      go_wp2_with fail
      rw [← hw2, ← HPW.out]
      refine (wText_any pw pw _ _ _ HW.out hz2 s hs (by simp)).mono ?_
      rintro e w3 ⟨rfl, sv3, hw3, hm3⟩
      rw [List.nil_append] at hw3
      have hb3 := hm3.below HW.out hz2
      have hz3 := Nat.le_trans hz2 hb3.size
      have hb03 : Below w.heap.size w w3 := hb02.trans (hb3.mono hpw1)
      obtain ⟨P, hP⟩ : ∃ P, P = textOf (sbytes s) := ⟨_, rfl⟩
      rw [← hP] at hw3 hX0
      have hPl : P.length ≤ 256 := by rw [hP]; unfold textOf; simp; omega
      clear hm3 hb3 hP hw2
      go_wp2_with fail
      refine (wU8_any pw pw sv3 P _ (wr_keep hw3 ((Below.refl _ w3).alloc (Nat.le_refl _) _)) (by simp; omega) _ 1 1 [9] (row_one _ _ (by omega)) (fun h => by cases h) (by omega)).mono ?_
      rintro e w4 ⟨rfl, sv4, hw4, hm4⟩
      have hb4 := hm4.below (wr_keep hw3 ((Below.refl _ w3).alloc (Nat.le_refl _) _)) (by simp; omega)
      have hb04 : Below w.heap.size w w4 := ((hb03.alloc hb03.size _)).trans (hb4.mono hpw1)
      obtain ⟨X, hX⟩ : ∃ X, X = P ++ [9] := ⟨_, rfl⟩
      rw [← hX] at hw4 hX0
      obtain ⟨hXl, hXk, hXd, hXm⟩ := hX0
      clear hm4 hb4 hw3 hX hPl
      go_wp2_with fail
      refine (wBytes_any pw pw sv4 X _ hw4 (by omega)).mono ?_
      intro e w5 h5
      obtain ⟨a5, c5, rfl, hr5, hn5, _, hb5⟩ := retOwn_len h5
      have hb05 := bel_trans hb04 hb5
      have hXi : (X.length : Int) = (T.size : Int) + 2 := by omega
      have HXI := Lib.hid hXi
      obtain ⟨LX, hLX⟩ : ∃ LX, LX = X.length := ⟨_, rfl⟩
      rw [← hLX] at hr5 ⊢
      have HLX := Lib.hid hLX
      have HXL := Lib.hid hXl
      clear h5 hb5 hw4 hXi hb04 hLX hXl
      go_wp2_with fail
      rw [← HT.out]
      have hb6 : Below w5.heap.size w5 ((w5.alloc (.cells #[.string ⟨#[]⟩] 9)).alloc (.cells #[.int .u8 0] 5)) := bel_alloc (bel_alloc (Below.refl _ w5) _) _
      obtain ⟨hcG, hcM, hfG, hfM⟩ := two_new w5 (.string ⟨#[]⟩) (.int .u8 0) 9 5
      have hcall : ∀ (args : Array Value) (wx : World), (callFunc 43 args).run Try.prog wx = .ok (.enter 43 args) wx := fun args wx => by simp [go_sem]
      have hby := textsBy w5.heap.size (w5.heap.size + 1) T.size 9 _ _ _ X hcG hcM hfG hfM (by omega) hXk (by have := HXL.out; omega) hXm
      rw [hXd, strOf_sbytes] at hby
      have hrd6 := row_keep hr5 hb6 (Nat.le_refl _)
      have hX100 : LX ≤ 100000 := by have := HLX.out; have := HXL.out; omega
      have hrok := read_ok a5 LX c5 X _ _ _ _ hrd6 hn5 hX100 hcall hby
      with_reducible refine hrok.mono ?_
      rintro e w7 ⟨rfl, W2, hq, hb7⟩
      obtain ⟨hb57, hcG7, hcM7⟩ := setTwo_after hq hb7
      have hb07 := bel_trans hb05 hb57
      have hLL : ((LX : Int) == (T.size : Int) + 2) = true := by rw [HLX.out, HXI.out]; simp
      clear hq hb7 hb57 hcG hcM hfG hfM hb05 hr5
      go_wp2
      go_ret
      exact ⟨rfl, hb07⟩

end Go.Proofs.Yteemegigooafkaa
