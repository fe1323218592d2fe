/- names.letter, names.choice. -/
import Derived.Test.YtjldpgcbaibpcaaDoorNBase
import Derived.Test.YtjldpgcbaibpcaaDoorNm
namespace Go.Proofs.YtjldpgcbaibpcaaDoor
open Go.RowKit

/-- A slice value that holds these letters. -/
def RestAt (w : World) (v : Value) (ns : List Nat) : Prop := ∃ a c, v = .slice a ns.length c ∧ Row32 w a ns.length c ns
theorem restAt_below {w w' : World} {v : Value} {ns : List Nat} (h : RestAt w v ns) (hb : Below w.heap.size w w') : RestAt w' v ns := by
  obtain ⟨a, c, h1, h2⟩ := h
  exact ⟨a, c, h1, row32_below h2 hb⟩
theorem restAt_nil (w : World) : RestAt w (.slice none 0 0) [] := ⟨none, 0, rfl, rfl, (fun x hx => by cases hx), Nat.le_refl _, Nat.zero_le _, (fun h => absurd h (Nat.lt_irrefl _))⟩
theorem rest_cut {w : World} {b off n c k : Nat} {ns : List Nat} (h : Row32 w (some ⟨b, off, none⟩) n c ns) (hk : k ≤ n) : RestAt w (.slice (some (cutA b off c k)) (n - k) (c - k)) (ns.drop k) := by
  have h1 := row32_cut h hk
  have h2 : (ns.drop k).length = n - k := h1.1
  exact ⟨_, _, by rw [h2], by rw [h2]; exact h1⟩
theorem run_cut1 (w : World) (b off n c : Nat) (hk : 1 ≤ n) : (Instr.slice 52 (.slice (some ⟨b, off, none⟩) n c) (some (.int .i64 1)) none none).run Tryd.prog w = .ok (.slice (some (cutA b off c 1)) (n - 1) (c - 1)) w := run_cut w b off n c 1 hk
theorem run_cut2 (w : World) (b off n c : Nat) (hk : 2 ≤ n) : (Instr.slice 52 (.slice (some ⟨b, off, none⟩) n c) (some (.int .i64 2)) none none).run Tryd.prog w = .ok (.slice (some (cutA b off c 2)) (n - 2) (c - 2)) w := run_cut w b off n c 2 hk
/-- A slice that holds these letters wherever the one slice holds its own. -/
def Sub (a : Option Addr) (n cap : Nat) (ns : List Nat) (v : Value) (r : List Nat) : Prop := ∀ w, Row32 w a n cap ns → RestAt w v r
theorem sub_cut {b off n c k : Nat} {ns : List Nat} (hk : k ≤ n) : Sub (some ⟨b, off, none⟩) n c ns (.slice (some (cutA b off c k)) (n - k) (c - k)) (ns.drop k) := fun _ h => rest_cut h hk
theorem sub_trans {a a2 : Option Addr} {n cap c2 : Nat} {ns r r2 : List Nat} {v : Value} (h : Sub a n cap ns (.slice a2 r.length c2) r) (k : Sub a2 r.length c2 r v r2) : Sub a n cap ns v r2 := fun w hw => by
  obtain ⟨a3, c3, e, hr⟩ := h w hw
  cases e
  exact k w hr
def LetterRet (a : Option Addr) (n cap : Nat) (ns : List Nat) (w : World) (c : Nat) (r : List Nat) (e : Ending) (w' : World) : Prop := ∃ v, e = .returned (.tuple #[.int .i32 (c : Int), v, .bool true]) ∧ Sub a n cap ns v r ∧ Below w.heap.size w w'

theorem bel_drewN (w : World) (q : Nat) : Below w.heap.size w (w.drewN q) := ⟨rfl, rfl, rfl, Nat.le_refl _, fun _ _ => rfl⟩
set_option maxHeartbeats 400000 in
theorem letter_one (a : Option Addr) (n cap : Nat) (ns : List Nat) (w : World) (h : Row32 w a n cap ns) (h0 : 0 < n) (h1 : ns.getD 0 0 ≠ 92) :
    Calls Tryd.prog 50 #[.slice a n cap] w (LetterRet a n cap ns w (ns.getD 0 0) (ns.drop 1)) := by
  obtain ⟨hl, hx, hc, hm, hr⟩ := h
  obtain ⟨b, off, rfl, hcell⟩ := hr h0
  have hc0 := hcell 0 h0
  rw [Nat.add_zero] at hc0
  have hb0 := hx (ns.getD 0 0) (by rw [getD_in _ _ (by omega)]; exact List.getElem_mem _)
  generalize ns.getD 0 0 = x at *
  have hne : ((x : Int) != 92) = true := by rw [bne_iff_ne]; omega
  have hsl := fun w => run_cut1 w b off n cap h0
  have hi0 : (0 : Int) < (n : Int) := by omega
  clear hcell hr hx hl
  go_enter Tryd.func50, Tryd.ntmps50
  go_wp2
  go_quiet (fail)
  go_wp2
  go_ret3
  exact ⟨_, rfl, sub_cut h0, bel_drewN _ _⟩
set_option maxHeartbeats 400000 in
theorem letter_two (a : Option Addr) (n cap : Nat) (ns : List Nat) (w : World) (h : Row32 w a n cap ns) (h0 : 1 < n) (h1 : ns.getD 0 0 = 92) :
    Calls Tryd.prog 50 #[.slice a n cap] w (LetterRet a n cap ns w (ns.getD 1 0) (ns.drop 2)) := by
  obtain ⟨hl, hx, hc, hm, hr⟩ := h
  obtain ⟨b, off, rfl, hcell⟩ := hr (by omega)
  have hc0 := hcell 0 (by omega)
  rw [Nat.add_zero, h1] at hc0
  have hc1 := hcell 1 h0
  generalize ns.getD 1 0 = y at *
  have hsl := fun w => run_cut2 w b off n cap h0
  have hi0 : (0 : Int) < (n : Int) := by omega
  have hi1 : (1 : Int) < (n : Int) := by omega
  have hn1 : ((n : Int) == 1) = false := by rw [beq_eq_false_iff_ne]; omega
  have hnm : n ≤ 9223372036854775807 := by unfold maxLen at hm; omega
  clear hcell hr hx hl h1
  go_enter Tryd.func50, Tryd.ntmps50
  go_wp2
  go_quiet (fail)
  go_wp2
  go_ret3
  exact ⟨_, rfl, sub_cut h0, bel_drewN _ _⟩
set_option maxHeartbeats 400000 in
theorem letter_none (a : Option Addr) (n cap : Nat) (ns : List Nat) (w : World) (h : Row32 w a n cap ns) (h0 : n = 1) (h1 : ns.getD 0 0 = 92) :
    Calls Tryd.prog 50 #[.slice a n cap] w fun e w' => e = .returned (.tuple #[.int .i32 0, .slice none 0 0, .bool false]) ∧ w = w' := by
  obtain ⟨hl, hx, hc, hm, hr⟩ := h
  subst h0
  obtain ⟨b, off, rfl, hcell⟩ := hr (by omega)
  have hc0 := hcell 0 (by omega)
  rw [Nat.add_zero, h1] at hc0
  clear hcell hr hx hl h1
  go_enter Tryd.func50, Tryd.ntmps50
  go_wp2
  go_ret3
  exact ⟨rfl, rfl⟩
/-- names.letter, all its ways. -/
def LetterOut (a : Option Addr) (n cap : Nat) (ns : List Nat) (w : World) (e : Ending) (w' : World) : Prop :=
  match Nm.letter ns with
  | some (c, r) => LetterRet a n cap ns w c r e w' ∧ c ≤ 1114111
  | none => e = .returned (.tuple #[.int .i32 0, .slice none 0 0, .bool false]) ∧ Below w.heap.size w w'
theorem letter_any (a : Option Addr) (n cap : Nat) (ns : List Nat) (w : World) (h : Row32 w a n cap ns) (h0 : 0 < n) :
    Calls Tryd.prog 50 #[.slice a n cap] w (LetterOut a n cap ns w) := by
  have hl := h.1
  have hb := h.2.1
  unfold LetterOut
  match ns, hl with
  | [], hl => exact absurd h0 (by simp at hl; omega)
  | x :: l, hl =>
    by_cases hx : x = 92
    · subst hx
      match l, hl with
      | [], hl => exact (letter_none a n cap _ w h (by simp at hl; omega) rfl).mono fun e w' ⟨h1, h2⟩ => ⟨h1, by rw [← h2]; exact Below.refl _ _⟩
      | y :: l', hl => exact (letter_two a n cap _ w h (by simp at hl; omega) rfl).mono fun e w' h1 => ⟨h1, hb y (by simp)⟩
    · have e1 : Nm.letter (x :: l) = some (x, l) := by simp [Nm.letter, hx]
      rw [e1]
      exact (letter_one a n cap _ w h h0 hx).mono fun e w' h1 => ⟨h1, hb x (by simp)⟩

def ChoiceRet (a : Option Addr) (n cap : Nat) (ns : List Nat) (w : World) (s : Nat × Nat) (r : List Nat) (e : Ending) (w' : World) : Prop := ∃ v, e = .returned (.tuple #[.agg #[.int .i32 (s.1 : Int), .int .i32 (s.2 : Int)], v, .bool true]) ∧ Sub a n cap ns v r ∧ Below w.heap.size w w'
def ChoiceOut (a : Option Addr) (n cap : Nat) (ns : List Nat) (w : World) (e : Ending) (w' : World) : Prop :=
  match Nm.choice ns with
  | some (s, r) => ChoiceRet a n cap ns w s r e w' ∧ s.1 ≤ 1114111 ∧ s.2 ≤ 1114111
  | none => e = .returned (.tuple #[.agg #[.int .i32 0, .int .i32 0], .slice none 0 0, .bool false]) ∧ Below w.heap.size w w'
theorem span_new {w w1 : World} {u v : Value} {t : TypeId} (hb : Below (w.alloc (.cells #[u, v] t)).heap.size (w.alloc (.cells #[u, v] t)) w1) : w1.cell? ⟨w.heap.size, 0, none⟩ = some u ∧ w1.cell? ⟨w.heap.size, 1, none⟩ = some v ∧ w1.frozen? ⟨w.heap.size, 0, none⟩ = false ∧ w1.frozen? ⟨w.heap.size, 1, none⟩ = false := by
  have h : w1.heap[w.heap.size]? = some (.cells #[u, v] t (0, 0)) := by
    rw [hb.block w.heap.size (by simp)]
    show (w.heap.push _)[w.heap.size]? = _
    simp
  refine ⟨?_, ?_, ?_, ?_⟩ <;> simp [World.cell?, World.frozen?, h]
theorem bel_two {w w1 : World} {u v : Value} {t : TypeId} (hb : Below (w.alloc (.cells #[u, v] t)).heap.size (w.alloc (.cells #[u, v] t)) w1) (x y : Value) : Below w.heap.size w ((w1.setCell ⟨w.heap.size, 0, none⟩ x).setCell ⟨w.heap.size, 1, none⟩ y) :=
  (((bel_alloc (Below.refl _ w) _).trans (hb.mono (by simp))).setCell (p := ⟨w.heap.size, 0, none⟩) (Nat.le_refl _) x).setCell (p := ⟨w.heap.size, 1, none⟩) (Nat.le_refl _) y
set_option maxHeartbeats 400000 in
theorem choice_none (a : Option Addr) (n cap : Nat) (ns : List Nat) (w : World) (h : Row32 w a n cap ns) (h0 : 0 < n) (hl : Nm.letter ns = none) :
    Calls Tryd.prog 57 #[.slice a n cap] w fun e w' => e = .returned (.tuple #[.agg #[.int .i32 0, .int .i32 0], .slice none 0 0, .bool false]) ∧ Below w.heap.size w w' := by
  have HL := letter_any a n cap ns
  unfold LetterOut at HL
  rw [hl] at HL
  have H := Lib.hid HL
  have HH := Lib.hid h
  clear HL h hl
  have hnm : n ≤ 9223372036854775807 := by have := HH.out.2.2.1; have := HH.out.2.2.2.1; unfold maxLen at *; omega
  go_enter Tryd.func57, Tryd.ntmps57
  go_wp2_with fail
  refine (H.out _ (row32_below HH.out (bel_alloc (Below.refl _ _) _)) h0).mono ?_
  rintro e w1 ⟨rfl, hb1⟩
  obtain ⟨hc0, hc1, hf0, hf1⟩ := span_new hb1
  go_wp2
  exact bodyPost_ret (v := .tuple #[.agg #[.int .i32 0, .int .i32 0], .slice none 0 0, .bool false]) (by simp [results, Tryd.results57, go_sem, hc0, hc1]) rfl ⟨rfl, bel_two hb1 _ _⟩
def choiceOf (c : Nat) (r : List Nat) : (Nat × Nat) × List Nat := if 1 < r.length ∧ r.getD 0 0 = 45 ∧ r.getD 1 0 ≠ 93 then ((c, r.getD 1 0), r.drop 2) else ((c, c), r)
theorem choiceOf_no {c : Nat} {r : List Nat} (h : ¬ (1 < r.length ∧ r.getD 0 0 = 45 ∧ r.getD 1 0 ≠ 93)) : choiceOf c r = ((c, c), r) := by unfold choiceOf; rw [if_neg h]
theorem choiceOf_yes {c : Nat} {r : List Nat} (h : 1 < r.length ∧ r.getD 0 0 = 45 ∧ r.getD 1 0 ≠ 93) : choiceOf c r = ((c, r.getD 1 0), r.drop 2) := by unfold choiceOf; rw [if_pos h]
set_option maxRecDepth 100000 in
set_option maxHeartbeats 1000000 in
theorem choice_some (a : Option Addr) (n cap : Nat) (ns : List Nat) (w : World) (h : Row32 w a n cap ns) (h0 : 0 < n) (c : Nat) (r : List Nat) (hl : Nm.letter ns = some (c, r)) :
    Calls Tryd.prog 57 #[.slice a n cap] w
      (ChoiceRet a n cap ns w (choiceOf c r).1 (choiceOf c r).2) := by
  have HL := letter_any a n cap ns
  unfold LetterOut at HL
  rw [hl] at HL
  have H := Lib.hid HL
  have HH := Lib.hid h
  clear HL h hl
  have hnm : n ≤ 9223372036854775807 := by have := HH.out.2.2.1; have := HH.out.2.2.2.1; unfold maxLen at *; omega
  go_enter Tryd.func57, Tryd.ntmps57
  go_wp2_with fail
  refine (H.out _ (row32_below HH.out (bel_alloc (Below.refl _ _) _)) h0).mono ?_
  rintro e w1 ⟨⟨v, rfl, hsub, hb1⟩, hc9⟩
  obtain ⟨k0, k1, hf0, hf1⟩ := span_new hb1
  obtain ⟨a2, c2, rfl, hrow⟩ := hsub w1 (row32_below (row32_below HH.out (bel_alloc (Below.refl _ _) _)) hb1)
  have HS := Lib.hid hsub
  clear hsub
  obtain ⟨_, hx, hmc, hcm, hr⟩ := hrow
  have hmm : r.length ≤ 9223372036854775807 := by unfold maxLen at hcm; omega
  by_cases hm : 1 < r.length
  · obtain ⟨b, off, rfl, hcell⟩ := hr (by omega)
    have q0 := hcell 0 (by omega)
    have q1 := hcell 1 hm
    rw [Nat.add_zero] at q0
    have HC := Lib.hid (fun h => choiceOf_no (c := c) (r := r) h)
    have HC2 := Lib.hid (fun h => choiceOf_yes (c := c) (r := r) h)
    obtain ⟨x0, hx0⟩ : ∃ x0, r.getD 0 0 = x0 := ⟨_, rfl⟩
    obtain ⟨x1, hx1⟩ : ∃ x1, r.getD 1 0 = x1 := ⟨_, rfl⟩
    obtain ⟨m, hme⟩ : ∃ m, r.length = m := ⟨_, rfl⟩
    rw [hx0] at q0
    rw [hx1] at q1
    rw [hme] at hm hmm hmc ⊢
    have HX0 := Lib.hid hx0
    have HX1 := Lib.hid hx1
    have HME := Lib.hid hme
    have hsl := fun w => run_cut2 w b off m c2 hm
    have hi0 : (0 : Int) < (m : Int) := by omega
    have hi1 : (1 : Int) < (m : Int) := by omega
    have HS2 : Hid (Sub a n cap ns (.slice (some ⟨b, off, none⟩) m c2) r) := by show Sub _ _ _ _ _ _; rw [← hme]; exact HS.out
    have HS3 : Hid (Sub a n cap ns (.slice (some (cutA b off c2 2)) (m - 2) (c2 - 2)) (r.drop 2)) := by
      show Sub _ _ _ _ _ _
      rw [← hme]
      exact sub_trans HS.out (sub_cut (by omega))
    clear hcell hr hx hx0 hx1 hme
    by_cases e0 : x0 = 45
    · have d0 : ((x0 : Int) == 45) = true := by rw [beq_iff_eq]; omega
      by_cases e1 : x1 = 93
      · have d1 : ((x1 : Int) != 93) = false := by rw [bne_eq_false_iff_eq]; omega
        have HO := Lib.hid (HC.out (fun h => h.2.2 (HX1.out.trans e1)))
        clear e0 e1
        go_wp2
        exact bodyPost_ret (v := .tuple #[.agg #[.int .i32 (c : Int), .int .i32 (c : Int)], .slice (some ⟨b, off, none⟩) m c2, .bool true]) (by simp [results, Tryd.results57, go_sem, k0, k1]) rfl ⟨_, by rw [HO.out], by rw [HO.out]; exact HS2.out, bel_two hb1 _ _⟩
      · have d1 : ((x1 : Int) != 93) = true := by rw [bne_iff_ne]; omega
        have HO := Lib.hid (HC2.out ⟨by rw [HME.out]; exact hm, HX0.out.trans e0, fun h => e1 (HX1.out.symm.trans h)⟩)
        clear e0 e1
        go_wp2
        go_region
        go_wp2
        exact bodyPost_ret (v := .tuple #[.agg #[.int .i32 (c : Int), .int .i32 (x1 : Int)], .slice (some (cutA b off c2 2)) (m - 2) (c2 - 2), .bool true]) (by simp [results, Tryd.results57, go_sem, k0, k1]) rfl ⟨_, by rw [HO.out, HX1.out], by rw [HO.out]; exact HS3.out, (bel_two hb1 _ _).drew⟩
    · have d0 : ((x0 : Int) == 45) = false := by rw [beq_eq_false_iff_ne]; omega
      have HO := Lib.hid (HC.out (fun h => e0 (HX0.out.symm.trans h.2.1)))
      clear e0
      go_wp2
      exact bodyPost_ret (v := .tuple #[.agg #[.int .i32 (c : Int), .int .i32 (c : Int)], .slice (some ⟨b, off, none⟩) m c2, .bool true]) (by simp [results, Tryd.results57, go_sem, k0, k1]) rfl ⟨_, by rw [HO.out], by rw [HO.out]; exact HS2.out, bel_two hb1 _ _⟩
  · have HO := Lib.hid (choiceOf_no (c := c) (r := r) (fun h => hm h.1))
    go_wp2
    exact bodyPost_ret (v := .tuple #[.agg #[.int .i32 (c : Int), .int .i32 (c : Int)], .slice a2 r.length c2, .bool true]) (by simp [results, Tryd.results57, go_sem, k0, k1]) rfl ⟨_, by rw [HO.out], by rw [HO.out]; exact HS.out, bel_two hb1 _ _⟩

theorem letter_sub {l : List Nat} {c : Nat} {r : List Nat} (h : Nm.letter l = some (c, r)) : ∀ x ∈ r, x ∈ l := by
  cases l with
  | nil => cases h
  | cons x l =>
    simp only [Nm.letter] at h
    split at h
    · cases l with
      | nil => cases h
      | cons y l' => simp only [Option.some.injEq, Prod.mk.injEq] at h; intro z hz; rw [← h.2] at hz; simp [hz]
    · simp only [Option.some.injEq, Prod.mk.injEq] at h; intro z hz; rw [← h.2] at hz; simp [hz]
theorem choice_of {ns : List Nat} {c : Nat} {r : List Nat} (h : Nm.letter ns = some (c, r)) : Nm.choice ns = some (choiceOf c r) := by
  unfold Nm.choice choiceOf
  rw [h]
  simp only
  split <;> rfl
theorem choiceOf_bd {c : Nat} {r : List Nat} (hc : c ≤ 1114111) (hr : ∀ x ∈ r, x ≤ 1114111) : (choiceOf c r).1.1 ≤ 1114111 ∧ (choiceOf c r).1.2 ≤ 1114111 := by
  unfold choiceOf
  split
  · rename_i h2
    refine ⟨hc, hr _ ?_⟩
    rw [getD_in _ _ h2.1]
    exact List.getElem_mem _
  · exact ⟨hc, hc⟩
theorem choice_any (a : Option Addr) (n cap : Nat) (ns : List Nat) (w : World) (h : Row32 w a n cap ns) (h0 : 0 < n) :
    Calls Tryd.prog 57 #[.slice a n cap] w (ChoiceOut a n cap ns w) := by
  have hb := h.2.1
  unfold ChoiceOut
  cases hl : Nm.letter ns with
  | none =>
    have e1 : Nm.choice ns = none := by unfold Nm.choice; rw [hl]
    rw [e1]
    exact choice_none a n cap ns w h h0 hl
  | some cr =>
    obtain ⟨c, r⟩ := cr
    rw [choice_of hl]
    have hc := hb c (Nm.letter_mem hl)
    exact (choice_some a n cap ns w h h0 c r hl).mono fun e w' h1 => ⟨h1, choiceOf_bd hc fun x hx => hb x (letter_sub hl x hx)⟩

end Go.Proofs.YtjldpgcbaibpcaaDoor
