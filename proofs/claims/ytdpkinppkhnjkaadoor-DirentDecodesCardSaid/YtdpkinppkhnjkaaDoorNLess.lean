/- Which name stands ahead: plain; names.Less. -/
import Derived.Test.YtdpkinppkhnjkaaDoorNLettersWalk
namespace Go.Proofs.YtdpkinppkhnjkaaDoor
open Go.RowKit

/-- Letter by letter; 't' where all letters are the same. -/
def lexB : List Nat → List Nat → Bool → Bool
  | [], [], t => t
  | [], _ :: _, _ => true
  | _ :: _, [], _ => false
  | x :: xs, y :: ys, t => if x = y then lexB xs ys t else decide (x < y)
def lessOf (a b : ByteArray) : Bool := lexB (runesOf a) (runesOf b) (Op.bytesLess a.toList b.toList)
theorem bytes_or : ∀ l m : List UInt8, (Op.bytesLess l m || Op.bytesLess m l) = !decide (l = m)
  | [], [] => rfl
  | [], _ :: _ => rfl
  | _ :: _, [] => rfl
  | a :: l, b :: m => by
    have ih := bytes_or l m
    simp only [Op.bytesLess]
    rcases (show a < b ∨ b < a ∨ a = b by rcases Nat.lt_trichotomy a.toNat b.toNat with h | h | h; exact .inl h; exact .inr (.inr (UInt8.toNat_inj.1 h)); exact .inr (.inl h)) with h | h | h
    · have hne : a ≠ b := fun e => by subst e; exact Nat.lt_irrefl _ h
      simp [h, hne]
    · have hne : a ≠ b := fun e => by subst e; exact Nat.lt_irrefl _ h
      simp [h, hne]
    · subst h
      have h0 : ¬ a < a := Nat.lt_irrefl _
      simp only [h0, decide_false, Bool.false_or, beq_self_eq_true, Bool.true_and, ih]
      simp
theorem bytes_and : ∀ l m : List UInt8, (Op.bytesLess l m && Op.bytesLess m l) = false
  | [], [] => rfl
  | [], _ :: _ => rfl
  | _ :: _, [] => rfl
  | a :: l, b :: m => by
    have ih := bytes_and l m
    simp only [Op.bytesLess]
    rcases (show a < b ∨ b < a ∨ a = b by rcases Nat.lt_trichotomy a.toNat b.toNat with h | h | h; exact .inl h; exact .inr (.inr (UInt8.toNat_inj.1 h)); exact .inr (.inl h)) with h | h | h
    · have hne : b ≠ a := fun e => by subst e; exact Nat.lt_irrefl _ h
      have h2 : ¬ b < a := Nat.not_lt.2 (Nat.le_of_lt h)
      simp [h2, hne]
    · have hne : a ≠ b := fun e => by subst e; exact Nat.lt_irrefl _ h
      have h2 : ¬ a < b := Nat.not_lt.2 (Nat.le_of_lt h)
      simp [h2, hne]
    · subst h
      have h0 : ¬ a < a := Nat.lt_irrefl _
      simp only [h0, decide_false, Bool.false_or, beq_self_eq_true, Bool.true_and, ih]
theorem bytes_trans : ∀ l m n : List UInt8, Op.bytesLess l m = true → Op.bytesLess m n = true → Op.bytesLess l n = true
  | l, [], n, h, _ => by cases l <;> simp [Op.bytesLess] at h
  | l, b :: m, [], _, h => by simp [Op.bytesLess] at h
  | [], b :: m, c :: n, _, _ => rfl
  | a :: l, b :: m, c :: n, h1, h2 => by
    have ih := bytes_trans l m n
    simp only [Op.bytesLess, Bool.or_eq_true, Bool.and_eq_true, decide_eq_true_eq, beq_iff_eq] at h1 h2 ⊢
    rcases h1 with h1 | ⟨h1, h1'⟩
    · rcases h2 with h2 | ⟨h2, h2'⟩
      · exact .inl (Nat.lt_trans h1 h2)
      · subst h2; exact .inl h1
    · subst h1
      rcases h2 with h2 | ⟨h2, h2'⟩
      · exact .inl h2
      · exact .inr ⟨h2, ih h1' h2'⟩
theorem lexB_or : ∀ (x y : List Nat) (t u : Bool), (lexB x y t || lexB y x u) = if x = y then (t || u) else true
  | [], [], t, u => by simp [lexB]
  | [], _ :: _, t, u => by simp [lexB]
  | _ :: _, [], t, u => by simp [lexB]
  | x :: xs, y :: ys, t, u => by
    have ih := lexB_or xs ys t u
    simp only [lexB]
    by_cases h : x = y
    · subst h; rw [if_pos rfl, if_pos rfl, ih]; simp
    · rw [if_neg h, if_neg (Ne.symm h), if_neg (fun e => h (by cases e; rfl))]
      simp; omega
theorem lexB_and : ∀ (x y : List Nat) (t u : Bool), (t && u) = false → (lexB x y t && lexB y x u) = false
  | [], [], t, u, h => by simpa [lexB] using h
  | [], _ :: _, t, u, _ => by simp [lexB]
  | _ :: _, [], t, u, _ => by simp [lexB]
  | x :: xs, y :: ys, t, u, h => by
    have ih := lexB_and xs ys t u h
    simp only [lexB]
    by_cases h : x = y
    · subst h; rw [if_pos rfl, if_pos rfl, ih]
    · rw [if_neg h, if_neg (Ne.symm h)]
      simp; omega
theorem lexB_trans : ∀ (x y z : List Nat) (t u v : Bool), (t = true → u = true → v = true) → lexB x y t = true → lexB y z u = true → lexB x z v = true
  | [], [], [], t, u, v, h, h1, h2 => h h1 h2
  | [], [], _ :: _, _, _, _, _, _, _ => rfl
  | [], _ :: _, [], _, _, _, _, _, h2 => by simp [lexB] at h2
  | [], _ :: _, _ :: _, _, _, _, _, _, _ => rfl
  | _ :: _, [], _, _, _, _, _, h1, _ => by simp [lexB] at h1
  | _ :: _, _ :: _, [], _, _, _, _, _, h2 => by simp [lexB] at h2
  | x :: xs, y :: ys, z :: zs, t, u, v, h, h1, h2 => by
    have ih := lexB_trans xs ys zs t u v h
    simp only [lexB] at h1 h2 ⊢
    by_cases e1 : x = y
    · subst e1
      rw [if_pos rfl] at h1
      by_cases e2 : x = z
      · subst e2; rw [if_pos rfl] at h2 ⊢; exact ih h1 h2
      · rw [if_neg e2] at h2 ⊢; exact h2
    · rw [if_neg e1, decide_eq_true_eq] at h1
      by_cases e2 : y = z
      · subst e2; rw [if_neg e1]; exact decide_eq_true h1
      · rw [if_neg e2, decide_eq_true_eq] at h2
        rw [if_neg (by omega)]; exact decide_eq_true (by omega)
theorem lessOf_or (a b : ByteArray) : (lessOf a b || lessOf b a) = !(a.toList == b.toList) := by
  unfold lessOf
  rw [lexB_or, bytes_or]
  by_cases h : runesOf a = runesOf b
  · rw [if_pos h, Bool.eq_iff_iff]; simp
  · rw [if_neg h]
    have : (a.toList == b.toList) = false := toList_ne fun e => h (by rw [e])
    rw [this]; rfl
theorem lessOf_and (a b : ByteArray) : (lessOf a b && lessOf b a) = false := lexB_and _ _ _ _ (bytes_and _ _)
theorem lessOf_trans {a b c : ByteArray} (h1 : lessOf a b = true) (h2 : lessOf b c = true) : lessOf a c = true := lexB_trans _ _ _ _ _ _ (bytes_trans _ _ _) h1 h2

theorem bneI {x y : Nat} (h : x ≠ y) : ((x : Int) != (y : Int)) = true := by rw [bne_iff_ne]; omega
set_option maxRecDepth 100000 in
set_option maxHeartbeats 1000000 in
theorem less_big (a b : ByteArray) (w : World) (_ha : a.size ≤ 70368744177664) (hb : b.size ≤ 70368744177664) :
    Calls Tryd.prog 29 #[.string a, .string b] w fun e w' => e = .returned (.bool (lessOf a b)) ∧ Below w.heap.size w w' := by
  obtain ⟨ans, hans⟩ : ∃ ans, lessOf a b = ans := ⟨_, rfl⟩
  rw [hans]
  unfold lessOf at hans
  obtain ⟨t, ht⟩ : ∃ t, Op.bytesLess a.toList b.toList = t := ⟨_, rfl⟩
  rw [ht] at hans
  have hcv := conv_runes b (by omega)
  obtain ⟨hb1, hrow⟩ := runes_row w b (by omega)
  have hle := runesOf_le b
  obtain ⟨ys, hys⟩ : ∃ ys, runesOf b = ys := ⟨_, rfl⟩
  rw [hys] at hans hrow hle
  have hcv2 := fun w => hcv w
  simp only [hys] at hcv2
  obtain ⟨N, hN⟩ : ∃ N, ys.length = N := ⟨_, rfl⟩
  rw [hN] at hrow hle
  simp only [hN] at hcv2
  have HROW := Lib.hid hrow
  have HB1 := Lib.hid hb1
  have HN := Lib.hid hN
  have HANS : Hid (lexB ((scan a a.size 0).map (·.2.1)) (ys.drop 0) t = ans) := Lib.hid hans
  have hN9 : (N : Int) ≤ 70368744177664 := by omega
  clear hans hrow hb1 hys hN hcv
  go_enter Tryd.func29, Tryd.ntmps29
  go_wp2_with fail
  obtain ⟨w1, hw1⟩ : ∃ w1, runesW w b = w1 := ⟨_, rfl⟩
  rw [hw1] at HROW HB1 ⊢
  obtain ⟨C, hC⟩ : ∃ C, capR w b = C := ⟨_, rfl⟩
  rw [hC] at HROW ⊢
  clear hw1 hC hcv2
  have HT := Lib.hid ht
  clear ht
  go_loopw [6] (fun nv wr => ∃ pos f k, wr = w1.iter a pos ∧ a.size ≤ pos + f ∧ nv = .int .i64 ((k : Nat) : Int) ∧ k ≤ N ∧ Hid (lexB ((scan a f pos).map (·.2.1)) (ys.drop k) t = ans)) (fun _ wr => a.size - wr.iterPos w1.heap.size)
  case atStart => exact ⟨0, a.size, 0, rfl, by omega, rfl, by omega, HANS⟩
  case round =>
    obtain ⟨pos, f, k, rfl, hf, rfl, hk, HA⟩ := hrel
    have hkl : k ≤ ys.length := by have := HN.out; omega
    by_cases hp : pos < a.size
    · have hnx : ∀ ty, (Instr.next (.pointer (some ⟨w1.heap.size, 0, none⟩)) true ty).run Tryd.prog (w1.iter a pos) = _ := fun ty => run_next_any w1 a pos ty hp
      have hw := Lib.decode_width_pos a pos hp
      obtain ⟨f, rfl⟩ : ∃ g, f = g + 1 := ⟨f - 1, by omega⟩
      have hsc := HA.out
      rw [scan_cons hp, List.map_cons] at hsc
      generalize Utf8.decode a pos = dc at *
      obtain ⟨c, j⟩ := dc
      simp only at hnx hw hsc
      rcases Nat.lt_or_ge k N with hkn | hkn
      · have hky : k < ys.length := by have := HN.out; omega
        obtain ⟨b1, o1, he, hc⟩ := HROW.out.2.2.2.2 (by omega)
        cases he
        have q := nbelow_cell (iter_below w1 a (pos + j)) (hc k hkn)
        have hcn := HROW.out.2.2.1
        rw [List.drop_eq_getElem_cons hky] at hsc
        obtain ⟨y, hy⟩ : ∃ y, ys.getD k 0 = y := ⟨_, rfl⟩
        rw [← getD_in _ _ hky] at hsc
        rw [hy] at q hsc
        rw [Nat.zero_add] at q
        have hkb : ((k : Int) == (N : Int)) = false := by rw [beq_eq_false_iff_ne]; omega
        have hki : (k : Int) < (N : Int) := by omega
        simp only [lexB] at hsc
        by_cases hxy : c = y
        · subst hxy
          rw [if_pos rfl] at hsc
          have HSC := Lib.hid hsc
          clear hsc hc hy
          go_wp2_with fail
          exact ⟨⟨pos + j, f, k + 1, rfl, by omega, by go_num, by omega, HSC⟩, by simp; omega⟩
        · rw [if_neg hxy] at hsc
          have HSC := Lib.hid hsc
          have hne := bneI hxy
          clear hsc hc hy hxy
          go_wp2_with fail
          go_ret
          exact ⟨by rw [← HSC.out]; rfl, nbel_trans HB1.out (iter_below _ _ _)⟩
      · have hkN : k = N := by omega
        have hd : ys.drop k = [] := List.drop_of_length_le (by have := HN.out; omega)
        rw [hd] at hsc
        simp only [lexB] at hsc
        have HSC := Lib.hid hsc
        subst hkN
        clear hsc hd
        go_wp2_with fail
        go_ret
        exact ⟨by rw [← HSC.out]; rfl, nbel_trans HB1.out (iter_below _ _ _)⟩
    · have hnx : ∀ ty, (Instr.next (.pointer (some ⟨w1.heap.size, 0, none⟩)) true ty).run Tryd.prog (w1.iter a pos) = _ := fun ty => run_next_end w1 a pos ty hp
      have hsc := HA.out
      rw [scan_end a f pos hp] at hsc
      rcases Nat.lt_or_ge k N with hkn | hkn
      · have hky : k < ys.length := by have := HN.out; omega
        rw [List.drop_eq_getElem_cons hky] at hsc
        simp only [List.map_nil, lexB] at hsc
        have HSC := Lib.hid hsc
        have hki : (k : Int) < (N : Int) := by omega
        clear hsc
        go_wp2_with fail
        go_ret
        exact ⟨by rw [← HSC.out]; rfl, nbel_trans HB1.out (iter_below _ _ _)⟩
      · have hd : ys.drop k = [] := List.drop_of_length_le (by have := HN.out; omega)
        rw [hd] at hsc
        simp only [List.map_nil, lexB] at hsc
        have HSC := Lib.hid (HT.out.trans hsc)
        have hki : ¬ (k : Int) < (N : Int) := by omega
        clear hsc hd
        go_wp2_with fail
        go_ret
        exact ⟨by rw [← HSC.out]; rfl, nbel_trans HB1.out (iter_below _ _ _)⟩

theorem less_any (a b : ByteArray) (w : World) (ha : a.size ≤ 1000) (hb : b.size ≤ 1000) :
    Calls Tryd.prog 29 #[.string a, .string b] w fun e w' => e = .returned (.bool (lessOf a b)) ∧ Below w.heap.size w w' := less_big a b w (by omega) (by omega)

end Go.Proofs.YtdpkinppkhnjkaaDoor
