/- Patterns of one letter each, and one star: plain. -/
import Derived.Test.YtjldpgcbaibpcaaDoorNSpell
namespace Go.Proofs.YtjldpgcbaibpcaaDoor.Nm

def lit (c : Nat) : Part := ⟨false, false, [(c, c)]⟩
def star : Part := ⟨true, false, []⟩
/-- Each letter behind a reversed stroke. -/
def strokes (l : List Nat) : List Nat := l.flatMap fun c => [92, c]
theorem strokes_cons (c : Nat) (l : List Nat) : strokes (c :: l) = 92 :: c :: strokes l := rfl
theorem strokes_len (l : List Nat) : (strokes l).length = 2 * l.length := by
  induction l with
  | nil => rfl
  | cons c l ih => rw [strokes_cons, List.length_cons, List.length_cons, ih, List.length_cons]; omega
theorem first_stroke (c : Nat) (l : List Nat) : first (92 :: c :: l) = some (lit c, l) := rfl
theorem first_star (l : List Nat) : first (42 :: l) = some (star, l) := rfl
theorem parse_more : ∀ (f g : Nat) (l : List Nat) (ps : List Part), f ≤ g → parse f l = some ps → parse g l = some ps
  | 0, _, _, _, _, h => by cases h
  | f + 1, 0, _, _, h, _ => by omega
  | f + 1, g + 1, l, ps, hfg, h => by
    unfold parse at h ⊢
    split at h
    · rename_i h0; rw [if_pos h0]; exact h
    · rename_i h0
      rw [if_neg h0]
      obtain ⟨pr, hf, h⟩ := Option.bind_eq_some_iff.1 h
      obtain ⟨qs, hq, h⟩ := Option.map_eq_some_iff.1 h
      rw [hf, Option.bind_some, parse_more f g _ _ (by omega) hq, Option.map_some, h]
theorem parse_strokes : ∀ (xs l : List Nat) (ps : List Part) (f : Nat), parse f l = some ps → parse (f + xs.length) (strokes xs ++ l) = some (xs.map lit ++ ps)
  | [], l, ps, f, h => h
  | c :: xs, l, ps, f, h => by
    have ih := parse_strokes xs l ps f h
    rw [List.length_cons, ← Nat.add_assoc, parse, if_neg (by simp [strokes_cons]), strokes_cons, List.cons_append, List.cons_append, first_stroke, Option.bind_some, ih]
    rfl
theorem parse_star (f : Nat) (l : List Nat) (ps : List Part) (h : parse f l = some ps) : parse (f + 1) (42 :: l) = some (star :: ps) := by
  rw [parse, if_neg (by simp), first_star, Option.bind_some, h]
  rfl

theorem takes_lit (c x : Nat) : takes (lit c) x = decide (c = x) := by
  unfold takes lit
  simp only [List.any_cons, List.any_nil, Bool.or_false]
  by_cases h : c = x
  · subst h; simp
  · rw [decide_eq_false h]
    have : (decide (c ≤ x) && decide (x ≤ c)) = false := by
      rw [Bool.and_eq_false_iff, decide_eq_false_iff_not, decide_eq_false_iff_not]; omega
    rw [this]; rfl
theorem anyAt_lit {xs : List Nat} {ps : List Part} {i : Nat} (h : i < xs.length) : anyAt (xs.map lit ++ ps) i = false := by
  unfold anyAt
  rw [List.getElem?_append_left (by simpa using h), List.getElem?_map, List.getElem?_eq_getElem h]
  rfl
theorem takesAt_lit {xs : List Nat} {ps : List Part} {i x : Nat} (h : i < xs.length) : takesAt (xs.map lit ++ ps) i x = decide (xs[i] = x) := by
  unfold takesAt
  rw [List.getElem?_append_left (by simpa using h), List.getElem?_map, List.getElem?_eq_getElem h]
  exact takes_lit _ _
/-- Letters of their own are taken one by one. -/
theorem fit_lits (xs ys : List Nat) (ps : List Part) (l t f : Nat) : ∀ k i, k + i = xs.length → fit (f + k) (xs.map lit ++ ps) (xs ++ ys) i l t i = fit f (xs.map lit ++ ps) (xs ++ ys) xs.length l t xs.length
  | 0, i, h => by
    have : i = xs.length := by omega
    subst this; rfl
  | k + 1, i, h => by
    have hi : i < xs.length := by omega
    have hg : (xs ++ ys).getD i 0 = xs[i] := by rw [List.getD_eq_getElem?_getD, List.getElem?_append_left hi, List.getElem?_eq_getElem hi]; rfl
    rw [← Nat.add_assoc, fit_lt (by simp; omega), anyAt_lit hi, if_neg (by simp), takesAt_lit hi, hg, if_pos (by simp), fit_lits xs ys ps l t f k (i + 1) (by omega)]
theorem anyAt_end (xs : List Nat) : anyAt (xs.map lit) xs.length = false := by unfold anyAt; rw [List.getElem?_eq_none (by simp)]
theorem takesAt_end (xs : List Nat) (c : Nat) : takesAt (xs.map lit) xs.length c = false := by unfold takesAt; rw [List.getElem?_eq_none (by simp)]
theorem fit_self (xs : List Nat) (f : Nat) (hf : xs.length < f) : fit f (xs.map lit) xs 0 0 0 0 = true := by
  obtain ⟨g, rfl⟩ : ∃ g, f = g + 1 + xs.length := ⟨f - 1 - xs.length, by omega⟩
  have h := fit_lits xs [] [] 0 0 (g + 1) xs.length 0 (by omega)
  rw [List.append_nil, List.append_nil] at h
  rw [h, fit_ge (by omega), List.drop_of_length_le (by simp)]
  rfl
theorem fit_longer (xs ys : List Nat) (hy : ys ≠ []) (f : Nat) (hf : xs.length < f) : fit f (xs.map lit) (xs ++ ys) 0 0 0 0 = false := by
  obtain ⟨g, rfl⟩ : ∃ g, f = g + 1 + xs.length := ⟨f - 1 - xs.length, by omega⟩
  have h := fit_lits xs ys [] 0 0 (g + 1) xs.length 0 (by omega)
  rw [List.append_nil] at h
  have hl := List.length_pos_iff.2 hy
  rw [h, fit_lt (by simp; omega), anyAt_end, takesAt_end]
  rfl
/-- Behind the last star everything is taken. -/
theorem fit_tail (ps : List Part) (ns : List Nat) (hp : 0 < ps.length) : ∀ (k f t : Nat), k + t = ns.length → k < f → fit f ps ns ps.length ps.length t t = true
  | 0, f, t, h, hf => by
    obtain ⟨g, rfl⟩ : ∃ g, f = g + 1 := ⟨f - 1, by omega⟩
    rw [fit_ge (by omega), List.drop_of_length_le (Nat.le_refl _)]; rfl
  | k + 1, f, t, h, hf => by
    obtain ⟨g, rfl⟩ : ∃ g, f = g + 1 := ⟨f - 1, by omega⟩
    have h1 : anyAt ps ps.length = false := by unfold anyAt; rw [List.getElem?_eq_none (Nat.le_refl _)]
    have h2 : takesAt ps ps.length (ns.getD t 0) = false := by unfold takesAt; rw [List.getElem?_eq_none (Nat.le_refl _)]
    rw [fit_lt (by omega), h1, h2, if_neg (by simp), if_neg (by simp), if_pos hp]
    exact fit_tail ps ns hp k g (t + 1) (by omega) (by omega)
theorem fit_ahead (xs ys : List Nat) (f : Nat) (hf : xs.length + ys.length + 1 < f) : fit f (xs.map lit ++ [star]) (xs ++ ys) 0 0 0 0 = true := by
  obtain ⟨g, rfl⟩ : ∃ g, f = g + 1 + xs.length := ⟨f - 1 - xs.length, by omega⟩
  rw [fit_lits xs ys [star] 0 0 (g + 1) xs.length 0 (by omega)]
  have ha : anyAt (xs.map lit ++ [star]) xs.length = true := by
    unfold anyAt
    rw [List.getElem?_append_right (by simp), List.length_map, Nat.sub_self]
    rfl
  by_cases hy : ys = []
  · subst hy
    rw [List.append_nil, fit_ge (by omega), List.drop_append, List.length_map, Nat.sub_self, List.drop_of_length_le (by simp)]
    rfl
  · have hl := List.length_pos_iff.2 hy
    rw [fit_lt (by simp; omega), if_pos ha]
    have h := fit_tail (xs.map lit ++ [star]) (xs ++ ys) (by simp) ys.length g xs.length (by simp; omega) (by omega)
    simp only [List.length_append, List.length_map, List.length_cons, List.length_nil, Nat.zero_add] at h
    exact h
theorem anyAt_star (xs : List Nat) (j : Nat) : anyAt (star :: xs.map lit) (1 + j) = false := by
  unfold anyAt
  rw [Nat.add_comm, List.getElem?_cons_succ]
  rcases Nat.lt_or_ge j xs.length with h | h
  · rw [List.getElem?_map, List.getElem?_eq_getElem h]; rfl
  · rw [List.getElem?_eq_none (by simpa using h)]
theorem takesAt_star (xs : List Nat) (j c : Nat) : takesAt (star :: xs.map lit) (1 + j) c = if h : j < xs.length then decide (xs[j] = c) else false := by
  unfold takesAt
  rw [Nat.add_comm, List.getElem?_cons_succ]
  split
  · rename_i p hp
    rcases Nat.lt_or_ge j xs.length with h | h
    · rw [List.getElem?_map, List.getElem?_eq_getElem h] at hp
      simp only [Option.map_some, Option.some.injEq] at hp
      subst hp
      rw [dif_pos h]; exact takes_lit _ _
    · rw [List.getElem?_eq_none (by simpa using h)] at hp; cases hp
  · rename_i hp
    rcases Nat.lt_or_ge j xs.length with h | h
    · rw [List.getElem?_map, List.getElem?_eq_getElem h] at hp; cases hp
    · rw [dif_neg (by omega)]
theorem fit_star (xs ys : List Nat) : ∀ (f t j : Nat), fitW (ys.length + xs.length) (xs.length + 1) t (1 + j) < f → t ≤ ys.length → j ≤ xs.length → fit f (star :: xs.map lit) (ys ++ xs) (1 + j) 1 t (t + j) = true
  | 0, _, _, h, _, _ => by omega
  | f + 1, t, j, h, ht, hj => by
    by_cases hn : t + j < (ys ++ xs).length
    · rw [fit_lt hn, anyAt_star, if_neg (by simp), takesAt_star]
      rw [List.length_append] at hn
      have hback : t < ys.length → fit f (star :: xs.map lit) (ys ++ xs) 1 1 (t + 1) (t + 1) = true := fun h1 => by
        have hb := @fitW_back (ys.length + xs.length) (xs.length + 1) t (1 + j) 1 (by omega)
        exact fit_star xs ys f (t + 1) 0 (by show fitW _ _ (t + 1) 1 < f; omega) (by omega) (Nat.zero_le _)
      by_cases hjx : j < xs.length
      · rw [dif_pos hjx]
        by_cases hm : xs[j] = (ys ++ xs).getD (t + j) 0
        · rw [if_pos (decide_eq_true hm)]
          have hb := @fitW_next (ys.length + xs.length) (xs.length + 1) t (1 + j) (by omega)
          exact fit_star xs ys f t (j + 1) (by rw [← Nat.add_assoc]; omega) ht (by omega)
        · rw [if_neg (by simpa using hm), if_pos (by omega)]
          refine hback (Nat.lt_of_le_of_ne ht fun e => hm ?_)
          subst e
          rw [List.getD_eq_getElem?_getD, List.getElem?_append_right (by omega), show ys.length + j - ys.length = j by omega, List.getElem?_eq_getElem hjx]
          rfl
      · rw [dif_neg hjx, if_neg (by simp), if_pos (by omega)]
        exact hback (by omega)
    · rw [fit_ge hn]
      rw [List.length_append] at hn
      have : j = xs.length := by omega
      subst this
      rw [List.drop_of_length_le (by simp; omega)]
      rfl
theorem fit_behind (xs ys : List Nat) (f : Nat) (hx : 0 < xs.length) (hf : fitW (ys.length + xs.length) (xs.length + 1) 0 0 < f) : fit f (star :: xs.map lit) (ys ++ xs) 0 0 0 0 = true := by
  obtain ⟨g, rfl⟩ : ∃ g, f = g + 1 := ⟨f - 1, by omega⟩
  rw [fit_lt (by simp; omega), if_pos (by rfl)]
  have hb := @fitW_any (ys.length + xs.length) (xs.length + 1) 0 0 0 (by omega) (Nat.le_refl _)
  exact fit_star xs ys g 0 0 (by show fitW _ _ 0 1 < g; rw [Nat.zero_add] at hb; omega) (Nat.zero_le _) (Nat.zero_le _)
theorem fitW_big (N P : Nat) : N + P ≤ fitW N P 0 0 := by
  unfold fitW
  rw [Nat.sub_zero, Nat.sub_zero]
  have := Nat.mul_le_mul_left N (show 1 ≤ P + 1 by omega)
  omega

end Go.Proofs.YtjldpgcbaibpcaaDoor.Nm
