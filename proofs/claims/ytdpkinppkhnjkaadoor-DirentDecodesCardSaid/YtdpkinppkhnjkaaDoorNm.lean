/- Patterns, plain: what names.Match is made of, over lists of letters. -/
namespace Go.Proofs.YtdpkinppkhnjkaaDoor.Nm

/-- A piece of a pattern. -/
structure Part where
  any : Bool
  not : Bool
  these : List (Nat × Nat)

def letter : List Nat → Option (Nat × List Nat)
  | [] => none
  | x :: l => if x = 92 then (match l with
    | [] => none
    | y :: l' => some (y, l')) else some (x, l)
def choice (l : List Nat) : Option ((Nat × Nat) × List Nat) :=
  match letter l with
  | none => none
  | some (c, rest) =>
    if 1 < rest.length ∧ rest.getD 0 0 = 45 ∧ rest.getD 1 0 ≠ 93 then some ((c, rest.getD 1 0), rest.drop 2) else some ((c, c), rest)
def brk : Nat → List (Nat × Nat) → List Nat → Option (List (Nat × Nat) × List Nat)
  | 0, _, _ => none
  | f + 1, acc, l =>
    if l.length = 0 then none else if l.getD 0 0 = 93 then (if acc.length = 0 then none else some (acc, l.drop 1)) else
    (choice l).bind fun sr => brk f (acc ++ [sr.1]) sr.2
def brOf (no : Bool) : Option (List (Nat × Nat) × List Nat) → Option (Part × List Nat)
  | none => none
  | some (th, r) => some (⟨false, no, th⟩, r)
def brackets (l : List Nat) : Option (Part × List Nat) :=
  let no := decide (0 < l.length ∧ l.getD 0 0 = 94)
  let l1 := if no then l.drop 1 else l
  brOf no (brk (l1.length + 1) [] l1)
def first (l : List Nat) : Option (Part × List Nat) :=
  if l.getD 0 0 = 42 then some (⟨true, false, []⟩, l.drop 1)
  else if l.getD 0 0 = 63 then some (⟨false, true, []⟩, l.drop 1)
  else if l.getD 0 0 = 91 then brackets (l.drop 1)
  else (letter l).map fun cr => (⟨false, false, [(cr.1, cr.1)]⟩, cr.2)
def parse : Nat → List Nat → Option (List Part)
  | 0, _ => none
  | f + 1, l => if l.length = 0 then some [] else
    (first l).bind fun pr => (parse f pr.2).map (pr.1 :: ·)
def takes (p : Part) (c : Nat) : Bool := if p.these.any (fun s => decide (s.1 ≤ c) && decide (c ≤ s.2)) then !p.not else p.not

theorem letter_len {l : List Nat} {c : Nat} {r : List Nat} (h : letter l = some (c, r)) : r.length < l.length := by
  cases l with
  | nil => cases h
  | cons x l =>
    simp only [letter] at h
    split at h
    · cases l with
      | nil => cases h
      | cons y l' => simp only [Option.some.injEq, Prod.mk.injEq] at h; rw [← h.2]; simp; omega
    · simp only [Option.some.injEq, Prod.mk.injEq] at h; rw [← h.2]; simp
theorem letter_mem {l : List Nat} {c : Nat} {r : List Nat} (h : letter l = some (c, r)) : c ∈ l := by
  cases l with
  | nil => cases h
  | cons x l =>
    simp only [letter] at h
    split at h
    · cases l with
      | nil => cases h
      | cons y l' => simp only [Option.some.injEq, Prod.mk.injEq] at h; rw [← h.1]; simp
    · simp only [Option.some.injEq, Prod.mk.injEq] at h; rw [← h.1]; simp
theorem choice_len {l : List Nat} {s : Nat × Nat} {r : List Nat} (h : choice l = some (s, r)) : r.length < l.length := by
  unfold choice at h
  split at h
  · cases h
  · rename_i c rest hl
    have h1 := letter_len hl
    split at h
    · simp only [Option.some.injEq, Prod.mk.injEq] at h; rw [← h.2]; simp; omega
    · simp only [Option.some.injEq, Prod.mk.injEq] at h; rw [← h.2]; exact h1
theorem brk_len : ∀ (f : Nat) (acc : List (Nat × Nat)) (l : List Nat) (th : List (Nat × Nat)) (r : List Nat), brk f acc l = some (th, r) → r.length < l.length := by
  intro f
  induction f with
  | zero => intro acc l th r h; cases h
  | succ f ih =>
    intro acc l th r h
    unfold brk at h
    split at h
    · cases h
    · rename_i h0
      split at h
      · split at h
        · cases h
        · simp only [Option.some.injEq, Prod.mk.injEq] at h; rw [← h.2]; simp; omega
      · obtain ⟨sr, hc, h⟩ := Option.bind_eq_some_iff.1 h
        have h1 := choice_len (s := sr.1) (r := sr.2) hc
        have h2 := ih _ _ _ _ h
        omega
theorem brOf_some {no : Bool} {x : Option (List (Nat × Nat) × List Nat)} {p : Part} {r : List Nat} (h : brOf no x = some (p, r)) : ∃ th, x = some (th, r) := by
  cases x with
  | none => cases h
  | some y =>
    obtain ⟨th, r'⟩ := y
    simp only [brOf, Option.some.injEq, Prod.mk.injEq] at h
    exact ⟨th, by rw [h.2]⟩
theorem first_len {l : List Nat} {p : Part} {r : List Nat} (h : first l = some (p, r)) (h0 : 0 < l.length) : r.length < l.length := by
  unfold first at h
  split at h
  · simp only [Option.some.injEq, Prod.mk.injEq] at h; rw [← h.2]; simp; omega
  · split at h
    · simp only [Option.some.injEq, Prod.mk.injEq] at h; rw [← h.2]; simp; omega
    · split at h
      · unfold brackets at h
        simp only at h
        obtain ⟨th, hb⟩ := brOf_some h
        have h1 := brk_len _ _ _ _ _ hb
        split at h1 <;> simp at h1 <;> omega
      · obtain ⟨cr, hl, h⟩ := Option.map_eq_some_iff.1 h
        simp only [Prod.mk.injEq] at h
        rw [← h.2]
        exact letter_len (c := cr.1) (r := cr.2) hl

def anyAt (ps : List Part) (i : Nat) : Bool := match ps[i]? with
  | some p => p.any
  | none => false
def takesAt (ps : List Part) (i c : Nat) : Bool := match ps[i]? with
  | some p => takes p c
  | none => false
def fitW (N P t i : Nat) : Nat := (N - t) * (P + 1) + (P - i)
/-- names.fit's loop: where it stands in the pieces, the place behind the last piece that takes any letters (0: none), how many letters that one has, where it stands in the name. -/
def fit : Nat → List Part → List Nat → Nat → Nat → Nat → Nat → Bool
  | 0, _, _, _, _, _, _ => false
  | f + 1, ps, ns, i, l, t, n =>
    if n < ns.length then
      if anyAt ps i then fit f ps ns (i + 1) (i + 1) n n
      else if takesAt ps i (ns.getD n 0) then fit f ps ns (i + 1) l t (n + 1)
      else if 0 < l then fit f ps ns l l (t + 1) (t + 1)
      else false
    else (ps.drop i).all (·.any)
theorem fit_lt {f i l t n : Nat} {ps : List Part} {ns : List Nat} (h : n < ns.length) : fit (f + 1) ps ns i l t n = if anyAt ps i then fit f ps ns (i + 1) (i + 1) n n else if takesAt ps i (ns.getD n 0) then fit f ps ns (i + 1) l t (n + 1) else if 0 < l then fit f ps ns l l (t + 1) (t + 1) else false := by
  rw [fit, if_pos h]
theorem fit_ge {f i l t n : Nat} {ps : List Part} {ns : List Nat} (h : ¬ n < ns.length) : fit (f + 1) ps ns i l t n = (ps.drop i).all (·.any) := by
  rw [fit, if_neg h]
theorem fitW_any {N P t i n : Nat} (hi : i < P) (ht : t ≤ n) : fitW N P n (i + 1) < fitW N P t i := by
  unfold fitW
  have h := Nat.mul_le_mul_right (P + 1) (show N - n ≤ N - t by omega)
  omega
theorem fitW_next {N P t i : Nat} (hi : i < P) : fitW N P t (i + 1) < fitW N P t i := by unfold fitW; omega
theorem fitW_back {N P t i l : Nat} (ht : t < N) : fitW N P (t + 1) l < fitW N P t i := by
  unfold fitW
  have h : (N - t) * (P + 1) = (N - (t + 1)) * (P + 1) + (P + 1) := by
    rw [show N - t = (N - (t + 1)) + 1 by omega, Nat.add_mul, Nat.one_mul]
  omega
theorem anyAt_lt {ps : List Part} {i : Nat} (h : anyAt ps i = true) : i < ps.length := by
  unfold anyAt at h
  rcases Nat.lt_or_ge i ps.length with h1 | h1
  · exact h1
  · rw [List.getElem?_eq_none h1] at h; cases h
theorem takesAt_lt {ps : List Part} {i c : Nat} (h : takesAt ps i c = true) : i < ps.length := by
  unfold takesAt at h
  rcases Nat.lt_or_ge i ps.length with h1 | h1
  · exact h1
  · rw [List.getElem?_eq_none h1] at h; cases h

theorem brk_th : ∀ (f : Nat) (acc : List (Nat × Nat)) (l : List Nat) (th : List (Nat × Nat)) (r : List Nat), brk f acc l = some (th, r) → th.length < acc.length + l.length := by
  intro f
  induction f with
  | zero => intro acc l th r h; cases h
  | succ f ih =>
    intro acc l th r h
    unfold brk at h
    split at h
    · cases h
    · rename_i h0
      split at h
      · split at h
        · cases h
        · simp only [Option.some.injEq, Prod.mk.injEq] at h; rw [← h.1]; omega
      · obtain ⟨sr, hc, h⟩ := Option.bind_eq_some_iff.1 h
        have h1 := choice_len (s := sr.1) (r := sr.2) hc
        have h2 := ih _ _ _ _ h
        simp at h2
        omega
theorem first_th {l : List Nat} {p : Part} {r : List Nat} (h : first l = some (p, r)) (h0 : 0 < l.length) : p.these.length ≤ l.length := by
  unfold first at h
  split at h
  · simp only [Option.some.injEq, Prod.mk.injEq] at h; rw [← h.1]; simp
  · split at h
    · simp only [Option.some.injEq, Prod.mk.injEq] at h; rw [← h.1]; simp
    · split at h
      · unfold brackets at h
        simp only at h
        obtain ⟨th, hb⟩ := brOf_some h
        have h1 := brk_th _ _ _ _ _ hb
        rw [hb] at h
        simp only [brOf, Option.some.injEq, Prod.mk.injEq] at h
        rw [← h.1]
        simp only
        split at h1 <;> simp at h1 <;> omega
      · obtain ⟨cr, hl, h⟩ := Option.map_eq_some_iff.1 h
        simp only [Prod.mk.injEq] at h
        rw [← h.1]
        simp
        omega
theorem parse_bd : ∀ (f : Nat) (l : List Nat) (ps : List Part), parse f l = some ps → ps.length ≤ l.length ∧ ∀ p ∈ ps, p.these.length ≤ l.length := by
  intro f
  induction f with
  | zero => intro l ps h; cases h
  | succ f ih =>
    intro l ps h
    unfold parse at h
    split at h
    · cases h; exact ⟨Nat.zero_le _, fun p hp => by cases hp⟩
    · rename_i h0
      obtain ⟨pr, hf, h⟩ := Option.bind_eq_some_iff.1 h
      obtain ⟨qs, hq, h⟩ := Option.map_eq_some_iff.1 h
      have h1 := first_len (p := pr.1) (r := pr.2) hf (by omega)
      have h2 := first_th (p := pr.1) (r := pr.2) hf (by omega)
      obtain ⟨h3, h4⟩ := ih _ _ hq
      subst h
      refine ⟨by simp; omega, fun p hp => ?_⟩
      rw [List.mem_cons] at hp
      rcases hp with rfl | hp
      · exact h2
      · have := h4 p hp; omega

end Go.Proofs.YtdpkinppkhnjkaaDoor.Nm
