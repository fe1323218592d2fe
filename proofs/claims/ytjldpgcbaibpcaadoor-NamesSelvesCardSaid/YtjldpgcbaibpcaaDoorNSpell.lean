/- Letters of texts that are put together, plain. -/
import Derived.Test.YtjldpgcbaibpcaaDoorNJoin
namespace Go.Proofs.YtjldpgcbaibpcaaDoor
open Go.RowKit

set_option maxRecDepth 100000 in
set_option maxHeartbeats 4000000 in
theorem decodeN_ext (n n' b0 b1 b2 b3 c1 c2 c3 : Nat) (hok : ¬ ((Lib.decodeN n b0 b1 b2 b3).1 = 65533 ∧ (Lib.decodeN n b0 b1 b2 b3).2 = 1)) (hn : (Lib.decodeN n b0 b1 b2 b3).2 ≤ n')
    (h1 : 2 ≤ (Lib.decodeN n b0 b1 b2 b3).2 → c1 = b1) (h2 : 3 ≤ (Lib.decodeN n b0 b1 b2 b3).2 → c2 = b2) (h3 : 4 ≤ (Lib.decodeN n b0 b1 b2 b3).2 → c3 = b3) :
    Lib.decodeN n' b0 c1 c2 c3 = Lib.decodeN n b0 b1 b2 b3 := by
  obtain ⟨D, hD⟩ : ∃ D, Lib.decodeN n b0 b1 b2 b3 = D := ⟨_, rfl⟩
  rw [hD] at hok hn h1 h2 h3 ⊢
  unfold Lib.decodeN at hD ⊢
  split at hD
  · rename_i g; subst hD; rw [if_pos g]
  · rename_i g0
    rw [if_neg g0]
    split at hD
    · rename_i g1
      split at hD
      · rename_i g2
        subst hD
        simp only at hn h1
        have e1 := h1 (by omega)
        subst e1
        rw [if_pos ⟨g1.1, by omega, g1.2.2⟩, if_pos g2]
      · subst hD; simp at hok
    · rename_i g1
      split at hD
      · rename_i g2
        split at hD
        · rename_i g3
          subst hD
          simp only at hn h1 h2
          have e1 := h1 (by omega)
          have e2 := h2 (by omega)
          subst e1 e2
          rw [if_neg (by omega), if_pos ⟨g2.1, ⟨by omega, g2.2.1.2⟩, by omega, g2.2.2.2⟩, if_pos g3]
        · subst hD; simp at hok
      · rename_i g2
        split at hD
        · rename_i g3
          split at hD
          · rename_i g4
            subst hD
            simp only at hn h1 h2 h3
            have e1 := h1 (by omega)
            have e2 := h2 (by omega)
            have e3 := h3 (by omega)
            subst e1 e2 e3
            rw [if_neg (by omega), if_neg (by omega), if_pos ⟨g3.1, ⟨by omega, g3.2.1.2⟩, ⟨by omega, g3.2.2.1.2⟩, by omega, g3.2.2.2.2⟩, if_pos g4]
          · subst hD; simp at hok
        · subst hD; simp at hok
def okL (l : List UInt8) : Prop := ¬ ((Lib.decodeL l).1 = 65533 ∧ (Lib.decodeL l).2 = 1)
theorem decodeL_fits {l : List UInt8} (h : l ≠ []) : (Lib.decodeL l).2 ≤ l.length := by
  rw [Lib.decodeL_N]
  exact decodeN_fits _ _ _ _ _ (List.length_pos_iff.2 h)
/-- A letter is known by its own bytes. -/
theorem decodeL_take {l : List UInt8} (h : l ≠ []) (hok : okL l) (m : List UInt8) : Lib.decodeL (l.take (Lib.decodeL l).2 ++ m) = Lib.decodeL l := by
  have hf := decodeL_fits h
  have hw := Lib.decodeL_width l
  obtain ⟨k, hk⟩ : ∃ k, (Lib.decodeL l).2 = k := ⟨_, rfl⟩
  have hg : ∀ i, i < k → (l.take k ++ m).getD i 0 = l.getD i 0 := fun i hi => by
    rw [hk] at hf
    rw [List.getD_eq_getElem?_getD, List.getD_eq_getElem?_getD, List.getElem?_append_left (by rw [List.length_take]; omega), List.getElem?_take, if_pos hi]
  have hl : k ≤ (l.take k ++ m).length := by rw [List.length_append, List.length_take]; omega
  rw [hk]
  unfold okL at hok
  rw [Lib.decodeL_N (l.take k ++ m), Lib.decodeL_N l, hg 0 (by omega)]
  rw [Lib.decodeL_N l] at hok hk
  exact decodeN_ext _ _ _ _ _ _ _ _ _ hok (by rw [hk]; exact hl) (fun h => by rw [hg 1 (by omega)]) (fun h => by rw [hg 2 (by omega)]) (fun h => by rw [hg 3 (by omega)])
/-- The letters of bytes. -/
def spell : Nat → List UInt8 → List Nat
  | 0, _ => []
  | f + 1, l => if l = [] then [] else (Lib.decodeL l).1 :: spell f (l.drop (Lib.decodeL l).2)
theorem spell_nil (f : Nat) : spell f [] = [] := by cases f <;> simp [spell]
theorem spell_more : ∀ (f g : Nat) (l : List UInt8), l.length ≤ f → l.length ≤ g → spell f l = spell g l
  | 0, g, l, h, _ => by
    have : l = [] := List.eq_nil_of_length_eq_zero (by omega)
    subst this; rw [spell_nil, spell_nil]
  | f + 1, 0, l, _, h => by
    have : l = [] := List.eq_nil_of_length_eq_zero (by omega)
    subst this; rw [spell_nil, spell_nil]
  | f + 1, g + 1, l, h1, h2 => by
    have hw := Lib.decodeL_width l
    unfold spell
    by_cases h : l = []
    · rw [if_pos h, if_pos h]
    · rw [if_neg h, if_neg h, spell_more f g _ (by rw [List.length_drop]; omega) (by rw [List.length_drop]; omega)]
def runesL (l : List UInt8) : List Nat := spell l.length l
theorem runesL_step {l : List UInt8} (h : l ≠ []) : runesL l = (Lib.decodeL l).1 :: runesL (l.drop (Lib.decodeL l).2) := by
  have hw := Lib.decodeL_width l
  have hl := List.length_pos_iff.2 h
  obtain ⟨n, hn⟩ : ∃ n, l.length = n + 1 := ⟨l.length - 1, by omega⟩
  unfold runesL
  rw [hn, spell, if_neg h, spell_more n _ (l.drop (Lib.decodeL l).2) (by rw [List.length_drop]; omega) (Nat.le_refl _)]
theorem scan_spell (s : ByteArray) : ∀ f pos, (scan s f pos).map (·.2.1) = spell f (s.data.toList.drop pos)
  | 0, _ => rfl
  | f + 1, pos => by
    by_cases hp : pos < s.size
    · have hne : s.data.toList.drop pos ≠ [] := fun e => by
        have := congrArg List.length e
        rw [List.length_drop, len_data] at this
        simp at this
        omega
      rw [scan_cons hp, List.map_cons, spell, if_neg hne, Lib.decodeL_drop, List.drop_drop, scan_spell s f]
    · rw [scan_end s _ _ hp, List.drop_of_length_le (by rw [len_data]; omega), spell_nil]; rfl
theorem runesOf_L (s : ByteArray) : runesOf s = runesL s.data.toList := by
  unfold runesOf lets runesL
  rw [scan_spell, len_data]
  rfl
theorem validL_ok {l : List UInt8} (h : l ≠ []) (hv : Lib.validD l = true) : okL l ∧ Lib.validD (l.drop (Lib.decodeL l).2) = true := by
  rw [Lib.validD_step l h] at hv
  split at hv
  · cases hv
  · rename_i h1; exact ⟨h1, hv⟩
theorem app_step {l : List UInt8} (h : l ≠ []) (hv : Lib.validD l = true) (m : List UInt8) : Lib.decodeL (l ++ m) = Lib.decodeL l ∧ (l ++ m).drop (Lib.decodeL l).2 = l.drop (Lib.decodeL l).2 ++ m := by
  obtain ⟨hok, _⟩ := validL_ok h hv
  have hf := decodeL_fits h
  constructor
  · have := decodeL_take h hok (l.drop (Lib.decodeL l).2 ++ m)
    rw [← List.append_assoc, List.take_append_drop] at this
    exact this
  · rw [List.drop_append_of_le_length hf]
theorem both_app : ∀ (n : Nat) (l m : List UInt8), l.length ≤ n → Lib.validD l = true → runesL (l ++ m) = runesL l ++ runesL m ∧ Lib.validD (l ++ m) = Lib.validD m
  | n, [], m, _, _ => ⟨rfl, rfl⟩
  | 0, b :: l, m, h, _ => by simp at h
  | n + 1, b :: l, m, h, hv => by
    have hne : b :: l ≠ [] := by simp
    obtain ⟨hok, hv2⟩ := validL_ok hne hv
    obtain ⟨e1, e2⟩ := app_step hne hv m
    have hw := Lib.decodeL_width (b :: l)
    obtain ⟨i1, i2⟩ := both_app n ((b :: l).drop (Lib.decodeL (b :: l)).2) m (by rw [List.length_drop]; simp at h ⊢; omega) hv2
    have hne2 : b :: l ++ m ≠ [] := by simp
    constructor
    · rw [runesL_step hne2, e1, e2, i1, runesL_step hne]; rfl
    · rw [Lib.validD_step _ hne2, e1, e2, if_neg hok, i2]
theorem runesL_app {l : List UInt8} (hv : Lib.validD l = true) (m : List UInt8) : runesL (l ++ m) = runesL l ++ runesL m := (both_app _ l m (Nat.le_refl _) hv).1
theorem validL_app {l : List UInt8} (hv : Lib.validD l = true) (m : List UInt8) : Lib.validD (l ++ m) = Lib.validD m := (both_app _ l m (Nat.le_refl _) hv).2
/-- One letter's own bytes. -/
theorem one_letter {l : List UInt8} (h : l ≠ []) (hok : okL l) : runesL (l.take (Lib.decodeL l).2) = [(Lib.decodeL l).1] ∧ Lib.validD (l.take (Lib.decodeL l).2) = true := by
  have hf := decodeL_fits h
  have hw := Lib.decodeL_width l
  have e := decodeL_take h hok []
  rw [List.append_nil] at e
  have hne : l.take (Lib.decodeL l).2 ≠ [] := fun h2 => by
    have := congrArg List.length h2
    rw [List.length_take, List.length_nil] at this
    have hl := List.length_pos_iff.2 h
    omega
  have hd : (l.take (Lib.decodeL l).2).drop (Lib.decodeL l).2 = [] := List.drop_of_length_le (by rw [List.length_take]; omega)
  constructor
  · rw [runesL_step hne, e, hd]; rfl
  · rw [Lib.validD_step _ hne, e, hd]
    unfold okL at hok
    rw [if_neg hok]; rfl
end Go.Proofs.YtjldpgcbaibpcaaDoor
