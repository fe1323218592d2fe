/- A name with a stroke ahead of each letter is a pattern of itself: plain. -/
import Derived.Test.YtjldpgcbaibpcaaDoorNSelf
import Derived.Test.YtjldpgcbaibpcaaDoorNRefCheck
namespace Go.Proofs.YtjldpgcbaibpcaaDoor
open Go.RowKit

/-- What the law has laid, at a place of the name. -/
def SelfAt (s P : ByteArray) (pos : Nat) : Prop :=
  Lib.validD P.data.toList = true ∧ Lib.validD (s.data.toList.drop pos) = true ∧ ∃ acc, runesL P.data.toList = Nm.strokes acc ∧ acc ++ runesL (s.data.toList.drop pos) = runesOf s
theorem selfAt_start {s : ByteArray} (hv : Lib.validD s.data.toList = true) : SelfAt s ⟨#[]⟩ 0 := by
  refine ⟨by decide, by rw [List.drop_zero]; exact hv, [], by decide, ?_⟩
  rw [List.drop_zero, runesOf_L]; rfl
theorem strokes_app (l m : List Nat) : Nm.strokes (l ++ m) = Nm.strokes l ++ Nm.strokes m := by simp [Nm.strokes]
theorem runesL_one (b : UInt8) (h : b.toNat < 128) : runesL [b] = [b.toNat] ∧ Lib.validD [b] = true := by
  have hd : Lib.decodeL [b] = (b.toNat, 1) := by
    rw [Lib.decodeL_N]
    unfold Lib.decodeN
    rw [if_pos (by simpa using h)]
    rfl
  constructor
  · rw [runesL_step (by simp), hd]; rfl
  · rw [Lib.validD_step _ (by simp), hd, if_neg (by simp; omega)]; rfl
theorem selfAt_next {s P : ByteArray} {pos : Nat} (h : SelfAt s P pos) (hp : pos < s.size) :
    SelfAt s ((P ++ ⟨#[92]⟩) ++ s.extract pos (pos + (Utf8.decode s pos).2)) (pos + (Utf8.decode s pos).2) := by
  obtain ⟨hv, hd, acc, hr, ha⟩ := h
  have hne : s.data.toList.drop pos ≠ [] := fun e => by
    have := congrArg List.length e
    rw [List.length_drop, len_data] at this
    simp at this
    omega
  obtain ⟨hok, hv2⟩ := validL_ok hne hd
  obtain ⟨h1, h2⟩ := one_letter hne hok
  rw [Lib.decodeL_drop] at h1 h2 hv2
  rw [List.drop_drop] at hv2
  have he : (s.extract pos (pos + (Utf8.decode s pos).2)).data.toList = (s.data.toList.drop pos).take (Utf8.decode s pos).2 := by
    rw [ext_mkB, data_mkB, Nat.add_sub_cancel_left]
  have hone := runesL_one 92 (by decide)
  have hstroke : (⟨#[92]⟩ : ByteArray).data.toList = [92] := rfl
  have hl : Lib.validD (P.data.toList ++ [92]) = true := by rw [validL_app hv, hone.2]
  refine ⟨?_, hv2, acc ++ [(Utf8.decode s pos).1], ?_, ?_⟩
  · rw [data_app, data_app, hstroke, he, validL_app hl, h2]
  · rw [data_app, data_app, hstroke, he, runesL_app hl, runesL_app hv, hr, hone.1, h1, strokes_app, List.append_assoc]; rfl
  · rw [runesL_step hne, Lib.decodeL_drop, List.drop_drop] at ha
    rw [List.append_assoc, List.singleton_append, ha]
theorem selfAt_end {s P : ByteArray} {pos : Nat} (h : SelfAt s P pos) (hp : s.size ≤ pos) : Lib.validD P.data.toList = true ∧ runesL P.data.toList = Nm.strokes (runesOf s) := by
  obtain ⟨hv, hd, acc, hr, ha⟩ := h
  rw [List.drop_of_length_le (by rw [len_data]; exact hp)] at ha
  have : acc = runesOf s := by rw [← ha]; exact (List.append_nil acc).symm
  rw [← this]
  exact ⟨hv, hr⟩
/-- What a sound name is. -/
theorem check_zero {s : ByteArray} (h : checkOf s = 0) : Lib.validD s.data.toList = true ∧ 0 < (runesOf s).length ∧ s.size ≤ 24 := by
  by_cases h1 : s.toList = [] ∨ s.toList = [46] ∨ s.toList = [46, 46]
  · rw [checkOf_22 h1] at h; exact absurd h (by decide)
  · by_cases h2 : 24 < s.size
    · rw [checkOf_36 h1 h2] at h; exact absurd h (by decide)
    · cases hv : Lib.validD s.data.toList with
      | false => rw [checkOf_bad h1 h2 hv] at h; exact absurd h (by decide)
      | true =>
        refine ⟨rfl, ?_, by omega⟩
        have hne : s.data.toList ≠ [] := fun e => h1 (.inl (by rw [toList_data, e]))
        rw [runesOf_L, runesL_step hne]
        simp
theorem runes_two {s t : ByteArray} (h : Lib.validD s.data.toList = true) : runesOf (s ++ t) = runesOf s ++ runesOf t := by
  rw [runesOf_L, runesOf_L, runesOf_L, data_app, runesL_app h]
theorem parse_lits (xs : List Nat) : Nm.parse ((Nm.strokes xs).length + 1) (Nm.strokes xs) = some (xs.map Nm.lit) := by
  have h := Nm.parse_strokes xs [] [] 1 rfl
  rw [List.append_nil, List.append_nil] at h
  exact Nm.parse_more _ _ _ _ (by rw [Nm.strokes_len]; omega) h
theorem parse_behind (xs : List Nat) : Nm.parse ((42 :: Nm.strokes xs).length + 1) (42 :: Nm.strokes xs) = some (Nm.star :: xs.map Nm.lit) := by
  rw [List.length_cons]
  exact Nm.parse_star _ _ _ (parse_lits xs)
theorem parse_ahead (xs : List Nat) : Nm.parse ((Nm.strokes xs ++ [42]).length + 1) (Nm.strokes xs ++ [42]) = some (xs.map Nm.lit ++ [Nm.star]) := by
  have h := Nm.parse_strokes xs [42] [Nm.star] 2 (Nm.parse_star 1 [] [] rfl)
  exact Nm.parse_more _ _ _ _ (by rw [List.length_append, Nm.strokes_len]; simp; omega) h
theorem match_self {s P : ByteArray} (hP : Lib.validD P.data.toList = true ∧ runesL P.data.toList = Nm.strokes (runesOf s)) : matchOf P s = (true, 0) := by
  unfold matchOf parseOf
  rw [if_pos hP.1, runesOf_L P, hP.2, parse_lits]
  simp only [List.length_map]
  rw [Nm.fit_self]
  have := Nm.fitW_big (runesOf s).length (runesOf s).length
  omega
theorem match_longer {s t P : ByteArray} (hP : Lib.validD P.data.toList = true ∧ runesL P.data.toList = Nm.strokes (runesOf s)) (hs : Lib.validD s.data.toList = true) (ht : 0 < (runesOf t).length) : matchOf P (s ++ t) = (false, 0) := by
  unfold matchOf parseOf
  rw [if_pos hP.1, runesOf_L P, hP.2, parse_lits, runes_two hs]
  simp only [List.length_map]
  rw [Nm.fit_longer _ _ (List.length_pos_iff.1 ht)]
  have := Nm.fitW_big (runesOf s ++ runesOf t).length (runesOf s).length
  omega
theorem match_behind {s t P : ByteArray} (hP : Lib.validD P.data.toList = true ∧ runesL P.data.toList = Nm.strokes (runesOf s)) (ht : Lib.validD t.data.toList = true) (hs : 0 < (runesOf s).length) : matchOf (⟨#[42]⟩ ++ P) (t ++ s) = (true, 0) := by
  have hone := runesL_one 42 (by decide)
  have h42 : (⟨#[42]⟩ : ByteArray).data.toList = [42] := rfl
  unfold matchOf parseOf
  rw [if_pos (by rw [data_app, h42, validL_app hone.2, hP.1]), runesOf_L (_ ++ P), data_app, h42, runesL_app hone.2, hone.1, hP.2, show [UInt8.toNat 42] ++ Nm.strokes (runesOf s) = 42 :: Nm.strokes (runesOf s) from rfl, parse_behind, runes_two ht]
  simp only [List.length_cons, List.length_map]
  rw [Nm.fit_behind _ _ _ hs]
  rw [List.length_append]
  omega
theorem match_ahead {s t P : ByteArray} (hP : Lib.validD P.data.toList = true ∧ runesL P.data.toList = Nm.strokes (runesOf s)) (hs : Lib.validD s.data.toList = true) : matchOf (P ++ ⟨#[42]⟩) (s ++ t) = (true, 0) := by
  have hone := runesL_one 42 (by decide)
  have h42 : (⟨#[42]⟩ : ByteArray).data.toList = [42] := rfl
  unfold matchOf parseOf
  rw [if_pos (by rw [data_app, h42, validL_app hP.1, hone.2]), runesOf_L (P ++ _), data_app, h42, runesL_app hP.1, hone.1, hP.2, show [UInt8.toNat 42] = [42] from rfl, parse_ahead, runes_two hs]
  simp only [List.length_append, List.length_map, List.length_cons, List.length_nil]
  rw [Nm.fit_ahead]
  have := Nm.fitW_big ((runesOf s).length + (runesOf t).length) ((runesOf s).length + (0 + 1))
  omega
end Go.Proofs.YtjldpgcbaibpcaaDoor
