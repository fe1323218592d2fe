/- A path's parts, plain. -/
import Derived.Test.YtjldpgcbaibpcaaDoorNRefCheck
namespace Go.Proofs.YtjldpgcbaibpcaaDoor
open Go.RowKit

/-- What stands between strokes. -/
def cut : List UInt8 → List (List UInt8)
  | [] => [[]]
  | b :: l => if b = 47 then [] :: cut l else match cut l with
    | [] => [[b]]
    | p :: ps => (b :: p) :: ps
theorem cut_ne (l : List UInt8) : cut l ≠ [] := by
  cases l with
  | nil => simp [cut]
  | cons b l =>
    unfold cut
    split
    · simp
    · split <;> simp
theorem cut_stroke (l : List UInt8) : cut (47 :: l) = [] :: cut l := by rw [cut, if_pos rfl]
theorem cut_other {b : UInt8} (hb : b ≠ 47) {l p : List UInt8} {ps : List (List UInt8)} (h : cut l = p :: ps) : cut (b :: l) = (b :: p) :: ps := by
  rw [cut, if_neg hb, h]
/-- Without a stroke ahead. -/
theorem cut_app (l m : List UInt8) (h : ∀ b ∈ l, b ≠ 47) : cut (l ++ 47 :: m) = l :: cut m := by
  induction l with
  | nil => exact cut_stroke m
  | cons b l ih => exact cut_other (h b (by simp)) (ih fun x hx => h x (by simp [hx]))
theorem cut_none (l : List UInt8) (h : ∀ b ∈ l, b ≠ 47) : cut l = [l] := by
  induction l with
  | nil => rfl
  | cons b l ih => exact cut_other (h b (by simp)) (ih fun x hx => h x (by simp [hx]))
theorem cut_index (l : List UInt8) : (Lib.index l [47] = -1 ∧ cut l = [l]) ∨ ∃ i : Nat, Lib.index l [47] = i ∧ cut l = l.take i :: cut (l.drop (i + 1)) := by
  induction l with
  | nil => exact .inl ⟨rfl, rfl⟩
  | cons b l ih =>
    by_cases hb : b = 47
    · subst hb
      exact .inr ⟨0, by rw [Lib.index]; simp [List.isPrefixOf], by rw [cut_stroke]; rfl⟩
    · have hp : ([47] : List UInt8).isPrefixOf (b :: l) = false := by simp [List.isPrefixOf, Ne.symm hb]
      rcases ih with ⟨h1, h2⟩ | ⟨i, h1, h2⟩
      · exact .inl ⟨by rw [Lib.index, hp, h1]; rfl, cut_other hb h2⟩
      · refine .inr ⟨i + 1, ?_, cut_other hb h2⟩
        rw [Lib.index, hp, h1]
        rw [if_neg (by simp), if_neg (by rw [beq_iff_eq]; omega)]
        omega
theorem splitK_cut : ∀ (k : Nat) (l : List UInt8), Lib.count l [47] = k → Lib.splitK [47] 0 k l = cut l
  | 0, l, hk => by
    rcases cut_index l with ⟨_, h⟩ | ⟨i, h1, _⟩
    · rw [h]; rfl
    · rw [Lib.count_hit (by simp) h1] at hk; omega
  | k + 1, l, hk => by
    rcases cut_index l with ⟨h1, _⟩ | ⟨i, h1, h2⟩
    · rw [Lib.count_miss h1] at hk; omega
    · rw [Lib.count_hit (by simp) h1] at hk
      have hi : (Lib.index l [47]).toNat = i := by rw [h1]; rfl
      rw [Lib.splitK, if_neg (by rw [h1, beq_iff_eq]; omega), hi, h2, splitK_cut k _ (by simp at hk ⊢; omega)]
      rfl
def mkB (l : List UInt8) : ByteArray := ⟨l.toArray⟩
theorem mkB_data (s : ByteArray) : mkB s.data.toList = s := by cases s; simp [mkB]
theorem data_mkB (l : List UInt8) : (mkB l).data.toList = l := by simp [mkB]
theorem mkB_inj {l m : List UInt8} (h : mkB l = mkB m) : l = m := by rw [← data_mkB l, h, data_mkB]
theorem toList_data (s : ByteArray) : s.toList = s.data.toList := ByteArray.toList_eq s
theorem partsOf_cut (s : ByteArray) : partsOf s = (cut s.data.toList).map mkB := by
  have h1 : (partsOf s).map (·.data.toList) = cut s.data.toList := by
    unfold partsOf
    rw [Lib.splitB_data]
    exact splitK_cut _ _ rfl
  rw [← h1, List.map_map]
  conv => lhs; rw [← List.map_id (partsOf s)]
  exact List.map_congr_left fun x _ => (mkB_data x).symm
/-- The parts from a place on. -/
def partsAt (s : ByteArray) (p : Nat) : List ByteArray := if p ≤ s.size then (cut (s.data.toList.drop p)).map mkB else []
theorem partsAt_out {s : ByteArray} {p : Nat} (h : s.size < p) : partsAt s p = [] := if_neg (by omega)
theorem ext_mkB (s : ByteArray) (p i : Nat) : s.extract p i = mkB ((s.data.toList.drop p).take (i - p)) := by
  rw [← mkB_data (s.extract p i), Lib.extract_data]
theorem byte_at (s : ByteArray) (i : Nat) : s.data.toList.getD i 0 = s.get! i := Lib.getD_get!' s i
theorem partsAt_step {s : ByteArray} {p i : Nat} (hpi : p ≤ i) (hi : i ≤ s.size) (hno : ∀ j, p ≤ j → j < i → s.get! j ≠ 47) (hend : i = s.size ∨ s.get! i = 47) : partsAt s p = s.extract p i :: partsAt s (i + 1) := by
  have hsz : s.data.toList.length = s.size := by simp
  have hno2 : ∀ b ∈ (s.data.toList.drop p).take (i - p), b ≠ 47 := by
    intro b hb
    obtain ⟨j, hj, e⟩ := List.getElem_of_mem hb
    rw [List.getElem_take, List.getElem_drop] at e
    rw [List.length_take, List.length_drop] at hj
    have h1 := hno (p + j) (by omega) (by omega)
    rw [← byte_at, List.getD_eq_getElem?_getD, List.getElem?_eq_getElem (by omega), Option.getD_some] at h1
    rw [← e]; exact h1
  rw [partsAt, if_pos (by omega), ext_mkB]
  by_cases h : i = s.size
  · have ht : (s.data.toList.drop p).take (i - p) = s.data.toList.drop p := List.take_of_length_le (by rw [List.length_drop]; omega)
    rw [ht] at hno2 ⊢
    rw [cut_none _ hno2, partsAt_out (by omega)]
    rfl
  · have h47 : s.get! i = 47 := by rcases hend with h1 | h1; exact absurd h1 h; exact h1
    have hsp : s.data.toList.drop p = (s.data.toList.drop p).take (i - p) ++ 47 :: s.data.toList.drop (i + 1) := by
      conv => lhs; rw [← List.take_append_drop (i - p) (s.data.toList.drop p)]
      congr 1
      rw [List.drop_drop, show p + (i - p) = i by omega, List.drop_eq_getElem_cons (by omega)]
      congr 1
      rw [← byte_at, List.getD_eq_getElem?_getD, List.getElem?_eq_getElem (by omega), Option.getD_some] at h47
      exact h47
    rw [partsAt, if_pos (by omega)]
    conv => lhs; rw [hsp]
    rw [cut_app _ _ hno2, List.map_cons]
theorem stackGo_first {s : ByteArray} (h0 : 0 < s.size) (h : s.get! 0 = 47) (acc : List ByteArray) : stackGo (partsOf s) acc = stackGo (partsAt s 1) acc := by
  have h1 : partsOf s = partsAt s 0 := by rw [partsOf_cut, partsAt, if_pos (by omega)]; rfl
  rw [h1, partsAt_step (Nat.le_refl 0) (Nat.zero_le _) (fun j h1 h2 => by omega) (.inr h), ext_mkB]
  rw [stackGo, if_pos (.inl (by rw [toList_data, data_mkB]; simp))]
theorem hasPrefix_stroke (s : ByteArray) : Lib.hasPrefix s.data.toList [47] = decide (0 < s.size ∧ s.get! 0 = 47) := by
  have hsz : s.data.toList.length = s.size := by simp
  rw [← byte_at, ← hsz]
  cases s.data.toList with
  | nil => rfl
  | cons b l =>
    unfold Lib.hasPrefix
    simp [List.isPrefixOf]
    rw [Bool.eq_iff_iff, beq_iff_eq, decide_eq_true_iff]
    exact eq_comm

end Go.Proofs.YtjldpgcbaibpcaaDoor
