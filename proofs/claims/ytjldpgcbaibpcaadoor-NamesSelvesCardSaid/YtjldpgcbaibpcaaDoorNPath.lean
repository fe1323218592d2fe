/- Paths and their names, plain. -/
import Derived.Test.YtjldpgcbaibpcaaDoorNSplitsWalk
import Derived.Lib.Join
namespace Go.Proofs.YtjldpgcbaibpcaaDoor
open Go.RowKit

theorem cut_append (l m : List UInt8) : cut (l ++ 47 :: m) = cut l ++ cut m := by
  induction l with
  | nil => exact cut_stroke m
  | cons b l ih =>
    by_cases hb : b = 47
    · subst hb; rw [List.cons_append, cut_stroke, cut_stroke, ih]; rfl
    · cases hc : cut l with
      | nil => exact absurd hc (cut_ne l)
      | cons p ps =>
        rw [List.cons_append, cut_other hb hc, cut_other hb (p := p) (ps := ps ++ cut m) (by rw [ih, hc]; rfl)]
        rfl
/-- Each with a stroke ahead. -/
def stroked (ls : List (List UInt8)) : List UInt8 := (ls.map (47 :: ·)).flatten
theorem joinTail_stroked (ls : List (List UInt8)) : Lib.joinTail [47] ls = stroked ls := rfl
theorem cut_stroked (x : List UInt8) (hx : ∀ b ∈ x, b ≠ 47) : ∀ ls : List (List UInt8), (∀ y ∈ ls, ∀ b ∈ y, b ≠ 47) → cut (x ++ stroked ls) = x :: ls
  | [], _ => by rw [stroked]; simp; exact cut_none x hx
  | y :: ls, h => by
    have e : x ++ stroked (y :: ls) = x ++ 47 :: (y ++ stroked ls) := by simp [stroked]
    rw [e, cut_app x _ hx, cut_stroked y (h y (by simp)) ls fun z hz => h z (by simp [hz])]
/-- The path of names. -/
def pathOf (l : List ByteArray) : ByteArray := mkB (47 :: Lib.join (l.map (·.data.toList)) [47])
theorem map_mk (l : List ByteArray) : (l.map (·.data.toList)).map mkB = l := by
  rw [List.map_map]
  conv => rhs; rw [← List.map_id l]
  exact List.map_congr_left fun x _ => mkB_data x
/-- How many bytes texts have, each with a stroke. -/
def wt (l : List ByteArray) : Nat := (l.map fun x => x.size + 1).sum
theorem wt_cons (x : ByteArray) (l : List ByteArray) : wt (x :: l) = x.size + 1 + wt l := by simp [wt]
theorem wt_append (l m : List ByteArray) : wt (l ++ m) = wt l + wt m := by simp [wt]
theorem size_mkB (l : List UInt8) : (mkB l).size = l.length := by rw [← data_mkB l, mkB_data]; simp
theorem len_data (s : ByteArray) : s.data.toList.length = s.size := by simp
theorem stroked_len : ∀ l : List ByteArray, (stroked (l.map (·.data.toList))).length = wt l
  | [] => rfl
  | x :: l => by
    have ih := stroked_len l
    rw [wt_cons, ← ih, ← len_data x]
    simp [stroked]
    omega
theorem pathOf_nil : pathOf [] = mkB [47] := rfl
theorem pathOf_cons (x : ByteArray) (l : List ByteArray) : pathOf (x :: l) = mkB (47 :: (x.data.toList ++ stroked (l.map (·.data.toList)))) := by
  unfold pathOf
  rw [List.map_cons, Lib.join_cons]
  rfl
theorem pathOf_size {l : List ByteArray} (h : l ≠ []) : (pathOf l).size = wt l := by
  cases l with
  | nil => exact absurd rfl h
  | cons x l => rw [pathOf_cons, size_mkB, wt_cons, ← stroked_len, ← len_data x]; simp; omega
theorem pathOf_le (l : List ByteArray) : (pathOf l).size ≤ wt l + 1 := by
  cases l with
  | nil => decide
  | cons x l => rw [pathOf_size (by simp)]; omega
def NoStroke (x : ByteArray) : Prop := ∀ b ∈ x.data.toList, b ≠ 47
theorem parts_path {l : List ByteArray} (h : ∀ x ∈ l, NoStroke x) : partsOf (pathOf l) = mkB [] :: (if l = [] then [mkB []] else l) := by
  rw [partsOf_cut]
  cases l with
  | nil => rfl
  | cons x l =>
    rw [if_neg (by simp), pathOf_cons, data_mkB, cut_stroke, List.map_cons, cut_stroked _ (h x (by simp)) _ (fun y hy => by
      rw [List.mem_map] at hy
      obtain ⟨z, hz, rfl⟩ := hy
      exact h z (by simp [hz])), List.map_cons, map_mk, mkB_data]
theorem good_plain {p : ByteArray} (h : checkOf p = 0) : ¬ (p.toList = [] ∨ p.toList = [46]) ∧ p.toList ≠ [46, 46] ∧ p.size ≤ 24 := by
  refine ⟨fun e => ?_, fun e => ?_, ?_⟩
  · have h1 := checkOf_22 (s := p) (by rcases e with e | e; exact .inl e; exact .inr (.inl e))
    rw [h1] at h; cases h
  · have h1 := checkOf_22 (s := p) (.inr (.inr e))
    rw [h1] at h; cases h
  · rcases Nat.lt_or_ge 24 p.size with h1 | h1
    · by_cases h2 : p.toList = [] ∨ p.toList = [46] ∨ p.toList = [46, 46]
      · rw [checkOf_22 h2] at h; cases h
      · rw [checkOf_36 h2 h1] at h; cases h
    · exact h1
theorem stackGo_good : ∀ (l acc : List ByteArray), (∀ p ∈ l, checkOf p = 0) → stackGo l acc = (acc ++ l, 0)
  | [], acc, _ => by rw [stackGo, List.append_nil]
  | p :: l, acc, h => by
    have hp := h p (by simp)
    obtain ⟨h1, h2, _⟩ := good_plain hp
    rw [stackGo, if_neg h1, if_neg h2, if_neg (by rw [hp]; simp), stackGo_good l _ fun q hq => h q (by simp [hq])]
    simp
theorem stackGo_app : ∀ (ps qs acc out : List ByteArray), stackGo ps acc = (out, 0) → stackGo (ps ++ qs) acc = stackGo qs out
  | [], qs, acc, out, h => by rw [stackGo] at h; cases h; rfl
  | p :: ps, qs, acc, out, h => by
    unfold stackGo at h
    rw [List.cons_append, stackGo]
    split at h
    · rename_i h1; rw [if_pos h1]; exact stackGo_app ps qs acc out h
    · rename_i h1
      rw [if_neg h1]
      split at h
      · rename_i h2; rw [if_pos h2]; exact stackGo_app ps qs _ out h
      · rename_i h2
        rw [if_neg h2]
        split at h
        · rename_i h3; simp only [Prod.mk.injEq] at h; exact absurd h.2 h3
        · rename_i h3; rw [if_neg h3]; exact stackGo_app ps qs _ out h
theorem wt_dropLast (l : List ByteArray) : wt l.dropLast ≤ wt l := by
  rcases List.eq_nil_or_concat l with h | ⟨m, x, h⟩
  · subst h; exact Nat.le_refl _
  · subst h; rw [List.concat_eq_append, List.dropLast_concat, wt_append]; omega
theorem stackGo_out : ∀ (ps acc out : List ByteArray), stackGo ps acc = (out, 0) → (∀ p ∈ acc, checkOf p = 0) → (∀ p ∈ out, checkOf p = 0) ∧ wt out ≤ wt acc + wt ps
  | [], acc, out, h, ha => by rw [stackGo] at h; cases h; exact ⟨ha, by omega⟩
  | p :: ps, acc, out, h, ha => by
    unfold stackGo at h
    rw [wt_cons]
    split at h
    · have := stackGo_out ps acc out h ha; exact ⟨this.1, by omega⟩
    · split at h
      · have h1 := stackGo_out ps _ out h (fun q hq => ha q (List.dropLast_subset _ hq))
        have h2 := wt_dropLast acc
        exact ⟨h1.1, by omega⟩
      · split at h
        · rename_i h3; simp only [Prod.mk.injEq] at h; exact absurd h.2 h3
        · rename_i h3
          have h1 := stackGo_out ps _ out h (fun q hq => by
            rw [List.mem_append] at hq
            rcases hq with hq | hq
            · exact ha q hq
            · simp at hq; subst hq; exact Decidable.not_not.1 h3)
          rw [wt_append, wt_cons, show wt [] = 0 from rfl] at h1
          exact ⟨h1.1, by omega⟩
theorem cut_len : ∀ l : List UInt8, wt ((cut l).map mkB) = l.length + 1
  | [] => by decide
  | b :: l => by
    have ih := cut_len l
    by_cases hb : b = 47
    · subst hb; rw [cut_stroke, List.map_cons, wt_cons, ih, size_mkB]; simp; omega
    · cases hc : cut l with
      | nil => exact absurd hc (cut_ne l)
      | cons p ps =>
        rw [hc, List.map_cons, wt_cons, size_mkB] at ih
        rw [cut_other hb hc, List.map_cons, wt_cons, size_mkB]
        simp; omega
theorem goRes_zero {a : List ByteArray × Int} {l : List ByteArray} (h : goRes a = (l, 0)) : a = (l, 0) ∧ l.length ≤ 12 := by
  obtain ⟨m, n⟩ := a
  unfold goRes at h
  split at h
  · rename_i h1; simp only [Prod.mk.injEq] at h; exact absurd h.2 h1
  · rename_i h1
    have h1 : n = 0 := Decidable.not_not.1 h1
    subst h1
    split at h
    · cases h
    · rename_i h2; simp only [Prod.mk.injEq] at h; obtain ⟨rfl, _⟩ := h; exact ⟨rfl, by simp at h2; omega⟩
theorem splitOf_zero {s : ByteArray} {l : List ByteArray} (h : splitOf s = (l, 0)) : 0 < s.size ∧ s.get! 0 = 47 ∧ s.size ≤ 200 ∧ stackGo (partsAt s 1) [] = (l, 0) ∧ l.length ≤ 12 ∧ (∀ p ∈ l, checkOf p = 0) ∧ wt l ≤ s.size := by
  unfold splitOf at h
  split at h
  · cases h
  · rename_i h1
    split at h
    · cases h
    · rename_i h2
      obtain ⟨h3, h4⟩ := goRes_zero h
      have h5 : Lib.hasPrefix s.data.toList [47] = true := by simpa using h1
      rw [hasPrefix_stroke, decide_eq_true_iff] at h5
      rw [stackGo_first h5.1 h5.2] at h3
      obtain ⟨h6, h7⟩ := stackGo_out _ _ _ h3 (fun p hp => by cases hp)
      refine ⟨h5.1, h5.2, by omega, h3, h4, h6, ?_⟩
      rw [partsAt, if_pos (by omega), cut_len, List.length_drop, len_data] at h7
      simp [wt] at h7 ⊢
      omega
theorem splitOf_go {s : ByteArray} {l : List ByteArray} (h0 : 0 < s.size) (h1 : s.get! 0 = 47) (h2 : s.size ≤ 200) (h3 : stackGo (partsAt s 1) [] = (l, 0)) (h4 : l.length ≤ 12) : splitOf s = (l, 0) := by
  unfold splitOf
  rw [hasPrefix_stroke, decide_eq_true (And.intro h0 h1), if_neg (by simp), if_neg (by omega), stackGo_first h0 h1, h3, goRes_ok rfl (by simp; omega)]
theorem get_zero (b : UInt8) (l : List UInt8) : (mkB (b :: l)).get! 0 = b := by rw [← byte_at, data_mkB]; rfl
theorem splitOf_path {l : List ByteArray} (hg : ∀ x ∈ l, checkOf x = 0) (hn : ∀ x ∈ l, NoStroke x) (h12 : l.length ≤ 12) (hw : wt l ≤ 200) : splitOf (pathOf l) = (l, 0) := by
  have h0 : 0 < (pathOf l).size := by unfold pathOf; rw [size_mkB]; simp
  have h47 : (pathOf l).get! 0 = 47 := get_zero _ _
  refine splitOf_go h0 h47 ?_ ?_ h12
  · by_cases hl : l = []
    · subst hl; decide
    · rw [pathOf_size hl]; exact hw
  · rw [← stackGo_first h0 h47, parts_path hn]
    rw [stackGo, if_pos (.inl (by rw [toList_data, data_mkB]))]
    by_cases hl : l = []
    · subst hl
      rw [if_pos rfl, stackGo, if_pos (.inl (by rw [toList_data, data_mkB]))]
      rfl
    · rw [if_neg hl]; exact stackGo_good l [] hg

end Go.Proofs.YtjldpgcbaibpcaaDoor
