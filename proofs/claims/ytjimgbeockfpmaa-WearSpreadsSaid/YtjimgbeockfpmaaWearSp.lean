/- WearSpreads: what holds all the way, plain. -/
import Derived.Test.YtjimgbeockfpmaaWearM
namespace Go.Proofs.Ytjimgbeockfpmaa
open Go.RowKit

theorem cntK_set (K : Int) (L : List SegV) (m : Nat) (s : SegV) (hm : m < L.length) : ∀ n, (m < n → cntK K (L.set m s) n + (if (L.getD m SegV.nil).k = K then 1 else 0) = cntK K L n + (if s.k = K then 1 else 0)) ∧ (n ≤ m → cntK K (L.set m s) n = cntK K L n)
  | 0 => ⟨fun h => by omega, fun _ => rfl⟩
  | n + 1 => by
    obtain ⟨h1, h2⟩ := cntK_set K L m s hm n
    have e := setG_at L m n s hm
    constructor
    · intro h
      unfold cntK
      rw [e]
      by_cases q : n = m
      · subst q
        rw [if_pos rfl, h2 (Nat.le_refl _)]
        omega
      · rw [if_neg q]
        have := h1 (by omega)
        omega
    · intro h
      unfold cntK
      rw [e, if_neg (show ¬ n = m by omega), h2 (by omega)]
theorem cntK_pos {K : Int} {L : List SegV} : ∀ {n m : Nat}, m < n → (L.getD m SegV.nil).k = K → 0 < cntK K L n
  | 0, _, h, _ => by omega
  | n + 1, m, h, hk => by
    unfold cntK
    rcases Nat.lt_or_ge m n with q | q
    · have := cntK_pos (n := n) q hk
      omega
    · obtain rfl : m = n := by omega
      rw [if_pos hk]; omega
theorem cntK_all {K : Int} {L : List SegV} : ∀ {n : Nat}, (∀ j, j < n → (L.getD j SegV.nil).k = K) → cntK K L n = n
  | 0, _ => rfl
  | n + 1, h => by
    have h1 := cntK_all (n := n) (fun j hj => h j (by omega))
    have h2 := h n (by omega)
    unfold cntK
    rw [h1, if_pos h2]
theorem leE_le (L : List SegV) : ∀ {n j : Nat}, j < n → leE L n ≤ (L.getD j SegV.nil).e
  | 0, _, h => by omega
  | n + 1, j, h => by
    show min (leE L n) (L.getD n SegV.nil).e ≤ _
    rcases Nat.lt_or_ge j n with q | q
    · have := leE_le L (n := n) q
      omega
    · obtain rfl : j = n := by omega
      omega
theorem moE_ge (L : List SegV) : ∀ {n j : Nat}, j < n → (L.getD j SegV.nil).e ≤ moE L n
  | 0, _, h => by omega
  | n + 1, j, h => by
    show _ ≤ max (moE L n) (L.getD n SegV.nil).e
    rcases Nat.lt_or_ge j n with q | q
    · have := moE_ge L (n := n) q
      omega
    · obtain rfl : j = n := by omega
      omega
theorem moE_is (L : List SegV) : ∀ n, ∃ j, (j < n ∨ j = 0) ∧ moE L n = (L.getD j SegV.nil).e
  | 0 => ⟨0, .inr rfl, rfl⟩
  | n + 1 => by
    obtain ⟨j, h, e⟩ := moE_is L n
    show ∃ j, (j < n + 1 ∨ j = 0) ∧ max (moE L n) (L.getD n SegV.nil).e = _
    rcases Nat.le_total (moE L n) (L.getD n SegV.nil).e with q | q
    · exact ⟨n, by omega, by omega⟩
    · exact ⟨j, by omega, by omega⟩
theorem leE_is (L : List SegV) : ∀ n, ∃ j, (j < n ∨ j = 0) ∧ leE L n = (L.getD j SegV.nil).e
  | 0 => ⟨0, .inr rfl, rfl⟩
  | n + 1 => by
    obtain ⟨j, h, e⟩ := leE_is L n
    show ∃ j, (j < n + 1 ∨ j = 0) ∧ min (leE L n) (L.getD n SegV.nil).e = _
    rcases Nat.le_total (leE L n) (L.getD n SegV.nil).e with q | q
    · exact ⟨j, by omega, by omega⟩
    · exact ⟨n, by omega, by omega⟩
/-- What holds all the way. -/
structure SpI (L : List SegV) (n i : Nat) : Prop where
  len : L.length = n
  four : 4 ≤ n
  kind : ∀ j, j < n → (L.getD j SegV.nil).k = 0 ∨ (L.getD j SegV.nil).k = 2
  few : ∀ j, j < n → (L.getD j SegV.nil).e ≤ i
  near : ∀ j l, j < n → l < n → (L.getD j SegV.nil).e ≤ (L.getD l SegV.nil).e + 9
  free : 1 ≤ cntK 0 L n
  first : 2 ≤ cntK 0 L n → ∀ j, j < n → (L.getD j SegV.nil).e ≤ 1 ∧ ((L.getD j SegV.nil).k = 0 → (L.getD j SegV.nil).e = 0)
def freshL (n : Nat) : List SegV := List.replicate n SegV.nil
theorem freshL_at (n j : Nat) : (freshL n).getD j SegV.nil = SegV.nil := by
  unfold freshL
  rcases Nat.lt_or_ge j n with h | h
  · simp [List.getD, h]
  · simp [List.getD, h]
theorem spI_fresh (n : Nat) (h : 4 ≤ n) : SpI (freshL n) n 0 := by
  have hc : cntK 0 (freshL n) n = n := cntK_all fun j _ => by rw [freshL_at]; rfl
  refine ⟨by simp [freshL], h, fun j _ => .inl (by rw [freshL_at]; rfl), fun j _ => by rw [freshL_at]; exact Nat.le_refl _, fun j l _ _ => by rw [freshL_at, freshL_at]; decide, by omega, fun _ j _ => by rw [freshL_at]; decide⟩
/-- Two or more are free: one of them is filled. -/
theorem spI_many {L : List SegV} {n i m : Nat} (h : SpI L n i) (h2 : 2 ≤ cntK 0 L n) (hm : m < n) (hk : (L.getD m SegV.nil).k = 0) (x : Int) :
    SpI (L.set m ⟨2, x, (L.getD m SegV.nil).e + 1⟩) n (i + 1) := by
  have hml : m < L.length := by rw [h.len]; exact hm
  have e0 := (h.first h2 m hm).2 hk
  have hc := (cntK_set 0 L m ⟨2, x, (L.getD m SegV.nil).e + 1⟩ hml n).1 hm
  rw [if_pos hk, if_neg (by show ¬ (2 : Int) = 0; decide)] at hc
  have hat := fun j => setG_at L m j ⟨2, x, (L.getD m SegV.nil).e + 1⟩ hml
  have hone : ∀ j, j < n → ((L.set m ⟨2, x, (L.getD m SegV.nil).e + 1⟩).getD j SegV.nil).e ≤ 1 := by
    intro j hj
    rw [hat]
    split
    · show (L.getD m SegV.nil).e + 1 ≤ 1; omega
    · exact (h.first h2 j hj).1
  refine ⟨by rw [List.length_set]; exact h.len, h.four, fun j hj => ?_, fun j hj => ?_, fun j l hj hl => ?_, by omega, fun _ j hj => ⟨hone j hj, ?_⟩⟩
  · rw [hat]; split
    · exact .inr rfl
    · exact h.kind j hj
  · have := hone j hj; omega
  · have := hone j hj; omega
  · rw [hat]; split
    · intro q; exact absurd q (by show ¬ (2 : Int) = 0; decide)
    · exact (h.first h2 j hj).2
/-- One is free: one that is closed is cleared, then one is filled. -/
theorem spI_one {L : List SegV} {n i v m : Nat} {r : Int} (h : SpI L n i) (h2 : cntK 0 L n < 2) (hv : VictimIs L (v : Int)) (hvn : v < n) (hvk : (L.getD v SegV.nil).k = 2)
    (hm : FirstIs ordN 0 (L.set v ⟨0, 0, (L.getD v SegV.nil).e⟩) n r) (hr : r = (m : Int)) (x : Int) :
    SpI ((L.set v ⟨0, 0, (L.getD v SegV.nil).e⟩).set m ⟨2, x, ((L.set v ⟨0, 0, (L.getD v SegV.nil).e⟩).getD m SegV.nil).e + 1⟩) n (i + 1) := by
  have hvl : v < L.length := by rw [h.len]; exact hvn
  obtain ⟨M, hM⟩ : ∃ M, M = L.set v ⟨0, 0, (L.getD v SegV.nil).e⟩ := ⟨_, rfl⟩
  have hMl : M.length = n := by rw [hM, List.length_set]; exact h.len
  have hMat : ∀ j, M.getD j SegV.nil = if j = v then ⟨0, 0, (L.getD v SegV.nil).e⟩ else L.getD j SegV.nil := fun j => by rw [hM]; exact setG_at L v j _ hvl
  have hMe : ∀ j, (M.getD j SegV.nil).e = (L.getD j SegV.nil).e := by
    intro j; rw [hMat]; split
    · rename_i q; subst q; rfl
    · rfl
  have hMc := (cntK_set 0 L v ⟨0, 0, (L.getD v SegV.nil).e⟩ hvl n).1 hvn
  rw [← hM, if_neg (by rw [hvk]; decide), if_pos rfl] at hMc
  rw [← hM] at hm
  rw [← hM]
  rcases hm with ⟨q, _⟩ | ⟨m', h1, q, h3, h4⟩
  · omega
  obtain rfl : m = m' := by omega
  have hml : m < M.length := by omega
  have hat := fun j => setG_at M m j ⟨2, x, (M.getD m SegV.nil).e + 1⟩ hml
  have hc := (cntK_set 0 M m ⟨2, x, (M.getD m SegV.nil).e + 1⟩ hml n).1 h1
  rw [if_pos h3, if_neg (by show ¬ (2 : Int) = 0; decide)] at hc
  have hf := h.free
  have hleast : ∀ j, j < n → (M.getD j SegV.nil).k = 0 → (L.getD m SegV.nil).e ≤ (L.getD j SegV.nil).e := by
    intro j hj hk
    have h5 := (h4 j hj hk).1
    rw [ordN_lt, hMe, hMe] at h5
    omega
  have hup : ∀ l, l < n → (L.getD m SegV.nil).e ≤ (L.getD l SegV.nil).e + 8 := by
    intro l hl
    unfold VictimIs at hv
    rw [h.len] at hv
    split at hv
    · rcases hv with ⟨q, _⟩ | ⟨v', _, q, _, hv4⟩
      · omega
      obtain rfl : v = v' := by omega
      have hmv := hleast v hvn (by rw [hMat, if_pos rfl])
      rcases h.kind l hl with hk | hk
      · have hlv : l ≠ v := fun e => by rw [e, hvk] at hk; exact absurd hk (by decide)
        have := hleast l hl (by rw [hMat, if_neg hlv]; exact hk)
        omega
      · have h6 := (hv4 l hl hk).1
        rw [ordE_lt] at h6
        omega
    · rename_i hs
      have h5 := moE_ge L (n := n) h1
      have h6 := leE_le L (n := n) hl
      unfold spreadE at hs
      rw [h.len, if_neg (by have := h.four; omega)] at hs
      omega
  refine ⟨by rw [List.length_set]; exact hMl, h.four, fun j hj => ?_, fun j hj => ?_, fun j l hj hl => ?_, by omega, fun q => by omega⟩
  · rw [hat]; split
    · exact .inr rfl
    · rw [hMat]; split
      · exact .inl rfl
      · exact h.kind j hj
  · rw [hat]; split
    · have := h.few m h1
      show (M.getD m SegV.nil).e + 1 ≤ i + 1
      rw [hMe]; omega
    · rw [hMe]
      have := h.few j hj; omega
  · have hge : (L.getD l SegV.nil).e ≤ ((M.set m ⟨2, x, (M.getD m SegV.nil).e + 1⟩).getD l SegV.nil).e := by
      rw [hat]; split
      · rename_i q; subst q
        show _ ≤ (M.getD l SegV.nil).e + 1
        rw [hMe]; omega
      · rw [hMe]; exact Nat.le_refl _
    have hle : ((M.set m ⟨2, x, (M.getD m SegV.nil).e + 1⟩).getD j SegV.nil).e ≤ (L.getD l SegV.nil).e + 9 := by
      rw [hat]; split
      · show (M.getD m SegV.nil).e + 1 ≤ _
        rw [hMe]; have := hup l hl; omega
      · rw [hMe]; exact h.near j l hj hl
    omega
/-- One is closed where one is free. -/
theorem spI_closed {L : List SegV} {n i : Nat} {r : Int} (h : SpI L n i) (h2 : cntK 0 L n < 2) (hv : VictimIs L r) : ∃ v : Nat, r = (v : Int) ∧ v < n ∧ (L.getD v SegV.nil).k = 2 := by
  rcases (show r = -1 ∧ (∀ j, j < n → (L.getD j SegV.nil).k ≠ 2) ∨ ∃ v : Nat, v < n ∧ r = (v : Int) ∧ (L.getD v SegV.nil).k = 2 by
    unfold VictimIs at hv
    rw [h.len] at hv
    split at hv
    · rcases hv with q | ⟨v, q1, q2, q3, _⟩
      · exact .inl q
      · exact .inr ⟨v, q1, q2, q3⟩
    · rcases hv with q | ⟨v, q1, q2, q3, _⟩
      · exact .inl q
      · exact .inr ⟨v, q1, q2, q3⟩) with ⟨_, q⟩ | ⟨v, q1, q2, q3⟩
  · exfalso
    have hc : cntK 0 L n = n := cntK_all fun j hj => (h.kind j hj).resolve_right (q j hj)
    have := h.four
    omega
  · exact ⟨v, q2, q1, q3⟩
/-- One is free where any is. -/
theorem next_free {L : List SegV} {n : Nat} {r : Int} (hc : 1 ≤ cntK 0 L n) (h : FirstIs ordN 0 L n r) : ∃ m : Nat, r = (m : Int) ∧ m < n ∧ (L.getD m SegV.nil).k = 0 := by
  rcases h with ⟨_, q⟩ | ⟨m, q1, q2, q3, _⟩
  · have hz : cntK 0 L n = 0 := by
      clear hc
      induction n with
      | zero => rfl
      | succ n ih =>
        have h1 := ih (fun j hj => q j (by omega))
        have h2 := q n (by omega)
        unfold cntK
        rw [h1, if_neg h2]
    omega
  · exact ⟨m, q2, q1, q3⟩
theorem spI_end {L : List SegV} {n i : Nat} (h : SpI L n i) : moE L n - leE L n ≤ 9 := by
  obtain ⟨j, hj, e1⟩ := moE_is L n
  obtain ⟨l, hl, e2⟩ := leE_is L n
  have := h.four
  have := h.near j l (by omega) (by omega)
  omega
end Go.Proofs.Ytjimgbeockfpmaa
