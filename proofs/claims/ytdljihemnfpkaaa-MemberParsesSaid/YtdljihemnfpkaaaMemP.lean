/- Who may be a member: plain. -/
import Derived.Test.YtdljihemnfpkaaaGeoRef
namespace Go.Proofs.Ytdljihemnfpkaaa
open Go.RowKit Go.Deep

/-- All of them there, each once, none beyond c. -/
def Apart (c : Nat) (L : List Int) : Prop := (∀ x ∈ L, 0 ≤ x ∧ x ≤ (c : Int)) ∧ L.Nodup
instance (c : Nat) (L : List Int) : Decidable (Apart c L) := by unfold Apart; infer_instance
/-- Which have been met among the first k. -/
def takenC (L : List Int) (k j : Nat) : Value := .bool (decide ((j : Int) ∈ L.take k))
theorem takenC_zero (L : List Int) (j : Nat) : takenC L 0 j = .bool false := by simp [takenC]
theorem take_more (L : List Int) (k : Nat) (h : k < L.length) : L.take (k + 1) = L.take k ++ [L.getD k 0] := by
  rw [List.take_succ_eq_append_getElem h]; simp [List.getD, h]
theorem takenC_more {L : List Int} {k m : Nat} (h : k < L.length) (hm : L.getD k 0 = (m : Int)) (j : Nat) : (if j = m then Value.bool true else takenC L k j) = takenC L (k + 1) j := by
  unfold takenC
  rw [take_more L k h, hm]
  by_cases e : j = m
  · subst e; simp
  · rw [if_neg e]
    have : ¬ ((j : Int) = (m : Int)) := by omega
    simp [this]
theorem apart_nil (c : Nat) : Apart c [] := ⟨by simp, List.nodup_nil⟩
theorem apart_more {c : Nat} {L : List Int} {k m : Nat} (h : Apart c (L.take k)) (hk : k < L.length) (hm : L.getD k 0 = (m : Int)) (hc : m ≤ c) (hn : ¬ (m : Int) ∈ L.take k) : Apart c (L.take (k + 1)) := by
  rw [take_more L k hk, hm]
  refine ⟨fun x hx => ?_, ?_⟩
  · rw [List.mem_append, List.mem_singleton] at hx
    rcases hx with hx | rfl
    · exact h.1 x hx
    · omega
  · rw [List.nodup_append]
    refine ⟨h.2, by simp, fun a ha b hb => ?_⟩
    rw [List.mem_singleton] at hb
    subst hb
    intro e
    subst e
    exact hn ha
theorem apart_not {c : Nat} {L : List Int} {k : Nat} (hk : k < L.length) (h : L.getD k 0 < 0 ∨ (c : Int) < L.getD k 0 ∨ L.getD k 0 ∈ L.take k) : ¬ Apart c L := by
  intro ha
  have hm : L.getD k 0 ∈ L := by simp [List.getD, hk]
  rcases h with h | h | h
  · have := (ha.1 _ hm).1; omega
  · have := (ha.1 _ hm).2; omega
  · have e : L.take (k + 1) = L.take k ++ [L.getD k 0] := take_more L k hk
    have h2 : (L.take (k + 1)).Nodup := ha.2.sublist (List.take_sublist _ _)
    rw [e, List.nodup_append] at h2
    exact h2.2.2 _ h _ (by simp) rfl
end Go.Proofs.Ytdljihemnfpkaaa
