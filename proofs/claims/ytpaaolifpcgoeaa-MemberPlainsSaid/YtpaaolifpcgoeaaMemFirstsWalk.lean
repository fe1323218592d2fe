/- MemberFirsts: the walk. -/
import Derived.Test.YtpaaolifpcgoeaaMemSet
namespace Go.Proofs.Ytpaaolifpcgoeaa
open Go.RowKit Go.Deep

theorem firstL_mem (n : Nat) (x : Int) : x ∈ firstL n ↔ 0 ≤ x ∧ x < (n : Int) := by
  unfold firstL
  rw [List.mem_map]
  constructor
  · rintro ⟨i, hi, rfl⟩
    have := List.mem_range.1 hi
    omega
  · intro h
    exact ⟨x.toNat, List.mem_range.2 (by omega), by omega⟩
theorem firstL_nodup : ∀ n : Nat, (firstL n).Nodup
  | 0 => by simp [firstL]
  | n + 1 => by
    rw [firstL_more, List.nodup_append]
    refine ⟨firstL_nodup n, by simp, fun a ha b hb e => ?_⟩
    rw [List.mem_singleton] at hb
    have := (firstL_mem n a).1 ha
    omega
theorem setOk_first (n : Nat) (bl : Int) (hn : n ≤ 16) (hb : 16 ≤ bl) : setOk n bl (firstL n) (n : Int) 255 0 := by
  refine ⟨firstL_len n, .inl rfl, ⟨⟨by omega, by omega⟩, .inl rfl⟩, ?_⟩
  rw [if_neg (by omega), ← firstL_more]
  exact ⟨fun x hx => by have := (firstL_mem _ x).1 hx; omega, firstL_nodup _⟩
end Go.Proofs.Ytpaaolifpcgoeaa
