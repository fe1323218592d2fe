/- A page of a stripe that is made again out of all others is the page that was written: plain. -/
import Derived.Test.YtnhklomofebfaaaComplete
import Derived.Test.YtnhklomofebfaaaParMath
import Derived.Test.YtnhklomofebfaaaStWrite
namespace Go.Proofs.Ytnhklomofebfaaa
open Go.RowKit

/-- The slots of all members but two. -/
theorem slots_rest (p mi : Nat) (hmp : mi ≠ p) (n : Nat) : (((List.range n).filter fun m => decide (m ≠ mi ∧ m ≠ p)).map (slotOf p)) = (List.range (if n ≤ p then n else n - 1)).filter fun i => decide (i ≠ slotOf p mi) := by
  induction n with
  | zero => simp
  | succ n ih =>
    rw [List.range_succ, List.filter_append, List.map_append, ih]
    by_cases h1 : n + 1 ≤ p
    · rw [if_pos (by omega : n ≤ p), if_pos h1, List.range_succ, List.filter_append]
      congr 1
      by_cases h2 : n = mi
      · subst h2
        have : slotOf p n = n := by unfold slotOf; rw [if_pos (by omega)]
        simp [this]
      · have e1 : slotOf p n = n := by unfold slotOf; rw [if_pos (by omega)]
        have e2 : n ≠ slotOf p mi := by unfold slotOf; split <;> omega
        have e3 : n ≠ p := by omega
        simp [e1, e2, e3, h2]
    · by_cases h3 : n = p
      · subst h3
        rw [if_pos (Nat.le_refl _), if_neg h1]
        simp
      · rw [if_neg (by omega : ¬ n ≤ p), if_neg h1]
        have e0 : n + 1 - 1 = (n - 1) + 1 := by omega
        rw [e0, List.range_succ, List.filter_append]
        congr 1
        by_cases h2 : n = mi
        · subst h2
          have : slotOf p n = n - 1 := by unfold slotOf; rw [if_neg (by omega)]
          simp [this]
        · have e1 : slotOf p n = n - 1 := by unfold slotOf; rw [if_neg (by omega)]
          have e2 : n - 1 ≠ slotOf p mi := by unfold slotOf; split <;> omega
          simp [e1, e2, h3, h2]
theorem rest_take {α : Type} (G : List α) (d : α) (k N : Nat) (hN : N ≤ G.length) : ((List.range N).filter fun i => decide (i ≠ k)).map (fun i => G.getD i d) = (G.take N).take k ++ (G.take N).drop (k + 1) := by
  induction N with
  | zero => simp
  | succ N ih =>
    have hg : G.take (N + 1) = G.take N ++ [G.getD N d] := by
      rw [List.take_add_one]
      congr 1
      simp [List.getD, show N < G.length by omega]
    have hl : (G.take N).length = N := by rw [List.length_take]; omega
    rw [List.range_succ, List.filter_append, List.map_append, ih (by omega), hg]
    by_cases h1 : N < k
    · rw [List.take_of_length_le (show (G.take N).length ≤ k by omega), List.drop_of_length_le (show (G.take N).length ≤ k + 1 by omega), List.take_of_length_le (show (G.take N ++ [G.getD N d]).length ≤ k by rw [List.length_append, hl]; simp; omega), List.drop_of_length_le (show (G.take N ++ [G.getD N d]).length ≤ k + 1 by rw [List.length_append, hl]; simp; omega)]
      simp [show N ≠ k by omega]
    · by_cases h2 : N = k
      · subst h2
        rw [List.take_append_of_le_length (by omega), List.drop_of_length_le (show (G.take N ++ [G.getD N d]).length ≤ N + 1 by rw [List.length_append, hl]; simp), List.drop_of_length_le (show (G.take N).length ≤ N + 1 by omega)]
        simp
      · rw [List.take_append_of_le_length (by omega), List.drop_append_of_le_length (by omega)]
        simp [h2]
section
variable {n p mi : Nat} {G : List PG} {P : PG} {F : Nat → FD}
theorem rest_map {β : Type} (f : PG → β) (hlen : G.length + 1 = n) (hp : p < n) (hmp : mi ≠ p) (hF : ∀ m, m < n → m ≠ mi → f (F m).pg = f (onAt p G P m)) : (restL F mi p n).map f = ((restOf G (slotOf p mi)).map f).reverse := by
  have h1 : (restL F mi p n).map f = (((List.range n).filter fun m => decide (m ≠ mi ∧ m ≠ p)).map (slotOf p)).map fun i => f (G.getD i PG.nil) := by
    unfold restL
    rw [List.map_map, List.map_map]
    apply List.map_congr_left
    intro m hm
    have h2 := List.mem_filter.1 hm
    have h3 : m < n := List.mem_range.1 h2.1
    have h4 : m ≠ mi ∧ m ≠ p := by simpa using h2.2
    show f (F m).pg = f (G.getD (slotOf p m) PG.nil)
    rw [hF m h3 h4.1]
    unfold onAt
    rw [if_neg h4.2]
  rw [h1, slots_rest p mi hmp n, if_neg (by omega : ¬ n ≤ p)]
  have h5 := rest_take G PG.nil (slotOf p mi) (n - 1) (by omega)
  rw [show n - 1 = G.length by omega] at h5 ⊢
  rw [List.take_length] at h5
  unfold restOf
  rw [← List.map_reverse, List.reverse_reverse, ← h5, List.map_map]
  rfl
theorem xorL_turn (A : List (List Nat)) (x : List Nat) : xorL (A.reverse ++ [x]) = xorL (A ++ [x]) := by
  apply list_ext_getD
  · rw [xorL_len, xorL_len, lgL_append, lgL_append, lgL_reverse]
  · intro j
    rw [xorL_getD, xorL_getD, xatL_append, xatL_append, xatL_reverse]
variable (hlen : G.length + 1 = n) (hp : p < n) (hmi : mi < n) (hmp : mi ≠ p) (hF : ∀ m, m < n → m ≠ mi → (F m).d.l = (onAt p G P m).d.l ∧ (F m).o.l = (onAt p G P m).o.l)
include hlen hp hmp hF
theorem outD_rest : outD (F p).pg (restL F mi p n) = outD P (restOf G (slotOf p mi)) := by
  have h1 := rest_map (f := fun g => g.d.l) hlen hp hmp (fun m hm hn => (hF m hm hn).1)
  have h2 := (hF p hp (fun e => hmp e.symm)).1
  unfold onAt at h2
  rw [if_pos rfl] at h2
  unfold outD dsOf
  rw [h1, xorL_turn]
  show xorL (_ ++ [(F p).d.l]) = _
  rw [h2]
theorem outO_rest : outO (F p).pg (restL F mi p n) = outO P (restOf G (slotOf p mi)) := by
  have h1 := rest_map (f := fun g => g.o.l.take 32) hlen hp hmp (fun m hm hn => by show (F m).o.l.take 32 = _; rw [(hF m hm hn).2])
  have h2 := (hF p hp (fun e => hmp e.symm)).2
  unfold onAt at h2
  rw [if_pos rfl] at h2
  unfold outO hsOf
  rw [h1, xorL_turn]
  show xorL (_ ++ [(F p).o.l.drop 32]) ++ _ = _
  rw [h2]
variable {size : Nat} (hG : Sealed G size) {W : RH} (hd : P.d.l = xorL (dsOf G)) (ho : P.o.l = sealB W (xorL (dsOf G)) (xorL (hsOf G)))
include hmi hG hd ho
/-- The page made again. -/
theorem remade : outD (F p).pg (restL F mi p n) = (onAt p G P mi).d.l ∧ outO (F p).pg (restL F mi p n) = (onAt p G P mi).o.l ∧ OpenOk (outD (F p).pg (restL F mi p n)) (outO (F p).pg (restL F mi p n)) := by
  have hk : slotOf p mi < G.length := by unfold slotOf; split <;> omega
  rw [outD_rest hlen hp hmp hF, outO_rest hlen hp hmp hF]
  have e : onAt p G P mi = G.getD (slotOf p mi) PG.nil := by unfold onAt; rw [if_neg hmp]
  rw [e]
  exact ⟨back_d hG hk hd, back_o hG hk ho, back_ok hG hk hd ho⟩
end

end Go.Proofs.Ytnhklomofebfaaa
