/- Parts together, as lists. -/
import Derived.Test.YtmggjknljbpbgaaXorR
namespace Go.Proofs.Ytmggjknljbpbgaa
open Go.RowKit

def lgL : List (List Nat) → Nat
  | [] => 0
  | x :: t => max x.length (lgL t)
def xatL (j : Nat) : List (List Nat) → Nat
  | [] => 0
  | x :: t => x.getD j 0 ^^^ xatL j t
/-- Parts together. -/
def xorL (l : List (List Nat)) : List Nat := (List.range (lgL l)).map fun j => xatL j l
theorem xorL_len (l : List (List Nat)) : (xorL l).length = lgL l := by simp [xorL]
theorem lgL_append (a b : List (List Nat)) : lgL (a ++ b) = max (lgL a) (lgL b) := by
  induction a with
  | nil => simp [lgL]
  | cons x t ih => rw [List.cons_append, lgL, lgL, ih, Nat.max_assoc]
theorem xatL_append (j : Nat) (a b : List (List Nat)) : xatL j (a ++ b) = xatL j a ^^^ xatL j b := by
  induction a with
  | nil => simp [xatL]
  | cons x t ih => rw [List.cons_append, xatL, xatL, ih, Nat.xor_assoc]
theorem lgL_le {a : List (List Nat)} {m : Nat} (h : ∀ x ∈ a, x.length ≤ m) : lgL a ≤ m := by
  induction a with
  | nil => exact Nat.zero_le _
  | cons x t ih =>
    have h1 := h x (by simp)
    have h2 := ih fun y hy => h y (by simp [hy])
    rw [lgL]; omega
theorem lgL_reverse (a : List (List Nat)) : lgL a.reverse = lgL a := by
  induction a with
  | nil => rfl
  | cons x t ih => rw [List.reverse_cons, lgL_append, ih, lgL, lgL, lgL, Nat.max_zero, Nat.max_comm]
theorem xatL_reverse (j : Nat) (a : List (List Nat)) : xatL j a.reverse = xatL j a := by
  induction a with
  | nil => rfl
  | cons x t ih => rw [List.reverse_cons, xatL_append, ih, xatL, xatL, xatL, Nat.xor_zero, Nat.xor_comm]
theorem xorL_reverse (a : List (List Nat)) : xorL a.reverse = xorL a := by
  unfold xorL
  rw [lgL_reverse]
  exact List.map_congr_left fun j _ => xatL_reverse j a
theorem xatL_beyond {a : List (List Nat)} {j : Nat} (h : lgL a ≤ j) : xatL j a = 0 := by
  induction a with
  | nil => rfl
  | cons x t ih =>
    rw [lgL] at h
    rw [xatL, ih (by omega)]
    simp [List.getD, List.getElem?_eq_none (show x.length ≤ j by omega)]
theorem xorL_getD (a : List (List Nat)) (j : Nat) : (xorL a).getD j 0 = xatL j a := by
  by_cases h : j < lgL a
  · simp [xorL, List.getD, h]
  · rw [xatL_beyond (Nat.le_of_not_lt h)]
    simp [xorL, List.getD, h]
theorem list_ext_getD {a b : List Nat} (hl : a.length = b.length) (h : ∀ j, a.getD j 0 = b.getD j 0) : a = b := by
  apply List.ext_getElem hl
  intro i h1 h2
  have := h i
  rwa [getD_in _ _ h1, getD_in _ _ h2] at this
theorem xorL_two (a b : List (List Nat)) : xorL [xorL a, xorL b] = xorL (a ++ b) := by
  apply list_ext_getD
  · rw [xorL_len, xorL_len, lgL_append, lgL, lgL, lgL, xorL_len, xorL_len, Nat.max_zero]
  · intro j
    rw [xorL_getD, xorL_getD, xatL_append, xatL, xatL, xatL, xorL_getD, xorL_getD, Nat.xor_zero]
theorem xorL_self (x : List Nat) : xorL [x, x] = List.replicate x.length 0 := by
  apply list_ext_getD
  · rw [xorL_len, lgL, lgL, lgL]; simp
  · intro j
    rw [xorL_getD, xatL, xatL, xatL, Nat.xor_zero, Nat.xor_self]
    by_cases h : j < x.length <;> simp [List.getD, h]
theorem xorL_one (x : List Nat) : xorL [x] = x := by
  apply list_ext_getD
  · rw [xorL_len, lgL, lgL, Nat.max_zero]
  · intro j
    rw [xorL_getD, xatL, xatL, Nat.xor_zero]
/-- The way of the walks is the lists' way. -/
theorem longest_eq (B : Nat → List Nat) (n : Nat) : longest B n = lgL ((List.range n).map B) := by
  induction n with
  | zero => rfl
  | succ n ih =>
    rw [List.range_succ, List.map_append, lgL_append, ← ih, longest]
    simp only [List.map_cons, List.map_nil, lgL, Nat.max_zero]
    split <;> omega
theorem xorAt_eq (B : Nat → List Nat) (j n : Nat) : xorAt B j n = xatL j ((List.range n).map B) := by
  induction n with
  | zero => rfl
  | succ n ih =>
    rw [List.range_succ, List.map_append, xatL_append, ← ih, xorAt]
    simp [xatL]
theorem xorB_eq (B : Nat → List Nat) (n : Nat) : xorB B n = xorL ((List.range n).map B) := by
  unfold xorB xorTo xorL
  rw [longest_eq]
  exact List.map_congr_left fun j _ => xorAt_eq B j n

def PS.nil : PS := ⟨none, 0, 0, []⟩
/-- Parts, as a list. -/
def PartsL (W : World) (a : Option Addr) (L : List PS) : Prop := PartsAt W a L.length (fun i => L.getD i PS.nil)
theorem range_getD (L : List PS) : (List.range L.length).map (fun i => (L.getD i PS.nil).l) = L.map PS.l := by
  apply List.ext_getElem
  · simp
  · intro i h1 h2
    have hi : i < L.length := by simpa using h1
    simp [List.getD, hi]
theorem PartsL.keep {W W' : World} {a : Option Addr} {L : List PS} {B : Nat} (h : PartsL W a L) (hb : Below B W W') (hB : W.heap.size ≤ B) : PartsL W' a L := PartsAt.keep h hb hB
theorem PartsL.step {W W' : World} {a : Option Addr} {L : List PS} (h : PartsL W a L) (hb : Below W.heap.size W W') : PartsL W' a L := PartsAt.keep h hb (Nat.le_refl _)
theorem partsL_mem {W : World} {a : Option Addr} {L : List PS} (h : PartsL W a L) : ∀ p ∈ L, PartOk W p := by
  intro p hp
  obtain ⟨i, hi, rfl⟩ := List.getElem_of_mem hp
  have := h.2 i hi
  simpa [List.getD, hi] using this
theorem xorL_any (a : Option Addr) (c : Nat) (L : List PS) (n : Nat) (w : World) (hn : n = L.length) (hp : PartsL w a L) (hm : n ≤ 100000) (hl : ∀ p ∈ L, p.n ≤ 100000) :
    Calls Try.prog 34 #[.slice a n c] w (RetOwn w (xorL (L.map PS.l))) := by
  subst hn
  rw [← range_getD, ← xorB_eq (fun i => (L.getD i PS.nil).l)]
  refine xor_any a L.length c (fun i => L.getD i PS.nil) w hp hm fun i hi => ?_
  have : L.getD i PS.nil ∈ L := by simp [List.getD, hi]
  exact hl _ this
theorem refXorL_any (a : Option Addr) (c : Nat) (L : List PS) (n : Nat) (w : World) (hn : n = L.length) (hp : PartsL w a L) (hm : n ≤ 100000) (hl : ∀ p ∈ L, p.n ≤ 100000) :
    Calls Try.prog 36 #[.slice a n c] w (RetOwn w (xorL (L.map PS.l))) := by
  subst hn
  rw [← range_getD, ← xorB_eq (fun i => (L.getD i PS.nil).l)]
  refine refXor_any a L.length c (fun i => L.getD i PS.nil) w hp hm fun i hi => ?_
  have : L.getD i PS.nil ∈ L := by simp [List.getD, hi]
  exact hl _ this

end Go.Proofs.Ytmggjknljbpbgaa
