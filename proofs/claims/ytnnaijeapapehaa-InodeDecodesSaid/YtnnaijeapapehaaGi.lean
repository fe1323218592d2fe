/- A region that draws its order, whatever comes up: what each operation yields, said by a property that stays when memory grows. -/
import Derived.Test.YtnnaijeapapehaaInv
namespace Go.Proofs.Ytnnaijeapapehaa
open Go.RowKit

theorem gi_same (a : Act) (d : Nat) (v : Value) (h : d < a.tmps.size) : (a.put (some d) v).tmps.getD d undef = v := by
  simp [Act.put, h]
theorem gi_ne (a : Act) (d k : Nat) (v : Value) (h : k ≠ d) : (a.put (some d) v).tmps.getD k undef = a.tmps.getD k undef := by
  simp [Act.put, Array.getElem?_setIfInBounds_ne (Ne.symm h)]
theorem gi_size (a : Act) (d : Nat) (v : Value) : (a.put (some d) v).tmps.size = a.tmps.size := by simp [Act.put]
/-- What holds whichever operations have come up. -/
structure GI (base n sz : Nat) (V : Nat → World → Value → Prop) (a0 : Act) (W1 : World) (L : Nat → Prop) (a : Act) (w : World) : Prop where
  sz : a.tmps.size = sz
  df : a.defers = a0.defers
  old : ∀ k, (k < base ∨ base + n ≤ k) → a.tmps.getD k undef = a0.tmps.getD k undef
  bel : Below W1.heap.size W1 w
  val : ∀ j, j < n → L j → V j w (a.tmps.getD (base + j) undef)
section
variable {base n sz : Nat} {V : Nat → World → Value → Prop} {a0 a : Act} {W1 w w' : World} {L : Nat → Prop}
theorem gi_start (hsz : a0.tmps.size = sz) (hb : Below W1.heap.size W1 w) : GI base n sz V a0 W1 (fun _ => False) a0 w :=
  ⟨hsz, rfl, fun _ _ => rfl, hb, fun _ _ h => h.elim⟩
theorem GI.put {v : Value} (hI : GI base n sz V a0 W1 L a w) (hmono : ∀ j w w' v, V j w v → Below w.heap.size w w' → V j w' v) (i : Nat) (hi : i < n) (hn : base + n ≤ sz) (hb : Below w.heap.size w w') (hv : V i w' v) {d : Nat} (hd : d = base + i) :
    GI base n sz V a0 W1 (fun k => L k ∨ k = i) (a.put (some d) v) w' := by
  subst hd
  have hsz := hI.sz
  refine ⟨(gi_size _ _ _).trans hI.sz, hI.df, fun k hk => ?_, hI.bel.trans (hb.mono hI.bel.size), fun j hj hL => ?_⟩
  · rw [gi_ne _ _ _ _ (by omega)]; exact hI.old k hk
  · by_cases e : j = i
    · subst e
      rw [gi_same _ _ _ (by omega)]
      exact hv
    · rw [gi_ne _ _ _ _ (by omega)]
      exact hmono _ _ _ _ (hI.val j hj (hL.resolve_right e)) hb
theorem GI.at (hI : GI base n sz V a0 W1 L a w) (j : Nat) (hj : j < n) (hL : L j) {d : Nat} (hd : d = base + j) : V j w (a.tmps.getD d undef) := by
  subst hd; exact hI.val j hj hL
end
theorem gi_some {a : Act} {v : Value} {sz : Nat} (hs : a.tmps.size = sz) (k : Nat) (hk : k < sz) (h : a.tmps.getD k undef = v) : a.tmps[k]? = some v := by
  have h1 : k < a.tmps.size := by omega
  rw [← h]
  simp [h1]
theorem gi_act {a : Act} {n : Nat} (hs : a.tmps.size = n) (hd : a.defers = []) : a = ⟨(Array.range n).map fun k => a.tmps.getD k undef, []⟩ := by
  obtain ⟨t, d⟩ := a
  simp only at hs hd
  subst hd
  congr 1
  apply Array.ext
  · simp [hs]
  · intro i h1 h2
    simp [h1]
end Go.Proofs.Ytnnaijeapapehaa
