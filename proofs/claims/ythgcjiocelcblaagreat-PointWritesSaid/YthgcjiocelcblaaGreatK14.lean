/- A region that draws its order, by what holds whichever operations have come up. -/
import Derived.Test.YthgcjiocelcblaaGreatK00
import Derived.Orders
import Derived.RegionTactic
namespace Go.Proofs.YthgcjiocelcblaaGreat
open Go.RowKit

theorem count_set (l : List Bool) (i : Nat) (h : l[i]? = some false) : (l.set i true).count false + 1 = l.count false := by
  induction l generalizing i with
  | nil => simp at h
  | cons x l ih =>
    cases i with
    | zero => simp at h; subst h; simp
    | succ i =>
      simp at h
      have := ih i h
      cases x <;> simp at this ⊢ <;> omega
/-- Whatever order is drawn: I holds all the way, if each operation keeps it that may come up. -/
theorem wpAny_inv {P : Program} {ops : Array Oper} {Q : Exit → Act → World → Prop} {md : Region.Mode} (I : (Nat → Prop) → Act → World → Prop)
    (hback : ∀ (i : Nat) (o : Oper), ops[i]? = some o → ∀ e : Edge, e ∈ o.after → e.on < i)
    (hstep : ∀ (L : Nat → Prop) (a : Act) (w : World) (i : Nat) (o : Oper), I L a w → ops[i]? = some o → ¬ L i → (∀ e ∈ o.after, Region.binds md e = true → L e.on) → wpOp P ops Q i (I (fun k => L k ∨ k = i)) a w)
    (hend : ∀ (L : Nat → Prop) (a : Act) (w : World), I L a w → (∀ i, i < ops.size → L i) → Q .normal a w) :
    ∀ (fuel : Nat) (listed : Array Bool) (a : Act) (w : World), listed.size = ops.size → listed.toList.count false ≤ fuel → I (fun k => listed.getD k false = true) a w → wpAny P md ops Q fuel listed a w := by
  have hall : ∀ listed : Array Bool, listed.size = ops.size → Region.ready md ops listed = [] → ∀ i, i < ops.size → listed.getD i false = true := by
    intro listed hsz h0 i
    induction i using Nat.strongRecOn with
    | _ i ih =>
      intro hi
      by_cases h1 : listed.getD i false = true
      · exact h1
      · exfalso
        have h2 : i ∈ Region.ready md ops listed := by
          rw [mem_ready]
          refine ⟨?_, ops[i], by simp [hi], fun e he _ => ?_⟩
          · have h3 : i < listed.size := by omega
            simp [h3] at h1 ⊢
            exact h1
          · have := hback i ops[i] (by simp [hi]) e he
            exact ih e.on this (by omega)
        rw [h0] at h2; cases h2
  intro fuel
  induction fuel with
  | zero =>
    intro listed a w hsz hc hI
    have h0 : Region.ready md ops listed = [] := by
      rw [List.eq_nil_iff_forall_not_mem]
      intro i hi
      obtain ⟨h1, o, ho, _⟩ := mem_ready.1 hi
      have h3 : i < listed.size := by rw [hsz]; exact (Array.getElem?_eq_some_iff.1 ho).1
      simp [Array.getD, h3] at h1
      have h4 : false ∈ listed.toList := by rw [← h1]; simp
      have := List.count_pos_iff.2 h4
      omega
    exact ⟨h0, hend _ a w hI (hall listed hsz h0)⟩
  | succ fuel ih =>
    intro listed a w hsz hc hI
    refine ⟨fun h0 => hend _ a w hI (hall listed hsz h0), fun i hi => ?_⟩
    obtain ⟨h1, o, ho, hpre⟩ := mem_ready.1 hi
    have h3 : i < listed.size := by rw [hsz]; exact (Array.getElem?_eq_some_iff.1 ho).1
    have h1' : listed[i] = false := by simpa [Array.getD, h3] using h1
    have hnot : ¬ listed.getD i false = true := by simp [Array.getD, h3, h1']
    refine wpOp_mono (fun a' w' hI' => ih _ a' w' (by simpa using hsz) ?_ ?_) (hstep _ a w i o hI ho hnot hpre)
    · have h5 := count_set listed.toList i (by simp [h3, h1'])
      have h6 : (listed.setIfInBounds i true).toList = listed.toList.set i true := by simp
      rw [h6]; omega
    · have e : (fun k => (listed.setIfInBounds i true).getD k false = true) = (fun k => listed.getD k false = true ∨ k = i) := by
        funext k
        by_cases hk : k = i
        · subst hk; simp [Array.getD, h3]
        · have hk2 : i ≠ k := fun e => hk e.symm
          rw [getD_set_ne false hk2]
          simp [hk]
      rw [e]; exact hI'
theorem wp_region_inv {P : Program} {ops : Array Oper} {Q : Exit → Act → World → Prop} {id : Nat} {a : Act} {w : World} (hm : P.follows .mixedOrders = true) (I : (Nat → Prop) → Act → World → Prop)
    (hback : (ops.toList.zipIdx.all fun x => x.1.after.all fun e => decide (e.on < x.2)) = true)
    (h0 : I (fun _ => False) a w.drew)
    (hstep : ∀ (L : Nat → Prop) (a : Act) (w : World) (i : Nat) (o : Oper), I L a w → ops[i]? = some o → ¬ L i → (∀ e ∈ o.after, Region.binds .any e = true → L e.on) → wpOp P ops Q i (I (fun k => L k ∨ k = i)) a w)
    (hend : ∀ (L : Nat → Prop) (a : Act) (w : World), I L a w → (∀ i, i < ops.size → L i) → Q .normal a w) : (Code.region id ops true).wp P Q a w := by
  refine wp_region_any hm (wpAny_inv I ?_ hstep hend _ _ _ _ (by simp) ?_ ?_)
  · intro i o ho e he
    have h1 : (o, i) ∈ ops.toList.zipIdx := by
      rw [List.mem_zipIdx_iff_getElem?]; simpa using ho
    have h2 := List.all_eq_true.1 hback _ h1
    have h3 := (Array.all_eq_true_iff_forall_mem.1 h2) e he
    simpa using h3
  · simp
  · have e : (fun k => (Array.replicate ops.size false).getD k false = true) = (fun _ => False) := by
      funext k
      simp [Array.getD]
    rw [e]; exact h0

/-- The same, and I is told the frame in which the region begins. -/
theorem wp_region_inv0 {P : Program} {ops : Array Oper} {Q : Exit → Act → World → Prop} {id : Nat} {a : Act} {w : World} (I : Act → (Nat → Prop) → Act → World → Prop) (hm : P.follows .mixedOrders = true)
    (hback : (ops.toList.zipIdx.all fun x => x.1.after.all fun e => decide (e.on < x.2)) = true)
    (h0 : I a (fun _ => False) a w.drew)
    (hstep : ∀ (L : Nat → Prop) (a' : Act) (w : World) (i : Nat) (o : Oper), I a L a' w → ops[i]? = some o → ¬ L i → (∀ e ∈ o.after, Region.binds .any e = true → L e.on) → wpOp P ops Q i (I a (fun k => L k ∨ k = i)) a' w)
    (hend : ∀ (L : Nat → Prop) (a' : Act) (w : World), I a L a' w → (∀ i, i < ops.size → L i) → Q .normal a' w) : (Code.region id ops true).wp P Q a w :=
  wp_region_inv hm (I a) hback h0 hstep hend

end Go.Proofs.YthgcjiocelcblaaGreat
