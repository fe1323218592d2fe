/- MemberTwice: the walk. -/
import Derived.Test.YtpaaolifpcgoeaaMemFirstsWalk
namespace Go.Proofs.Ytpaaolifpcgoeaa
open Go.RowKit Go.Deep

theorem cell_set_any {w : World} {b o o' : Nat} {v u : Value} (h : w.cell? ⟨b, o', none⟩ = some u) : (w.setCell ⟨b, o, none⟩ v).cell? ⟨b, o', none⟩ = some (if o' = o then v else u) := by
  simp only [World.cell?] at h ⊢
  cases hb : w.heap[b]? with
  | none => simp [hb] at h
  | some ob =>
    cases ob with
    | cells cs t fr =>
      simp [hb] at h
      simp [World.setCell, Array.getElem?_modify, hb]
      obtain ⟨hl, _⟩ := Array.getElem?_eq_some_iff.1 h
      by_cases e : o' = o
      · subst e; simp [hl]
      · rw [if_neg e, Array.getElem?_setIfInBounds_ne (fun q => e q.symm)]; exact h
    | _ => simp [hb] at h
theorem rowI_set {w : World} {b off n c i : Nat} {L : List Int} {v : Int} (h : RowI w (some ⟨b, off, none⟩) n c L) (hi : i < n) (hv : -9223372036854775808 ≤ v ∧ v ≤ 9223372036854775807) :
    RowI (w.setCell ⟨b, off + i, none⟩ (.int .i64 v)) (some ⟨b, off, none⟩) n c (L.set i v) := by
  obtain ⟨h1, h2, h3, h4, h5, h6⟩ := h
  refine ⟨by rw [List.length_set]; exact h1, h2, h3, h4, fun z hz => ?_, fun h0 => ⟨b, off, rfl, fun k hk => ?_⟩⟩
  · rcases List.mem_or_eq_of_mem_set hz with h | rfl
    · exact h5 z h
    · exact hv
  · obtain ⟨b', off', e, hc⟩ := h6 h0
    cases e
    rw [cell_set_any (hc k hk)]
    by_cases e : k = i
    · subst e; simp [List.getD, show k < L.length by omega]
    · rw [if_neg (by omega)]; simp [List.getD, List.getElem?_set_ne (fun q => e q.symm)]
theorem ownI_at {B : Nat} {w : World} {eb n c k : Nat} {L : List Int} (h : OwnI B w (.slice (some ⟨eb, 0, none⟩) n c) L) (hn : L.length = n) (hk : k < n) :
    w.cell? ⟨eb, k, none⟩ = some (.int .i64 (L.getD k 0)) ∧ w.frozen? ⟨eb, k, none⟩ = false := by
  unfold OwnI at h
  rw [hn] at h
  refine ⟨?_, h.frozenAt k⟩
  rw [h.cellAt k (by omega)]
  simp [valz, List.getD, show k < L.length by omega]
theorem ownI_set {B : Nat} {w : World} {eb n c : Nat} {L : List Int} (h : OwnI B w (.slice (some ⟨eb, 0, none⟩) n c) L) (hn : L.length = n) (k : Nat) (v : Int) :
    OwnI B (w.setCell ⟨eb, k, none⟩ (.int .i64 v)) (.slice (some ⟨eb, 0, none⟩) n c) (L.set k v) := by
  unfold OwnI at h ⊢
  rw [hn] at h
  rw [List.length_set, hn, show valz (L.set k v) = (valz L).set k (.int .i64 v) by simp [valz, List.map_set]]
  exact (h.stored k _).1
theorem cell_set_far {w : World} {a q : Addr} {v : Value} (h : q.block ≠ a.block) : (w.setCell a v).cell? q = w.cell? q := by
  simp only [World.cell?]
  rw [heap_setCell_other w a q.block v h]
theorem setOk_twice (n i j : Nat) (hi : i < n) (hj : j < n) (hn : n ≤ 16) : setOk n 20 ((firstL n).set i (j : Int)) (n : Int) 255 0 ↔ i = j := by
  have hl : ((firstL n).set i (j : Int)).length = n := by rw [List.length_set, firstL_len]
  constructor
  · intro h
    apply Classical.byContradiction
    intro hne
    have h2 := h.2.2.2.2
    rw [if_neg (by omega)] at h2
    have h3 : ((firstL n).set i (j : Int)).Nodup := h2.sublist (List.sublist_append_left _ _)
    have h4 := List.pairwise_iff_getElem.1 h3
    have ei : ((firstL n).set i (j : Int))[i]'(by omega) = (j : Int) := by simp
    have ej : ((firstL n).set i (j : Int))[j]'(by omega) = (j : Int) := by rw [List.getElem_set_ne hne]; simp [firstL]
    rcases Nat.lt_or_ge i j with q | q
    · exact h4 i j (by omega) (by omega) q (by rw [ei, ej])
    · exact h4 j i (by omega) (by omega) (by omega) (by rw [ei, ej])
  · rintro rfl
    have e : (firstL n).set i (i : Int) = firstL n := by
      apply List.ext_getElem
      · simp
      · intro k h1 h2
        rw [List.getElem_set]
        split
        · rename_i q; subst q; simp [firstL]
        · rfl
    rw [e]
    exact setOk_first n 20 hn (by omega)
theorem setOk_done (n : Nat) (d : Int) (hn : n ≤ 16) : setOk n 20 (firstL n) (n : Int) 255 d ↔ d = 0 := by
  constructor
  · intro h
    rcases h.2.2.1.2 with h | h
    · exact h
    · exact absurd rfl h.1
  · rintro rfl
    exact setOk_first n 20 hn (by omega)
theorem shape_good (x : Int) : GoodG (memN x : Int) 20 6 256 := by
  have := mod14_eq x
  unfold GoodG
  omega
theorem modn_ahead (n : Nat) (x : Int) (h0 : 0 < n) (h1 : n ≤ 1000) : IntKind.u64.wrap (n : Int) = (n : Int) ∧ wrap64 ((IntKind.u64.wrap x).tmod (n : Int)) = (modM n x : Int) ∧ IntKind.i64.wrap ((IntKind.u64.wrap x).tmod (n : Int)) = (modM n x : Int) ∧ modM n x < n := by
  obtain ⟨h2, h3⟩ := modM_eq n x h0 h1
  refine ⟨by rw [IntKind.wrap_u64]; omega, by rw [h2]; exact IntWalk.wrap64_in _ (by omega), by rw [h2, IntKind.wrap_i64]; omega, h3⟩
end Go.Proofs.Ytpaaolifpcgoeaa
