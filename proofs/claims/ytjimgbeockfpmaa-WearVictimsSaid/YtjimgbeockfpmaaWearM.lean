/- A list of segments that is changed in place. -/
import Derived.Test.YtjimgbeockfpmaaWearD
import Derived.Laws.Rows
namespace Go.Proofs.Ytjimgbeockfpmaa
open Go.RowKit

def MutG (B : Nat) (w : World) (sv : Value) (L : List SegV) : Prop :=
  ∃ a c, sv = .slice a L.length c ∧ L.length ≤ c ∧ c ≤ maxLen ∧ RowG w a L.length L ∧ (0 < L.length → ∃ g cs, a = some ⟨g, 0, none⟩ ∧ B ≤ g ∧ w.heap[g]? = some (.cells cs 33 (0, 0)))
theorem MutG.step {B : Nat} {w w' : World} {sv : Value} {L : List SegV} (h : MutG B w sv L) (hb : Below w.heap.size w w') : MutG B w' sv L := by
  obtain ⟨a, c, h1, h2, h3, h4, h5⟩ := h
  refine ⟨a, c, h1, h2, h3, h4.step hb, fun h0 => ?_⟩
  obtain ⟨g, cs, e, hg, hh⟩ := h5 h0
  exact ⟨g, cs, e, hg, (hb.block g (Array.getElem?_eq_some_iff.1 hh).1).trans hh⟩
theorem MutG.at {B : Nat} {w : World} {sv : Value} {L : List SegV} {k : Nat} (h : MutG B w sv L) (hk : k < L.length) :
    ∃ g c cs, sv = .slice (some ⟨g, 0, none⟩) L.length c ∧ L.length ≤ c ∧ c ≤ maxLen ∧ RowG w (some ⟨g, 0, none⟩) L.length L ∧ B ≤ g ∧ w.heap[g]? = some (.cells cs 33 (0, 0)) ∧ g < w.heap.size ∧ (∀ i, i < L.length → w.cell? ⟨g, i * 3, none⟩ = some (.int .i64 (L.getD i SegV.nil).k) ∧ w.cell? ⟨g, i * 3 + 1, none⟩ = some (.int .i64 (L.getD i SegV.nil).l) ∧ w.cell? ⟨g, i * 3 + 2, none⟩ = some (.int .u32 ((L.getD i SegV.nil).e : Int))) := by
  obtain ⟨a, c, h1, h2, h3, h4, h5⟩ := h
  obtain ⟨g, cs, rfl, hg, hh⟩ := h5 (by omega)
  obtain ⟨b, off, e, _, hc⟩ := rowG_at h4 hk
  cases e
  exact ⟨g, c, cs, h1, h2, h3, h4, hg, hh, (Array.getElem?_eq_some_iff.1 hh).1, fun i hi => by have := hc i hi; simpa using this⟩
theorem setG_at (L : List SegV) (k i : Nat) (s : SegV) (hk : k < L.length) : (L.set k s).getD i SegV.nil = if i = k then s else L.getD i SegV.nil := by
  by_cases h : i = k
  · subst h; simp [List.getD, hk]
  · rw [if_neg h]; simp [List.getD, List.getElem?_set_ne (fun e => h e.symm)]
theorem cs_same {w : World} {g o : Nat} {u : Value} (v : Value) (h : w.cell? ⟨g, o, none⟩ = some u) : (w.setCell ⟨g, o, none⟩ v).cell? ⟨g, o, none⟩ = some v := World.cell?_setCell_same _ _ _ h
theorem cs_other {w : World} {g o o' : Nat} {u : Value} (v : Value) (h : w.cell? ⟨g, o', none⟩ = some u) (hne : o ≠ o') : (w.setCell ⟨g, o, none⟩ v).cell? ⟨g, o', none⟩ = some u :=
  (World.cell?_setCell_other w _ _ _ (fun e => hne (by injection e))).trans h
/-- Its kind is changed. -/
theorem MutG.setK {B : Nat} {w : World} {g c k : Nat} {L : List SegV} (h : MutG B w (.slice (some ⟨g, 0, none⟩) L.length c) L) (hk : k < L.length) (x : Int) :
    MutG B (w.setCell ⟨g, k * 3, none⟩ (.int .i64 x)) (.slice (some ⟨g, 0, none⟩) L.length c) (L.set k ⟨x, (L.getD k SegV.nil).l, (L.getD k SegV.nil).e⟩) := by
  obtain ⟨g', c', cs, hs, h2, h3, h4, hg, hh, _, hc⟩ := h.at hk
  cases hs
  refine ⟨_, _, by simp, by simpa using h2, h3, ⟨rfl, fun s hs => ?_, fun _ => ⟨g, 0, rfl, fun i hi => ?_⟩⟩, fun _ => ⟨g, _, rfl, hg, heap_setCell_same w g (k * 3) cs _ _ hh⟩⟩
  · rcases List.mem_or_eq_of_mem_set hs with h | rfl
    · exact h4.2.1 s h
    · show (L.getD k SegV.nil).e < _
      exact getD_e h4.2.1 k
  · have hi' : i < L.length := by simpa using hi
    rw [setG_at L k i _ hk, Nat.zero_add]
    obtain ⟨d0, d1, d2⟩ := hc i hi'
    by_cases e : i = k
    · subst e
      rw [if_pos rfl]
      exact ⟨cs_same _ d0, cs_other _ d1 (by omega), cs_other _ d2 (by omega)⟩
    · rw [if_neg e]
      exact ⟨cs_other _ d0 (by omega), cs_other _ d1 (by omega), cs_other _ d2 (by omega)⟩
/-- It is changed whole. -/
theorem MutG.setS {B : Nat} {w : World} {g c k : Nat} {L : List SegV} (h : MutG B w (.slice (some ⟨g, 0, none⟩) L.length c) L) (hk : k < L.length) (s : SegV) (hs : s.e < 4294967296) :
    MutG B (((w.setCell ⟨g, k * 3, none⟩ (.int .i64 s.k)).setCell ⟨g, k * 3 + 1, none⟩ (.int .i64 s.l)).setCell ⟨g, k * 3 + 2, none⟩ (.int .u32 (s.e : Int))) (.slice (some ⟨g, 0, none⟩) L.length c) (L.set k s) := by
  obtain ⟨g', c', cs, hsv, h2, h3, h4, hg, hh, _, hc⟩ := h.at hk
  cases hsv
  refine ⟨_, _, by simp, by simpa using h2, h3, ⟨rfl, fun z hz => ?_, fun _ => ⟨g, 0, rfl, fun i hi => ?_⟩⟩, fun _ => ⟨g, _, rfl, hg, heap_setCell_same _ g (k * 3 + 2) _ _ _ (heap_setCell_same _ g (k * 3 + 1) _ _ _ (heap_setCell_same w g (k * 3) cs _ _ hh))⟩⟩
  · rcases List.mem_or_eq_of_mem_set hz with h | rfl
    · exact h4.2.1 _ h
    · exact hs
  · have hi' : i < L.length := by simpa using hi
    rw [setG_at L k i _ hk, Nat.zero_add]
    obtain ⟨d0, d1, d2⟩ := hc i hi'
    by_cases e : i = k
    · subst e
      rw [if_pos rfl]
      exact ⟨cs_other _ (cs_other _ (cs_same _ d0) (by omega)) (by omega), cs_other _ (cs_same _ (cs_other _ d1 (by omega))) (by omega), cs_same _ (cs_other _ (cs_other _ d2 (by omega)) (by omega))⟩
    · rw [if_neg e]
      exact ⟨cs_other _ (cs_other _ (cs_other _ d0 (by omega)) (by omega)) (by omega), cs_other _ (cs_other _ (cs_other _ d1 (by omega)) (by omega)) (by omega), cs_other _ (cs_other _ (cs_other _ d2 (by omega)) (by omega)) (by omega)⟩
theorem flatG_len (L : List SegV) : (L.flatMap SegV.cl).length = L.length * 3 := by
  induction L with
  | nil => rfl
  | cons g G ih => rw [List.flatMap_cons, List.length_append, ih, List.length_cons]; simp [SegV.cl]; omega
theorem flatG_at (L : List SegV) (i j : Nat) (hi : i < L.length) (hj : j < 3) : (L.flatMap SegV.cl)[i * 3 + j]? = (L.getD i SegV.nil).cl[j]? := by
  induction L generalizing i with
  | nil => simp at hi
  | cons g G ih =>
    cases i with
    | zero =>
      rw [List.flatMap_cons, List.getElem?_append_left (by simp [SegV.cl]; omega)]
      simp
    | succ i =>
      have hi' : i < G.length := by simpa using hi
      rw [List.flatMap_cons, List.getElem?_append_right (by simp [SegV.cl]; omega)]
      have e1 : (i + 1) * 3 + j - g.cl.length = i * 3 + j := by simp [SegV.cl]; omega
      rw [e1, ih i hi']
      simp [List.getD]
theorem mutG_own {B : Nat} {w : World} {sv : Value} {L : List SegV} (he : ∀ s ∈ L, s.e < 4294967296) (h : w.ownsRow B 33 3 sv L.length (L.flatMap SegV.cl)) : MutG B w sv L := by
  have h' := h
  rcases h.2 with ⟨rfl, h0⟩ | ⟨g, cap, cur, rfl, hg, hh, hc, hm, _⟩
  · exact ⟨none, 0, by rw [h0], by omega, by unfold maxLen; omega, ⟨rfl, he, fun h1 => by omega⟩, fun h1 => by omega⟩
  · refine ⟨_, cap, rfl, hc, hm, ⟨rfl, he, fun _ => ⟨g, 0, rfl, fun i hi => ?_⟩⟩, fun _ => ⟨g, cur, rfl, hg, hh⟩⟩
    have key : ∀ j, j < 3 → w.cell? ⟨g, 0 + i * 3 + j, none⟩ = (L.getD i SegV.nil).cl[j]? := fun j hj => by
      rw [Nat.zero_add, h'.cellAt (i * 3 + j) (by omega)]
      exact flatG_at L i j hi hj
    exact ⟨key 0 (by omega), key 1 (by omega), key 2 (by omega)⟩
theorem info_seg : (Try.prog.info? 33).map (fun i => (i.zero, i.size, i.bytes)) = some (some (.agg #[.int .i64 0, .int .i64 0, .int .u32 0]), 3, 24) := by kernel_rfl
/-- A whole list is appended onto an empty one. -/
theorem wpList_appAll {w : World} {ops : Array Oper} {rest : List Oper} {o : Oper} {a : Act} {Q : Exit → Act → World → Prop} (hgd : o.guard = none) (s x : Operand)
    (ho : o.op = .call { callee := .builtin .append, args := #[s, x], argTypes := #[22, 22] })
    (B : Nat) (sv : Value) (hs : a.eval s = sv) (hown : w.ownsRow B 33 3 sv 0 []) (ad : Option Addr) (len c : Nat) (G : List SegV) (hx : a.eval x = .slice ad len c) (hn : ad = none → c = 0) (hlc : len ≤ c)
    (hr : RowG w ad len G) (hB : B ≤ w.heap.size) (hlen : len ≤ 1000000)
    (h : ∀ v' w', MutG B w' v' G → Below B w w' → wpList Try.prog ops Q rest (a.put o.dst v') w') : wpList Try.prog ops Q (o :: rest) a w := by
  obtain ⟨i0, hi, hz0, hz1, hz2⟩ := info_partsW info_seg
  cases ad with
  | none =>
    obtain rfl : c = 0 := hn rfl
    obtain rfl : len = 0 := by omega
    obtain rfl : G = [] := List.eq_nil_of_length_eq_zero hr.1
    exact wpList_append_own_none hgd s x _ ho B 33 i0 3 Try.underlying22 hi sv 0 [] hs hown hx (h _ _ (mutG_own (by simp) hown) (Below.refl _ _))
  | some ad =>
    refine wpList_append_own_at w hgd s x _ ho B 33 i0 _ 3 24 Try.underlying22 hi hz0 hz1 hz2 rfl (by decide) sv 0 [] hs hown ad len c (G.flatMap SegV.cl) hx (by rw [flatG_len, hr.1]) ?_ ?_ (by unfold maxLen; omega) (by omega) hB ?_
    · intro j u hj
      have hj3 : j < len * 3 := by
        rcases Nat.lt_or_ge j (len * 3) with h | h
        · exact h
        · rw [List.getElem?_eq_none (by rw [flatG_len, hr.1]; exact h)] at hj; cases hj
      obtain ⟨b, off, e, _, hc⟩ := rowG_at hr (k := j / 3) (by omega)
      cases e
      obtain ⟨c0, c1, c2⟩ := hc (j / 3) (by omega)
      have hja : ((⟨b, off, none⟩ : Addr).add j) = ⟨b, off + j / 3 * 3 + j % 3, none⟩ := by
        unfold Addr.add
        split
        · rename_i h; subst h; simp
        · simp; omega
      rw [hja]
      have hjj : j / 3 * 3 + j % 3 = j := by omega
      have hf := flatG_at G (j / 3) (j % 3) (by rw [hr.1]; omega) (Nat.mod_lt _ (by decide))
      rw [hjj, hj] at hf
      rcases (show j % 3 = 0 ∨ j % 3 = 1 ∨ j % 3 = 2 by omega) with e | e | e <;> rw [e] at hf ⊢ <;> simp [SegV.cl] at hf <;> subst hf
      · exact c0
      · exact c1
      · exact c2
    · intro u hu
      rw [List.mem_flatMap] at hu
      obtain ⟨s, _, hs⟩ := hu
      simp only [SegV.cl, List.mem_cons, List.not_mem_nil, or_false] at hs
      rcases hs with rfl | rfl | rfl <;> rfl
    · intro v' w' h2 h3 _ _
      refine h v' w' (mutG_own hr.2.1 ?_) ((Below.refl B w).grown h3 hB (fun k hk => (hown.lt k hk).1))
      rw [hr.1]
      simpa using h2
end Go.Proofs.Ytjimgbeockfpmaa
