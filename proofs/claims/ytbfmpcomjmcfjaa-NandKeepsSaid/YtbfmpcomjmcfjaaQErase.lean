/- gabionref04: Erase, where nothing comes. -/
import Derived.Test.YtbfmpcomjmcfjaaQProg
namespace Go.Proofs.Ytbfmpcomjmcfjaa
open Go.RowKit Go.Deep

def withPgs (tag : Nat → Option QT) (g i j : Nat) (k : Nat) : Option QT := if k = g then some (.pages i j) else tag k
theorem withPgs_own {tag : Nat → Option QT} {g i j k : Nat} (h : ownQ (withPgs tag g i j) k) : ownQ tag k ∨ k = g := by
  by_cases e : k = g
  · exact .inr e
  · unfold ownQ withPgs at h; rw [if_neg e] at h; exact .inl h
def QL.newPb (L : QL) (i j g : Nat) : QL := { L with pb := fun i' j' => if i' = i ∧ j' = j then g else L.pb i' j' }
section
variable {B : Nat} {tag : Nat → Option QT} {L : QL} {S : NS} {w : World}
theorem QA.newPages (h : QA B tag L S w) (i j : Nat) (hi : i ≤ S.g0) (hj : j < S.g1) {g : Nat} (hB : B ≤ g) (hg : g < w.heap.size) (hn : tag g = none) (hf : ∀ o, w.frozen? ⟨g, o, none⟩ = false) (hz : ∀ p, p < S.g2 → w.cell? ⟨g, p, none⟩ = some (.slice none 0 0)) :
    QA B (withPgs tag g i j) (L.newPb i j g) (S.wipeTo i j S.g2) (w.setCell ⟨L.bb i, j * 4, none⟩ (.slice (some ⟨g, 0, none⟩) S.g2 S.g2)) := by
  have hup : ∀ k t, tag k = some t → withPgs tag g i j k = some t := fun k t ht => by
    unfold withPgs
    rw [if_neg (fun e => by subst e; rw [hn] at ht; cases ht)]; exact ht
  have hat : withPgs tag g i j g = some (.pages i j) := by unfold withPgs; rw [if_pos rfl]
  have h1 : QA B (withPgs tag g i j) L S w := by
    refine h.tags hup (fun k t ht => ?_)
    by_cases e : k = g
    · subst e; exact .inr ⟨hB, hg, fun _ => hf⟩
    · unfold withPgs at ht
      rw [if_neg e] at ht; exact .inl ht
  have tb := h1.tbb i hi
  have hsame : ∀ i', i' ≤ S.g0 → L.bb i' = L.bb i → i' = i := fun i' hi' e => by
    have h2 := h1.tbb i' hi'
    rw [e, tb] at h2
    cases h2; rfl
  have hgb : g ≠ L.bb i := qtag_ne hat tb (by simp)
  refine h1.set (L' := L.newPb i j g) (S' := S.wipeTo i j S.g2) (L.bb i) (j * 4) _ ⟨rfl, rfl, rfl, rfl, rfl, rfl, rfl⟩ (fun i' j' hi' hj' => ?_) ⟨rfl, rfl, rfl, rfl⟩ h1.nxt ⟨_, h1.c (.pages i j hi hj)⟩ (fun b o v hv => ?_) (fun i' j' p' hi' hj' hp' => ?_)
  · by_cases e : i' = i ∧ j' = j
    · obtain ⟨rfl, rfl⟩ := e
      have : (L.newPb i' j' g).pb i' j' = g := by simp [QL.newPb]
      rw [this]; exact hat
    · have : (L.newPb i j g).pb i' j' = L.pb i' j' := by simp only [QL.newPb]; rw [if_neg e]
      rw [this]; exact h1.tpb i' j' hi' hj'
  · cases hv with
    | pages i' j' hi' hj' =>
      by_cases e : i' = i ∧ j' = j
      · obtain ⟨rfl, rfl⟩ := e
        exact .inl ⟨rfl, rfl, by simp [QL.newPb, NS.wipeTo]⟩
      · have : (L.newPb i j g).pb i' j' = L.pb i' j' := by simp only [QL.newPb]; rw [if_neg e]
        rw [this]
        exact .inr ⟨.pages i' j' hi' hj', fun q => e ⟨hsame i' hi' q.1, by omega⟩⟩
    | bad i' j' hi' hj' => exact .inr ⟨.bad i' j' hi' hj', fun q => by omega⟩
    | next i' j' hi' hj' => exact .inr ⟨.next i' j' hi' hj', fun q => by omega⟩
    | er i' j' hi' hj' => exact .inr ⟨.er i' j' hi' hj', fun q => by omega⟩
    | row _ hi' => exact .inr ⟨.row _ hi', fun e => qtag_ne h1.tlb tb (by simp) e.1⟩
    | dead _ hi' => exact .inr ⟨.dead _ hi', fun e => qtag_ne h1.tgb tb (by simp) e.1⟩
    | g0 => exact .inr ⟨.g0, fun e => qtag_ne h1.tpa tb (by simp) e.1⟩
    | g1 => exact .inr ⟨.g1, fun e => qtag_ne h1.tpa tb (by simp) e.1⟩
    | g2 => exact .inr ⟨.g2, fun e => qtag_ne h1.tpa tb (by simp) e.1⟩
    | g3 => exact .inr ⟨.g3, fun e => qtag_ne h1.tpa tb (by simp) e.1⟩
    | chips => exact .inr ⟨.chips, fun e => qtag_ne h1.tpa tb (by simp) e.1⟩
    | gone => exact .inr ⟨.gone, fun e => qtag_ne h1.tpa tb (by simp) e.1⟩
    | ev => exact .inr ⟨.ev, fun e => qtag_ne h1.tpa tb (by simp) e.1⟩
    | ops => exact .inr ⟨.ops, fun e => qtag_ne h1.tpa tb (by simp) e.1⟩
    | off => exact .inr ⟨.off, fun e => qtag_ne h1.tpa tb (by simp) e.1⟩
  · by_cases e : i' = i ∧ j' = j
    · obtain ⟨rfl, rfl⟩ := e
      have e1 : (L.newPb i' j' g).pb i' j' = g := by simp [QL.newPb]
      have e2 : (S.wipeTo i' j' S.g2).page i' j' p' = none := by simp only [NS.wipeTo]; rw [if_pos ⟨trivial, trivial, hp'⟩]
      rw [e1, e2]
      show World.cell? _ _ = _
      rw [World.cell?_setCell_other w _ _ _ (fun q => hgb (by cases q; rfl))]
      exact hz p' hp'
    · have e1 : (L.newPb i j g).pb i' j' = L.pb i' j' := by simp only [QL.newPb]; rw [if_neg e]
      have e2 : (S.wipeTo i j S.g2).page i' j' p' = S.page i' j' p' := by simp only [NS.wipeTo]; rw [if_neg (fun q => e ⟨q.1, q.2.1⟩)]
      rw [e1, e2]
      exact h1.pageOther tb trivial hi' hj' hp' (fun q => h1.pb_ne hi' hj' tb (by simp) q.1)

set_option maxRecDepth 100000 in
set_option maxHeartbeats 3200000 in
theorem qerase_bad (i j : Nat) (hi : i ≤ S.g0) (hj : j < S.g1) (hev : L.ev = .slice none 0 0) (hbad : S.bad i j = true) (hb : QBeg B tag L S w (i : Int) (j : Int) 0) :
    Calls Try.prog 79 #[.pointer (some ⟨L.pa, 0, none⟩), .int .i64 (i : Int), .int .i64 (j : Int)] w (QORet B tag S L.pa w 70) := by
  unfold QBeg at hb
  go_enter Try.func79, Try.ntmps79
  go_wp2_with fail
  ((with_reducible refine hb.mono ?_))
  rintro e w1 ⟨rfl, h1, k1⟩
  have KA : Kept (ownQ tag) w (w1.alloc (.cells #[.int .i64 0, .int .i64 0, .int .i64 0, .slice none 0 0] 153)) := k1.trans (Kept.of_below (F := ownQ tag) (bel_alloc (Below.refl _ w1) _)) (fun _ _ h => h)
  have HA := h1.below (bel_alloc (Below.refl _ w1) (.cells #[.int .i64 0, .int .i64 0, .int .i64 0, .slice none 0 0] 153))
  clear hb
  have bbl := (h1.range _ _ (h1.tbb i hi)).2
  have lbl := (h1.range _ _ h1.tlb).2
  have pal := (h1.range _ _ h1.tpa).2
  have c4 := h1.c .chips
  have cr := h1.c (.row i hi)
  have i1 : i < S.g0 + 1 := by omega
  have cb := h1.c (.bad i j hi hj)
  rw [hbad] at cb
  have HEV := Lib.hid hev
  have RES := Lib.hid (And.intro HA KA)
  clear h1 k1 HA KA hev hbad
  go_wp2
  go_ret
  exact ⟨rfl, tag, L, rfl, HEV.out, RES.out.1, fun _ h => .inl h, RES.out.2⟩

set_option maxRecDepth 100000 in
set_option maxHeartbeats 3200000 in
theorem qerase_ok (i j : Nat) (hi : i ≤ S.g0) (hj : j < S.g1) (hev : L.ev = .slice none 0 0) (hbad : S.bad i j = false) (her : S.er i j < 1000000000000) (hb : QBeg B tag L S w (i : Int) (j : Int) 0) :
    Calls Try.prog 79 #[.pointer (some ⟨L.pa, 0, none⟩), .int .i64 (i : Int), .int .i64 (j : Int)] w (QORet B tag (((S.wipeTo i j S.g2).setNext i j 0).setEr i j (S.er i j + 1)) L.pa w 0) := by
  obtain ⟨iR, hiR, hzR, hsR, hbR⟩ := info_parts info_row
  unfold QBeg at hb
  go_enter Try.func79, Try.ntmps79
  go_wp2_with fail
  ((with_reducible refine hb.mono ?_))
  rintro e w1 ⟨rfl, h1, k1⟩
  have KA : Kept (ownQ tag) w (w1.alloc (.cells #[.int .i64 0, .int .i64 0, .int .i64 0, .slice none 0 0] 153)) := k1.trans (Kept.of_below (F := ownQ tag) (bel_alloc (Below.refl _ w1) _)) (fun _ _ h => h)
  have HA := h1.below (bel_alloc (Below.refl _ w1) (.cells #[.int .i64 0, .int .i64 0, .int .i64 0, .slice none 0 0] 153))
  clear hb
  have bbl := (h1.range _ _ (h1.tbb i hi)).2
  have lbl := (h1.range _ _ h1.tlb).2
  have pal := (h1.range _ _ h1.tpa).2
  have c4 := h1.c .chips
  have cr := h1.c (.row i hi)
  have i1 : i < S.g0 + 1 := by omega
  have g2c := h1.c .g2
  have cb := h1.c (.bad i j hi hj)
  rw [hbad] at cb
  have hmk : ∀ w, (Instr.makeSlice 52 (.int .i64 (S.g2 : Int)) (.int .i64 (S.g2 : Int))).run Try.prog w = .ok (.slice (some ⟨w.heap.size, 0, none⟩) S.g2 S.g2) (w.alloc (.cells (madeCells #[Value.slice none 0 0] S.g2) 57)) := fun w => run_make_row 52 57 iR _ Try.underlying52 hiR hzR hsR rfl .i64 .i64 S.g2 (by rw [hbR]; have := h1.shape.b2; omega) (by have := h1.shape.b2; omega) w
  have cpg := h1.c (.pages i j hi hj)
  have fpg := h1.f (.pages i j hi hj)
  have cn := h1.c (.next i j hi hj)
  have fn := h1.f (.next i j hi hj)
  have ce := h1.c (.er i j hi hj)
  have fe := h1.f (.er i j hi hj)
  have HEV := Lib.hid hev
  obtain ⟨W, hW⟩ : ∃ W, W = (w1.alloc (.cells #[.int .i64 0, .int .i64 0, .int .i64 0, .slice none 0 0] 153)).alloc (.cells (madeCells #[Value.slice none 0 0] S.g2) 57) := ⟨_, rfl⟩
  have hbW : Below w1.heap.size w1 W := by rw [hW]; exact bel_alloc (bel_alloc (Below.refl _ w1) _) _
  have hWs : W.heap.size = w1.heap.size + 2 := by rw [hW]; simp
  have hmd := World.rowIs_made (w1.alloc (.cells #[.int .i64 0, .int .i64 0, .int .i64 0, .slice none 0 0] 153)) (.slice none 0 0) S.g2 57
  rw [← hW, World.size_alloc] at hmd
  have HN := (h1.below hbW).newPages i j hi hj (g := w1.heap.size + 1) (by have := h1.base; omega) (by omega) (h1.noTag (by omega)) (fun o => hmd.frozen o) (fun p hp => hmd.cell hp)
  have H2 := HN.setNext i j hi hj 0 (Nat.zero_le _)
  have H3 := H2.setEr i j hi hj (S.er i j + 1)
  have K0 := k1.trans (Kept.of_below (F := ownQ tag) hbW) (fun _ _ h => h)
  have K3 := ((K0.set ⟨L.bb i, j * 4, none⟩ (.slice (some ⟨w1.heap.size + 1, 0, none⟩) S.g2 S.g2) (.inl (ownQ_tag (h1.tbb i hi)))).set ⟨L.bb i, j * 4 + 1, none⟩ (.int .i64 ((0 : Nat) : Int)) (.inl (ownQ_tag (h1.tbb i hi)))).set ⟨L.bb i, j * 4 + 2, none⟩ (.int .i64 ((S.er i j + 1 : Nat) : Int)) (.inl (ownQ_tag (h1.tbb i hi)))
  have HGN := Lib.hid (show w.heap.size ≤ w1.heap.size + 1 by have := k1.size; omega)
  have RES := Lib.hid (And.intro H3 K3)
  have hwe : (((W.setCell ⟨L.bb i, j * 4, none⟩ (.slice (some ⟨w1.heap.size + 1, 0, none⟩) S.g2 S.g2)).setCell ⟨L.bb i, j * 4 + 1, none⟩ (.int .i64 ((0 : Nat) : Int))).setCell ⟨L.bb i, j * 4 + 2, none⟩ (.int .i64 ((S.er i j + 1 : Nat) : Int))) = ((((w1.setCell ⟨L.bb i, j * 4, none⟩ (.slice (some ⟨w1.heap.size + 1, 0, none⟩) S.g2 S.g2)).setCell ⟨L.bb i, j * 4 + 1, none⟩ (.int .i64 0)).setCell ⟨L.bb i, j * 4 + 2, none⟩ (.int .i64 ((S.er i j : Int) + 1))).alloc (.cells #[.int .i64 0, .int .i64 0, .int .i64 0, .slice none 0 0] 153)).alloc (.cells (madeCells #[Value.slice none 0 0] S.g2) 57) := by
    rw [hW, show ((S.er i j + 1 : Nat) : Int) = (S.er i j : Int) + 1 by omega, show ((0 : Nat) : Int) = 0 from rfl]
    rw [World.setCell_alloc_past _ _ _ _ (by have := bbl; simp; omega), World.setCell_alloc_past _ _ _ _ (by have := bbl; simp; omega), World.setCell_alloc_past _ _ _ _ (by have := bbl; simp; omega), World.setCell_alloc_past _ _ _ _ (by have := bbl; simp; omega), World.setCell_alloc_past _ _ _ _ (by have := bbl; simp; omega), World.setCell_alloc_past _ _ _ _ (by have := bbl; simp; omega)]
  have HWE := Lib.hid hwe
  clear h1 k1 HA KA hev hbad hW hbW hWs hmd HN H2 H3 K0 K3 hwe
  go_wp2
  go_ret
  rw [← HWE.out]
  exact ⟨rfl, withPgs tag (w1.heap.size + 1) i j, L.newPb i j (w1.heap.size + 1), rfl, HEV.out, RES.out.1, fun k hk => (withPgs_own hk).imp id (fun e => by rw [e]; exact HGN.out), RES.out.2⟩
end

end Go.Proofs.Ytbfmpcomjmcfjaa
