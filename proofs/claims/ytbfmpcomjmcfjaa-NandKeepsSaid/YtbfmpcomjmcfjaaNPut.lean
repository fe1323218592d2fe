/- nand: begin's early ends; put. -/
import Derived.Test.YtbfmpcomjmcfjaaNBegin
namespace Go.Proofs.Ytbfmpcomjmcfjaa
open Go.RowKit

section
variable {B : Nat} {tag : Nat → Option Tag} {L : NL} {S : NS} {w : World}
def BErr (w : World) (n : Int) (e : Ending) (w' : World) : Prop := e = .returned (.tuple #[.pointer none, evZero, .int .i64 n]) ∧ Below w.heap.size w w'
set_option maxHeartbeats 800000 in
theorem begin_nil (c d : Int) (w : World) : Calls Try.prog 97 #[.pointer none, .int .i64 c, .int .i64 d] w (BErr w 60) := by
  go_enter Try.func97, Try.ntmps97
  go_wp2
  refine bodyPost_ret (v := .tuple #[.pointer none, evZero, .int .i64 60]) ?_ rfl ⟨rfl, bel_alloc (Below.refl _ w) _⟩
  simp [results, Try.results97, go_sem, evZero]
set_option maxHeartbeats 800000 in
theorem begin_off (h : NA B tag L S w) (hoff : S.off = true) (c d : Int) : Calls Try.prog 97 #[.pointer (some ⟨L.pa, 0, none⟩), .int .i64 c, .int .i64 d] w (BErr w 72) := by
  have c7 := h.c .off
  rw [hoff] at c7
  have hpa := (h.range _ _ h.tpa).2
  clear h hoff
  go_enter Try.func97, Try.ntmps97
  go_wp2
  refine bodyPost_ret (v := .tuple #[.pointer none, evZero, .int .i64 72]) ?_ rfl ⟨rfl, bel_alloc (Below.refl _ w) _⟩
  simp [results, Try.results97, go_sem, evZero]
/-- No such chip, or block. -/
def NoAt (S : NS) (c d : Int) : Prop := c < 0 ∨ (S.g0 : Int) < c ∨ d < 0 ∨ (S.g1 : Int) ≤ d
theorem at_none (h : NA B tag L S w) (c d : Int) (hc : NoAt S c d) :
    Calls Try.prog 75 #[.pointer (some ⟨L.pa, 0, none⟩), .int .i64 c, .int .i64 d] w fun e w' => e = .returned (.pointer none) ∧ w' = w := by
  by_cases hx : c < 0 ∨ (S.g0 : Int) < c
  · exact at_nochip h c d hx
  · obtain ⟨i, rfl⟩ : ∃ i : Nat, c = (i : Int) := ⟨c.toNat, by omega⟩
    exact at_noblock h i d (by omega) (by unfold NoAt at hc; omega)
set_option maxHeartbeats 800000 in
theorem begin_none (h : NA B tag L S w) (hoff : S.off = false) (c d : Int) (hc : NoAt S c d) : Calls Try.prog 97 #[.pointer (some ⟨L.pa, 0, none⟩), .int .i64 c, .int .i64 d] w (BErr w 34) := by
  have c7 := h.c .off
  rw [hoff] at c7
  have hpa := (h.range _ _ h.tpa).2
  have H := Lib.hid (at_none (h.below (bel_alloc (Below.refl _ w) (.cells #[.int .i64 0, .int .i64 0, .int .i64 0, .slice none 0 0] 147))) c d hc)
  clear h hoff hc
  go_enter Try.func97, Try.ntmps97
  go_wp2_with fail
  refine H.out.mono ?_
  rintro e w' ⟨rfl, rfl⟩
  go_wp2
  refine bodyPost_ret (v := .tuple #[.pointer none, evZero, .int .i64 34]) ?_ rfl ⟨rfl, bel_alloc (Below.refl _ w) _⟩
  simp [results, Try.results97, go_sem, evZero]

set_option maxRecDepth 100000 in
set_option maxHeartbeats 1600000 in
theorem put_any (h : NA B tag L S w) (i j p : Nat) (hi : i ≤ S.g0) (hj : j < S.g1) (hn : S.next i j = p) (hp : p < S.g2) (g off cap : Nat) (bs : List Nat) (hg : tag g = some .row) (hr : Row w (some ⟨g, off, none⟩) (S.g3 + 64) bs) (hc : S.g3 + 64 ≤ cap ∧ cap ≤ maxLen) :
    Calls Try.prog 100 #[.pointer (some ⟨L.bb i, j * 4, none⟩), .slice (some ⟨g, off, none⟩) (S.g3 + 64) cap] w
      fun e w' => e = .returned (.tuple #[]) ∧ NA B tag L ((S.setPage i j p (some bs)).setNext i j (p + 1)) w' ∧ Kept (ownT tag) w w' := by
  have tb := h.tbb i hi
  have tp := h.tpb i j hi hj
  have c1 := h.c (.next i j hi hj)
  have c3 := h.c (.pages i j hi hj)
  have f1 := h.f (.next i j hi hj)
  have fp := h.free _ _ p tp trivial
  have hcp : ∃ u, w.cell? ⟨L.pb i j, p, none⟩ = some u := by
    have := h.rows i j p hi hj hp
    cases hpg : S.page i j p with
    | none => rw [hpg] at this; exact ⟨_, this⟩
    | some bs => rw [hpg] at this; obtain ⟨_, _, _, h1, _⟩ := this; exact ⟨_, h1⟩
  obtain ⟨u, hu⟩ := hcp
  have hne : L.pb i j ≠ L.bb i := tag_ne tp tb (by simp)
  have hne2 : L.bb i ≠ L.pb i j := fun e => hne e.symm
  have hb2 : S.g2 ≤ 32 := h.shape.b2
  have H1 : NA B tag L (S.setPage i j p (some bs)) (w.setCell ⟨L.pb i j, p, none⟩ (.slice (some ⟨g, off, none⟩) (S.g3 + 64) cap)) :=
    h.setPage i j p hi hj hp _ _ ⟨g, off, cap, World.cell?_setCell_same w _ _ hu, hg, row_same hr (fun _ x hx => by cases hx; exact heap_setCell_other w _ g _ (tag_ne hg tp (by simp))), hc⟩
  have K1 : Kept (ownT tag) w (w.setCell ⟨L.pb i j, p, none⟩ (.slice (some ⟨g, off, none⟩) (S.g3 + 64) cap)) := kept_set tp _
  have H1' := H1.below (Below.refl _ _).drew
  have H2 := H1'.setNext i j hi hj (p + 1) (by show p + 1 ≤ S.g2; omega)
  have K2 := (K1.trans (Kept.of_below (F := ownT tag) (Below.refl _ _).drew) (fun _ _ h => h)).set ⟨L.bb i, j * 4 + 1, none⟩ (.int .i64 ((p + 1 : Nat) : Int)) (.inl (own_tag tb))
  rw [show ((p + 1 : Nat) : Int) = (p : Int) + 1 from by omega] at H2 K2
  have RES := Lib.hid (And.intro H2 K2)
  rw [hn] at c1
  clear H1 K1 H1' H2 K2 hr hc hg h hn hi hj
  have hp1 : (p : Int) < 32 := by omega
  go_enter Try.func100, Try.ntmps100
  go_wp2_with fail
  go_region_held3 (fun w' => w'.cell? ⟨L.bb i, j * 4 + 3, none⟩ = some (.slice (some ⟨L.pb i j, 0, none⟩) S.g2 (L.pcap i j)) ∧ w'.cell? ⟨L.bb i, j * 4 + 1, none⟩ = some (.int .i64 (p : Int))) (go_keep) (fail)
  go_wp2
  go_end0
  exact ⟨rfl, RES.out⟩
end

end Go.Proofs.Ytbfmpcomjmcfjaa
