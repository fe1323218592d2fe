/- gabionref04: Program, where nothing comes. -/
import Derived.Test.YtbfmpcomjmcfjaaQOps
import Derived.Deep.AppendLies
import Derived.Deep.RegionLaw
namespace Go.Proofs.Ytbfmpcomjmcfjaa
open Go.RowKit Go.Deep

theorem news_row {w : World} {b off n : Nat} {bs : List Nat} (h : Row w (some ⟨b, off, none⟩) n bs) {m : Nat} (hm : m = n) (j : Nat) (u : Value) (hj : (bs.map u8v)[j]? = some u) : w.cell? ((⟨b, off, none⟩ : Addr).add j) = some u := by
  subst hm
  have hjm : j < bs.length := by
    rcases Nat.lt_or_ge j bs.length with q | q
    · exact q
    · rw [List.getElem?_eq_none (by simpa using q)] at hj; cases hj
  obtain ⟨b', off', e, hc⟩ := h.2.2 (by rw [← h.1]; omega)
  cases e
  have h3 := hc j (by rw [← h.1]; exact hjm)
  rw [List.getElem?_map, List.getElem?_eq_getElem hjm] at hj
  simp only [Option.map_some, Option.some.injEq] at hj
  rw [getD_in _ _ hjm] at h3
  rw [← hj]
  unfold Addr.add
  split
  · rename_i q; subst q; exact h3
  · exact h3
def withRowQ (tag : Nat → Option QT) (g : Nat) (k : Nat) : Option QT := if k = g then some .row else tag k
theorem withRowQ_own {tag : Nat → Option QT} {g k : Nat} (h : ownQ (withRowQ tag g) k) : ownQ tag k ∨ k = g := by
  by_cases e : k = g
  · exact .inr e
  · unfold ownQ withRowQ at h; rw [if_neg e] at h; exact .inl h
section
variable {B : Nat} {tag : Nat → Option QT} {L : QL} {S : NS} {w : World}
theorem QA.withRow {w' : World} (h : QA B tag L S w') {g : Nat} (hB : B ≤ g) (hg : g < w'.heap.size) (hn : tag g = none) : QA B (withRowQ tag g) L S w' := by
  refine h.tags (fun k t ht => ?_) (fun k t ht => ?_)
  · unfold withRowQ
    rw [if_neg (fun e => by subst e; rw [hn] at ht; cases ht)]; exact ht
  · by_cases e : k = g
    · subst e
      unfold withRowQ at ht
      rw [if_pos rfl] at ht
      cases ht
      exact .inr ⟨hB, hg, fun q => q.elim⟩
    · unfold withRowQ at ht
      rw [if_neg e] at ht; exact .inl ht
theorem QA.setPage (h : QA B tag L S w) (i j p : Nat) (hi : i ≤ S.g0) (hj : j < S.g1) (hp : p < S.g2) (g off cap : Nat) (bs : List Nat) (hg : tag g = some .row) (hr : Row w (some ⟨g, off, none⟩) (S.g3 + 64) bs) (hc1 : S.g3 + 64 ≤ cap) (hc2 : cap ≤ maxLen) :
    QA B tag L (S.setPage i j p (some bs)) (w.setCell ⟨L.pb i j, p, none⟩ (.slice (some ⟨g, off, none⟩) (S.g3 + 64) cap)) := by
  have tb := h.tpb i j hi hj
  have hin : ∃ u, w.cell? ⟨L.pb i j, p, none⟩ = some u := by
    have := h.rows i j p hi hj hp
    cases hpg : S.page i j p with
    | none => rw [hpg] at this; exact ⟨_, this⟩
    | some bs => rw [hpg] at this; obtain ⟨_, _, _, h1, _⟩ := this; exact ⟨_, h1⟩
  refine h.set (L' := L) (S' := S.setPage i j p (some bs)) (L.pb i j) p _ ⟨rfl, rfl, rfl, rfl, rfl, rfl, rfl⟩ h.tpb ⟨rfl, rfl, rfl, rfl⟩ h.nxt hin (fun b o v hv => ?_) (fun i' j' p' hi' hj' hp' => ?_)
  · cases hv with
    | row i' hi' => exact .inr ⟨.row _ hi', fun e => qtag_ne h.tlb tb (by simp) e.1⟩
    | dead i' hi' => exact .inr ⟨.dead _ hi', fun e => qtag_ne h.tgb tb (by simp) e.1⟩
    | bad i j hi hj => exact .inr ⟨.bad i j hi hj, fun e => qtag_ne (h.tbb i hi) tb (by simp) e.1⟩
    | next i j hi hj => exact .inr ⟨.next i j hi hj, fun e => qtag_ne (h.tbb i hi) tb (by simp) e.1⟩
    | er i j hi hj => exact .inr ⟨.er i j hi hj, fun e => qtag_ne (h.tbb i hi) tb (by simp) e.1⟩
    | pages i j hi hj => exact .inr ⟨.pages i j hi hj, fun e => qtag_ne (h.tbb i hi) tb (by simp) e.1⟩
    | g0 => exact .inr ⟨.g0, fun e => qtag_ne h.tpa tb (by simp) e.1⟩
    | g1 => exact .inr ⟨.g1, fun e => qtag_ne h.tpa tb (by simp) e.1⟩
    | g2 => exact .inr ⟨.g2, fun e => qtag_ne h.tpa tb (by simp) e.1⟩
    | g3 => exact .inr ⟨.g3, fun e => qtag_ne h.tpa tb (by simp) e.1⟩
    | chips => exact .inr ⟨.chips, fun e => qtag_ne h.tpa tb (by simp) e.1⟩
    | gone => exact .inr ⟨.gone, fun e => qtag_ne h.tpa tb (by simp) e.1⟩
    | ev => exact .inr ⟨.ev, fun e => qtag_ne h.tpa tb (by simp) e.1⟩
    | ops => exact .inr ⟨.ops, fun e => qtag_ne h.tpa tb (by simp) e.1⟩
    | off => exact .inr ⟨.off, fun e => qtag_ne h.tpa tb (by simp) e.1⟩
  · by_cases e : i' = i ∧ j' = j ∧ p' = p
    · obtain ⟨rfl, rfl, rfl⟩ := e
      have : (S.setPage i' j' p' (some bs)).page i' j' p' = some bs := by simp [NS.setPage]
      rw [this]
      refine ⟨g, off, cap, ?_, hg, row_same hr (fun _ x hx => by cases hx; exact heap_setCell_other w _ g _ (qtag_ne hg tb (by simp))), hc1, hc2⟩
      obtain ⟨u, hu⟩ := hin
      exact World.cell?_setCell_same w _ _ hu
    · have hsame : (S.setPage i j p (some bs)).page i' j' p' = S.page i' j' p' := by simp only [NS.setPage]; rw [if_neg e]
      rw [hsame]
      refine h.pageOther tb trivial hi' hj' hp' (fun q => ?_)
      have h1 := h.tpb i' j' hi' hj'
      rw [q.1, tb] at h1
      simp only [Option.some.injEq, QT.pages.injEq] at h1
      exact e ⟨h1.1.symm, h1.2.symm, q.2⟩
end

section
variable {B : Nat} {tag : Nat → Option QT} {L : QL} {S : NS} {w : World}
set_option maxRecDepth 100000 in
set_option maxHeartbeats 3200000 in
theorem qprogram_neg (i j : Nat) (hi : i ≤ S.g0) (hj : j < S.g1) (hev : L.ev = .slice none 0 0) (a1 : Option Addr) (n1 c1 : Nat) (a2 : Option Addr) (n2 c2 : Nat) (p : Int) (hp : p < 0) (hb : QBeg B tag L S w (i : Int) (j : Int) 0) :
    Calls Try.prog 78 #[.pointer (some ⟨L.pa, 0, none⟩), .int .i64 (i : Int), .int .i64 (j : Int), .int .i64 p, .slice a1 n1 c1, .slice a2 n2 c2] w (QORet B tag S L.pa w 34) := by
  unfold QBeg at hb
  go_enter Try.func78, Try.ntmps78
  go_wp2_with fail
  ((with_reducible refine hb.mono ?_))
  rintro e w1 ⟨rfl, h1, k1⟩
  have KA : Kept (ownQ tag) w (w1.alloc (.cells #[.int .i64 0, .int .i64 0, .int .i64 0, .slice none 0 0] 153)) := k1.trans (Kept.of_below (F := ownQ tag) (bel_alloc (Below.refl _ w1) _)) (fun _ _ h => h)
  have HA := h1.below (bel_alloc (Below.refl _ w1) (.cells #[.int .i64 0, .int .i64 0, .int .i64 0, .slice none 0 0] 153))
  clear hb
  have bbl := (h1.range _ _ (h1.tbb i hi)).2
  have lbl := (h1.range _ _ h1.tlb).2
  have pal := (h1.range _ _ h1.tpa).2
  have c4 := h1.c .chips
  have cr := h1.c (.row i hi)
  have i1 : i < S.g0 + 1 := by omega
  have g2c := h1.c .g2
  have g3c := h1.c .g3
  have cb := h1.c (.bad i j hi hj)
  have cn := h1.c (.next i j hi hj)
  have HEV := Lib.hid hev
  have p1 : decide (p < 0) = true := decide_eq_true hp
  have RES := Lib.hid (And.intro HA KA)
  clear h1 k1 HA KA hev
  go_wp2
  go_ret
  exact ⟨rfl, tag, L, rfl, HEV.out, RES.out.1, fun _ h => .inl h, RES.out.2⟩

set_option maxRecDepth 100000 in
set_option maxHeartbeats 3200000 in
theorem qprogram_far (i j : Nat) (hi : i ≤ S.g0) (hj : j < S.g1) (hev : L.ev = .slice none 0 0) (a1 : Option Addr) (n1 c1 : Nat) (a2 : Option Addr) (n2 c2 : Nat) (p : Int) (hp : (S.g2 : Int) ≤ p) (hb : QBeg B tag L S w (i : Int) (j : Int) 0) :
    Calls Try.prog 78 #[.pointer (some ⟨L.pa, 0, none⟩), .int .i64 (i : Int), .int .i64 (j : Int), .int .i64 p, .slice a1 n1 c1, .slice a2 n2 c2] w (QORet B tag S L.pa w 34) := by
  unfold QBeg at hb
  go_enter Try.func78, Try.ntmps78
  go_wp2_with fail
  ((with_reducible refine hb.mono ?_))
  rintro e w1 ⟨rfl, h1, k1⟩
  have KA : Kept (ownQ tag) w (w1.alloc (.cells #[.int .i64 0, .int .i64 0, .int .i64 0, .slice none 0 0] 153)) := k1.trans (Kept.of_below (F := ownQ tag) (bel_alloc (Below.refl _ w1) _)) (fun _ _ h => h)
  have HA := h1.below (bel_alloc (Below.refl _ w1) (.cells #[.int .i64 0, .int .i64 0, .int .i64 0, .slice none 0 0] 153))
  clear hb
  have bbl := (h1.range _ _ (h1.tbb i hi)).2
  have lbl := (h1.range _ _ h1.tlb).2
  have pal := (h1.range _ _ h1.tpa).2
  have c4 := h1.c .chips
  have cr := h1.c (.row i hi)
  have i1 : i < S.g0 + 1 := by omega
  have g2c := h1.c .g2
  have g3c := h1.c .g3
  have cb := h1.c (.bad i j hi hj)
  have cn := h1.c (.next i j hi hj)
  have HEV := Lib.hid hev
  have p1 : decide (p < 0) = false := decide_eq_false (by omega)
  have p2 : decide ((S.g2 : Int) ≤ p) = true := decide_eq_true hp
  have RES := Lib.hid (And.intro HA KA)
  clear h1 k1 HA KA hev
  go_wp2
  go_ret
  exact ⟨rfl, tag, L, rfl, HEV.out, RES.out.1, fun _ h => .inl h, RES.out.2⟩

set_option maxRecDepth 100000 in
set_option maxHeartbeats 3200000 in
theorem qprogram_size (i j : Nat) (hi : i ≤ S.g0) (hj : j < S.g1) (hev : L.ev = .slice none 0 0) (a1 : Option Addr) (n1 c1 : Nat) (a2 : Option Addr) (n2 c2 : Nat) (p : Nat) (hp : p < S.g2) (hl : n1 ≠ S.g3) (hb : QBeg B tag L S w (i : Int) (j : Int) 0) :
    Calls Try.prog 78 #[.pointer (some ⟨L.pa, 0, none⟩), .int .i64 (i : Int), .int .i64 (j : Int), .int .i64 (p : Int), .slice a1 n1 c1, .slice a2 n2 c2] w (QORet B tag S L.pa w 34) := by
  unfold QBeg at hb
  go_enter Try.func78, Try.ntmps78
  go_wp2_with fail
  ((with_reducible refine hb.mono ?_))
  rintro e w1 ⟨rfl, h1, k1⟩
  have KA : Kept (ownQ tag) w (w1.alloc (.cells #[.int .i64 0, .int .i64 0, .int .i64 0, .slice none 0 0] 153)) := k1.trans (Kept.of_below (F := ownQ tag) (bel_alloc (Below.refl _ w1) _)) (fun _ _ h => h)
  have HA := h1.below (bel_alloc (Below.refl _ w1) (.cells #[.int .i64 0, .int .i64 0, .int .i64 0, .slice none 0 0] 153))
  clear hb
  have bbl := (h1.range _ _ (h1.tbb i hi)).2
  have lbl := (h1.range _ _ h1.tlb).2
  have pal := (h1.range _ _ h1.tpa).2
  have c4 := h1.c .chips
  have cr := h1.c (.row i hi)
  have i1 : i < S.g0 + 1 := by omega
  have g2c := h1.c .g2
  have g3c := h1.c .g3
  have cb := h1.c (.bad i j hi hj)
  have cn := h1.c (.next i j hi hj)
  have HEV := Lib.hid hev
  have p1 : decide ((p : Int) < 0) = false := by simp
  have p2 : decide (S.g2 ≤ p) = false := by simp; omega
  have p3 : ((n1 : Int) != (S.g3 : Int)) = true := by simp; omega
  have RES := Lib.hid (And.intro HA KA)
  clear h1 k1 HA KA hev
  go_wp2
  go_ret
  exact ⟨rfl, tag, L, rfl, HEV.out, RES.out.1, fun _ h => .inl h, RES.out.2⟩

set_option maxRecDepth 100000 in
set_option maxHeartbeats 3200000 in
theorem qprogram_bad (i j : Nat) (hi : i ≤ S.g0) (hj : j < S.g1) (hev : L.ev = .slice none 0 0) (a1 : Option Addr) (n1 c1 : Nat) (a2 : Option Addr) (n2 c2 : Nat) (p : Nat) (hp : p < S.g2) (hl : n1 = S.g3) (hl2 : n2 = 64) (hbad : S.bad i j = true) (hb : QBeg B tag L S w (i : Int) (j : Int) 0) :
    Calls Try.prog 78 #[.pointer (some ⟨L.pa, 0, none⟩), .int .i64 (i : Int), .int .i64 (j : Int), .int .i64 (p : Int), .slice a1 n1 c1, .slice a2 n2 c2] w (QORet B tag S L.pa w 70) := by
  unfold QBeg at hb
  go_enter Try.func78, Try.ntmps78
  go_wp2_with fail
  ((with_reducible refine hb.mono ?_))
  rintro e w1 ⟨rfl, h1, k1⟩
  have KA : Kept (ownQ tag) w (w1.alloc (.cells #[.int .i64 0, .int .i64 0, .int .i64 0, .slice none 0 0] 153)) := k1.trans (Kept.of_below (F := ownQ tag) (bel_alloc (Below.refl _ w1) _)) (fun _ _ h => h)
  have HA := h1.below (bel_alloc (Below.refl _ w1) (.cells #[.int .i64 0, .int .i64 0, .int .i64 0, .slice none 0 0] 153))
  clear hb
  have bbl := (h1.range _ _ (h1.tbb i hi)).2
  have lbl := (h1.range _ _ h1.tlb).2
  have pal := (h1.range _ _ h1.tpa).2
  have c4 := h1.c .chips
  have cr := h1.c (.row i hi)
  have i1 : i < S.g0 + 1 := by omega
  have g2c := h1.c .g2
  have g3c := h1.c .g3
  have cb := h1.c (.bad i j hi hj)
  have cn := h1.c (.next i j hi hj)
  have HEV := Lib.hid hev
  have p1 : decide ((p : Int) < 0) = false := by simp
  have p2 : decide (S.g2 ≤ p) = false := by simp; omega
  have p3 : ((n1 : Int) != (S.g3 : Int)) = false := by simp; omega
  have p4 : ((n2 : Int) != 64) = false := by simp; omega
  rw [hbad] at cb
  clear hl hl2 hbad
  have RES := Lib.hid (And.intro HA KA)
  clear h1 k1 HA KA hev
  go_wp2
  go_ret
  exact ⟨rfl, tag, L, rfl, HEV.out, RES.out.1, fun _ h => .inl h, RES.out.2⟩

set_option maxRecDepth 100000 in
set_option maxHeartbeats 3200000 in
theorem qprogram_order (i j : Nat) (hi : i ≤ S.g0) (hj : j < S.g1) (hev : L.ev = .slice none 0 0) (a1 : Option Addr) (n1 c1 : Nat) (a2 : Option Addr) (n2 c2 : Nat) (p : Nat) (hp : p < S.g2) (hl : n1 = S.g3) (hl2 : n2 = 64) (hbad : S.bad i j = false) (hne : p ≠ S.next i j) (hb : QBeg B tag L S w (i : Int) (j : Int) 0) :
    Calls Try.prog 78 #[.pointer (some ⟨L.pa, 0, none⟩), .int .i64 (i : Int), .int .i64 (j : Int), .int .i64 (p : Int), .slice a1 n1 c1, .slice a2 n2 c2] w (QORet B tag S L.pa w 73) := by
  unfold QBeg at hb
  go_enter Try.func78, Try.ntmps78
  go_wp2_with fail
  ((with_reducible refine hb.mono ?_))
  rintro e w1 ⟨rfl, h1, k1⟩
  have KA : Kept (ownQ tag) w (w1.alloc (.cells #[.int .i64 0, .int .i64 0, .int .i64 0, .slice none 0 0] 153)) := k1.trans (Kept.of_below (F := ownQ tag) (bel_alloc (Below.refl _ w1) _)) (fun _ _ h => h)
  have HA := h1.below (bel_alloc (Below.refl _ w1) (.cells #[.int .i64 0, .int .i64 0, .int .i64 0, .slice none 0 0] 153))
  clear hb
  have bbl := (h1.range _ _ (h1.tbb i hi)).2
  have lbl := (h1.range _ _ h1.tlb).2
  have pal := (h1.range _ _ h1.tpa).2
  have c4 := h1.c .chips
  have cr := h1.c (.row i hi)
  have i1 : i < S.g0 + 1 := by omega
  have g2c := h1.c .g2
  have g3c := h1.c .g3
  have cb := h1.c (.bad i j hi hj)
  have cn := h1.c (.next i j hi hj)
  have HEV := Lib.hid hev
  have p1 : decide ((p : Int) < 0) = false := by simp
  have p2 : decide (S.g2 ≤ p) = false := by simp; omega
  have p3 : ((n1 : Int) != (S.g3 : Int)) = false := by simp; omega
  have p4 : ((n2 : Int) != 64) = false := by simp; omega
  rw [hbad] at cb
  have p5 : ((p : Int) != (S.next i j : Int)) = true := by simp; omega
  clear hl hl2 hbad
  have RES := Lib.hid (And.intro HA KA)
  clear h1 k1 HA KA hev
  go_wp2
  go_ret
  exact ⟨rfl, tag, L, rfl, HEV.out, RES.out.1, fun _ h => .inl h, RES.out.2⟩

set_option maxRecDepth 100000 in
set_option maxHeartbeats 3200000 in
theorem qprogram_ok (i j : Nat) (hi : i ≤ S.g0) (hj : j < S.g1) (hev : L.ev = .slice none 0 0) (a1 : Option Addr) (n1 c1 : Nat) (a2 : Option Addr) (n2 c2 : Nat) (p : Nat) (hp : p < S.g2) (hl : n1 = S.g3) (hl2 : n2 = 64) (hbad : S.bad i j = false) (hne0 : S.next i j = p) (ds os : List Nat) (hr1 : Row w a1 n1 ds) (hlc1 : n1 ≤ c1) (hcm1 : c1 ≤ maxLen) (hn1 : a1 = none → c1 = 0) (hr2 : Row w a2 n2 os) (hn2 : a2 = none → c2 = 0) (hf1 : ∀ x, a1 = some x → ¬ ownQ tag x.block) (hf2 : ∀ x, a2 = some x → ¬ ownQ tag x.block) (hb : QBeg B tag L S w (i : Int) (j : Int) 0) :
    Calls Try.prog 78 #[.pointer (some ⟨L.pa, 0, none⟩), .int .i64 (i : Int), .int .i64 (j : Int), .int .i64 (p : Int), .slice a1 n1 c1, .slice a2 n2 c2] w (QORet B tag ((S.setPage i j p (some (ds ++ os))).setNext i j (p + 1)) L.pa w 0) := by
  unfold QBeg at hb
  go_enter Try.func78, Try.ntmps78
  go_wp2_with fail
  ((with_reducible refine hb.mono ?_))
  rintro e w1 ⟨rfl, h1, k1⟩
  have KA : Kept (ownQ tag) w (w1.alloc (.cells #[.int .i64 0, .int .i64 0, .int .i64 0, .slice none 0 0] 153)) := k1.trans (Kept.of_below (F := ownQ tag) (bel_alloc (Below.refl _ w1) _)) (fun _ _ h => h)
  have HA := h1.below (bel_alloc (Below.refl _ w1) (.cells #[.int .i64 0, .int .i64 0, .int .i64 0, .slice none 0 0] 153))
  clear hb
  have bbl := (h1.range _ _ (h1.tbb i hi)).2
  have lbl := (h1.range _ _ h1.tlb).2
  have pal := (h1.range _ _ h1.tpa).2
  have c4 := h1.c .chips
  have cr := h1.c (.row i hi)
  have i1 : i < S.g0 + 1 := by omega
  have g2c := h1.c .g2
  have g3c := h1.c .g3
  have cb := h1.c (.bad i j hi hj)
  have cn := h1.c (.next i j hi hj)
  have HEV := Lib.hid hev
  have p1 : decide ((p : Int) < 0) = false := by simp
  have p2 : decide (S.g2 ≤ p) = false := by simp; omega
  have p3 : ((n1 : Int) != (S.g3 : Int)) = false := by simp; omega
  have p4 : ((n2 : Int) != 64) = false := by simp; omega
  rw [hbad] at cb
  rw [hne0] at cn
  have p5 : ((p : Int) != (p : Int)) = false := by simp
  have fn := h1.f (.next i j hi hj)
  have hp1 : (p : Int) < 32 := by have := h1.shape.b2; omega
  obtain ⟨W3, hW3⟩ : ∃ W3, W3 = (w1.setCell ⟨L.bb i, j * 4 + 1, none⟩ (.int .i64 ((p : Int) + 1))).alloc (.cells #[.int .i64 0, .int .i64 0, .int .i64 0, .slice none 0 0] 153) := ⟨_, rfl⟩
  have H2 := h1.setNext i j hi hj (p + 1) (by omega)
  have K2 := k1.set ⟨L.bb i, j * 4 + 1, none⟩ (.int .i64 ((p + 1 : Nat) : Int)) (.inl (ownQ_tag (h1.tbb i hi)))
  rw [show ((p + 1 : Nat) : Int) = (p : Int) + 1 by omega] at H2 K2
  have hba : Below (w1.setCell ⟨L.bb i, j * 4 + 1, none⟩ (.int .i64 ((p : Int) + 1))).heap.size (w1.setCell ⟨L.bb i, j * 4 + 1, none⟩ (.int .i64 ((p : Int) + 1))) W3 := by rw [hW3]; exact bel_alloc (Below.refl _ _) _
  have H3 := H2.below hba
  have K3 : Kept (ownQ tag) w W3 := K2.trans (Kept.of_below (F := ownQ tag) hba) (fun _ _ h => h)
  have r1 := row_kept hr1 K3 hf1
  have r2 := row_kept hr2 K3 hf2
  have cpg := H3.c (.pages i j hi hj)
  obtain ⟨b2, off2, rfl, hcell2⟩ := r2.2.2 (by omega)
  obtain ⟨u, hu⟩ : ∃ u, W3.cell? ⟨L.pb i j, p, none⟩ = some u := by
    have := H3.rows i j p hi hj hp
    cases hpg : (S.setNext i j (p + 1)).page i j p with
    | none => rw [hpg] at this; exact ⟨_, this⟩
    | some bs => rw [hpg] at this; obtain ⟨_, _, _, q1, _⟩ := this; exact ⟨_, q1⟩
  have tpb := H3.tpb i j hi hj
  have hfz := H3.free _ _ p tpb trivial
  have hpbl := (H3.range _ _ tpb).2
  have hbbl := (H3.range _ _ (H3.tbb i hi)).2
  have hne : L.pb i j ≠ L.bb i := H3.pb_ne hi hj (H3.tbb i hi) (by simp)
  obtain ⟨i0, hi0, hz0, hz1, hz2⟩ := info_parts info_u8
  have HCL : Hid (∀ w', Below W3.heap.size W3 w' → w'.cell? ⟨L.bb i, j * 4, none⟩ = some (.slice (some ⟨L.pb i j, 0, none⟩) S.g2 S.g2) ∧ w'.cell? ⟨L.pb i j, p, none⟩ = some u ∧ w'.frozen? ⟨L.pb i j, p, none⟩ = false ∧ Row w' a1 n1 ds ∧ Row w' (some ⟨b2, off2, none⟩) n2 os) := Lib.hid fun w' hb => ⟨(hb.cell (p := ⟨L.bb i, j * 4, none⟩) hbbl).trans cpg, (hb.cell (p := ⟨L.pb i j, p, none⟩) hpbl).trans hu, (hb.frozen (p := ⟨L.pb i j, p, none⟩) hpbl).trans hfz, row_keep r1 hb (Nat.le_refl _), row_keep r2 hb (Nat.le_refl _)⟩
  have HB3 := h1.shape.b3
  have HA3 := h1.shape.a3
  have HLN := Lib.hid (And.intro hl hl2)
  have HH3 := Lib.hid H3
  have HK3 := Lib.hid K3
  have HTW : Hid (∀ k, w.heap.size ≤ k → ¬ ownQ tag k ∨ k < w1.heap.size) := Lib.hid fun k _ => (Nat.lt_or_ge k w1.heap.size).elim .inr fun q => .inl (h1.notOwn q)
  have HN1 : n1 ≤ 1024 := by omega
  subst hl2
  have HW3 := Lib.hid hW3
  have HDL := Lib.hid r1.1
  have HOL := Lib.hid r2.1
  have HNE := Lib.hid hne0
  have HAR := Lib.hid (And.intro hlc1 (And.intro hcm1 hn1))
  have HPW : Hid (p < S.g2) := Lib.hid hp
  clear h1 k1 HA KA hl hbad hne hne0 hev H2 K2 hba H3 K3 r1 r2 cpg hu hfz hr1 hr2 hcell2 hn1 hn2 hf1 hf2 hW3 hlc1 hcm1
  go_upto_region 25 with fail
  rw [← HW3.out]
  have hbd : Below W3.heap.size W3 W3.drew := (Below.refl _ W3).drew
  have hpp : p < S.g2 := HPW.out
  have hne : L.pb i j ≠ L.bb i := HH3.out.pb_ne hi hj (HH3.out.tbb i hi) (by simp)
  go_region_held3 (fun w' => w'.cell? ⟨L.bb i, j * 4, none⟩ = some (.slice (some ⟨L.pb i j, 0, none⟩) S.g2 S.g2))
    (first | exact (HCL.out _ hbd).1 | exact (HCL.out _ hb5).1 | exact (HCL.out _ hb6).1 | go_keep)
    (first
      | (go_simp; go_at_call 139; ((with_reducible refine (part_any a1 n1 c1 ds _ (HCL.out _ hbd).2.2.2.1 HAR.out.1 HAR.out.2.1 HAR.out.2.2 (by omega)).mono ?_)); (intro e w5 h5; obtain ⟨ra, rc, rfl, _, _, ho5, hb5'⟩ := retOwn_len h5; have hb5 : Below W3.heap.size W3 w5 := hbd.trans (hb5'.mono hbd.size); rw [HDL.out] at ho5 ⊢; have hn5 := news_row (HCL.out _ hb5).2.2.2.2 rfl; have ho5' := ho5.1; rw [HDL.out] at ho5'; clear h5))
      | (refine step_append_lies _ (by rfl) _ _ _ (by rfl) W3.heap.size 5 i0 _ 1 1 Try.underlying57 hi0 hz0 hz1 hz2 rfl (by omega) (.slice ra n1 rc) n1 (ds.map u8v) (by rfl) ho5' ⟨b2, off2, none⟩ 64 c2 (os.map u8v) (by rfl) (by rw [List.length_map, HOL.out]) hn5 (by intro v hv; rw [List.mem_map] at hv; obtain ⟨y, _, rfl⟩ := hv; rfl) (by omega) (by unfold maxLen; omega) (by omega) hb5.size w5.heap.size rfl ?_; intro gg gcap w6 ho6 hg6 hat6 hlt6; have hb6 : Below W3.heap.size W3 w6 := hb5.grown hg6 hb5.size (fun x hx => (ho5.1.lt x hx).1); have hu6 := (HCL.out _ hb6).2.1; have hfz6 := (HCL.out _ hb6).2.2.1; have hrw6 := (HCL.out _ hb6).1))
  have hrb1 : ∀ x ∈ ds, x < 256 := (HCL.out _ hb6).2.2.2.1.2.1
  have hrb2 : ∀ x ∈ os, x < 256 := (HCL.out _ hb6).2.2.2.2.2.1
  have hown : Own W3.heap.size w6 (.slice (some ⟨gg, 0, none⟩) (n1 + 64) gcap) (ds ++ os) := by
    refine ⟨?_, fun x hx => ?_⟩
    · rw [List.length_append, HDL.out, HOL.out, List.map_append]; exact ho6
    · rcases List.mem_append.1 hx with q | q
      · exact hrb1 x q
      · exact hrb2 x q
  obtain ⟨gg', hgeq, hg0, hg1, hc1, hc2, _⟩ := own_block hown (by rw [List.length_append, HOL.out]; omega)
  cases hgeq
  obtain ⟨ga, gc, hgsv, hrow, _⟩ := row_of_own hown
  simp only [Value.slice.injEq] at hgsv
  obtain ⟨rfl, hgl, rfl⟩ := hgsv
  rw [← hgl] at hrow
  rw [HLN.out.1] at hrow hc1
  have H6 := (HH3.out.below hb6).withRow (g := gg) (by have := HH3.out.base; omega) hg1 (HH3.out.noTag hg0)
  have H7 := H6.setPage i j p hi hj hpp gg 0 gcap (ds ++ os) (by unfold withRowQ; rw [if_pos rfl]) hrow hc1 hc2
  have K7 : Kept (ownQ tag) w (w6.setCell ⟨L.pb i j, p, none⟩ (.slice (some ⟨gg, 0, none⟩) ((S.setNext i j (p + 1)).g3 + 64) gcap)) := (HK3.out.trans (Kept.of_below (F := ownQ tag) hb6) (fun _ _ h => h)).set _ _ (.inl (ownQ_tag tpb))
  have HGN : Hid (w.heap.size ≤ gg) := Lib.hid (by have := HK3.out.size; omega)
  have HR := Lib.hid (And.intro H7 K7)
  have HLE : (S.setNext i j (p + 1)).g3 = n1 := HLN.out.1.symm
  rw [HLE] at HR
  clear HLE H7 K7 H6 hrow hc1 hc2 hown hrb1 hrb2
  go_wp2
  go_ret
  exact ⟨rfl, withRowQ tag gg, L, rfl, HEV.out, HR.out.1, fun k hk => (withRowQ_own hk).imp id (fun e => by rw [e]; exact HGN.out), HR.out.2⟩

end

end Go.Proofs.Ytbfmpcomjmcfjaa
