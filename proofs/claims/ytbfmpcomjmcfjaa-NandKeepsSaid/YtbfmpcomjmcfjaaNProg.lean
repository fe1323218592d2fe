/- nand: Program, where neither a Crash nor a Fail comes. -/
import Derived.Test.YtbfmpcomjmcfjaaNPut
import Derived.Test.YtbfmpcomjmcfjaaNCat
namespace Go.Proofs.Ytbfmpcomjmcfjaa
open Go.RowKit

/-- The chips have more blocks of their ownT. -/
structure Grew (tag tag' : Nat → Option Tag) (w : World) : Prop where
  up : ∀ k t, tag k = some t → tag' k = some t
  down : ∀ k, ownT tag' k → ownT tag k ∨ w.heap.size ≤ k
theorem Grew.refl (tag : Nat → Option Tag) (w : World) : Grew tag tag w := ⟨fun _ _ h => h, fun _ h => .inl h⟩
theorem Grew.trans {tag tag1 tag2 : Nat → Option Tag} {w w1 : World} (h : Grew tag tag1 w) (k : Grew tag1 tag2 w1) (hs : w.heap.size ≤ w1.heap.size) : Grew tag tag2 w :=
  ⟨fun x t hx => k.up x t (h.up x t hx), fun x hx => (k.down x hx).elim (h.down x) fun q => .inr (Nat.le_trans hs q)⟩
/-- What an operation ends with. -/
def ORet (B : Nat) (tag : Nat → Option Tag) (L : NL) (S : NS) (w : World) (n : Int) (e : Ending) (w' : World) : Prop :=
  e = .returned (.int .i64 n) ∧ ∃ tag', NA B tag' L S w' ∧ Grew tag tag' w ∧ Kept (ownT tag) w w'
def withRow (tag : Nat → Option Tag) (g : Nat) (k : Nat) : Option Tag := if k = g then some .row else tag k
theorem withRow_grew {tag : Nat → Option Tag} {w : World} {g : Nat} (hg : w.heap.size ≤ g) (hn : tag g = none) : Grew tag (withRow tag g) w := by
  refine ⟨fun k t ht => ?_, fun k ho => ?_⟩
  · unfold withRow
    rw [if_neg (fun e => by subst e; rw [hn] at ht; cases ht)]; exact ht
  · by_cases e : k = g
    · subst e; exact .inr hg
    · unfold ownT withRow at ho; rw [if_neg e] at ho; exact .inl ho
theorem own_block {B : Nat} {w : World} {a : Option Addr} {n c : Nat} {l : List Nat} (h : Own B w (.slice a n c) l) (h0 : 0 < l.length) : ∃ g, a = some ⟨g, 0, none⟩ ∧ B ≤ g ∧ g < w.heap.size ∧ n ≤ c ∧ c ≤ maxLen ∧ n = l.length := by
  have hlt := own_base h
  rcases h.1.2 with ⟨_, h2⟩ | ⟨g, cap, cur, e, hb, _, hc1, hc2, _⟩
  · omega
  · simp only [Value.slice.injEq] at e
    obtain ⟨rfl, rfl, rfl⟩ := e
    exact ⟨g, rfl, hb, (hlt g rfl).2, hc1, hc2, rfl⟩
theorem row_kept {F : Nat → Prop} {w w' : World} {a : Option Addr} {n : Nat} {bs : List Nat} (h : Row w a n bs) (k : Kept F w w') (hf : ∀ x, a = some x → ¬ F x.block) : Row w' a n bs :=
  row_same h fun h0 x hx => k.block _ (row_lt h h0 x hx) (hf x hx)
section
variable {B : Nat} {tag : Nat → Option Tag} {L : NL} {S : NS} {w : World}
theorem NA.withRow {w' : World} (h : NA B tag L S w') {g : Nat} (hB : B ≤ g) (hg : g < w'.heap.size) (hn : tag g = none) : NA B (withRow tag g) L S w' := by
  refine h.tags (fun k t ht => ?_) (fun k t ht => ?_)
  · unfold Go.Proofs.Ytbfmpcomjmcfjaa.withRow
    rw [if_neg (fun e => by subst e; rw [hn] at ht; cases ht)]; exact ht
  · by_cases e : k = g
    · subst e
      unfold Go.Proofs.Ytbfmpcomjmcfjaa.withRow at ht
      rw [if_pos rfl] at ht
      cases ht
      exact .inr ⟨hB, hg, rfl⟩
    · unfold Go.Proofs.Ytbfmpcomjmcfjaa.withRow at ht
      rw [if_neg e] at ht; exact .inl ht
theorem NA.noTag (h : NA B tag L S w) {g : Nat} (hg : w.heap.size ≤ g) : tag g = none := by
  cases ht : tag g with
  | none => rfl
  | some t => have := (h.range g t ht).2; omega
theorem NA.base (h : NA B tag L S w) : B ≤ w.heap.size := by have := h.range _ _ h.tpa; omega
theorem tick_g (S : NS) : S.tick.g0 = S.g0 ∧ S.tick.g1 = S.g1 ∧ S.tick.g2 = S.g2 ∧ S.tick.g3 = S.g3 := by
  unfold NS.tick NS.met
  split
  · split <;> exact ⟨rfl, rfl, rfl, rfl⟩
  · split <;> exact ⟨rfl, rfl, rfl, rfl⟩

set_option maxRecDepth 100000 in
set_option maxHeartbeats 3200000 in
theorem program_neg (h : NA B tag L S w) (i j : Nat) (hi : i ≤ S.g0) (hj : j < S.g1) (hoff : S.off = false) (hops : S.ops < 1000000000000) (hd : S.tick.dead i = false) (hk : (S.ev (S.ops + 1)).ki ≠ 2)
    (a1 : Option Addr) (n1 c1 : Nat) (a2 : Option Addr) (n2 c2 : Nat) (p : Int) (hp : p < 0) :
    Calls Try.prog 36 #[.pointer (some ⟨L.pa, 0, none⟩), .int .i64 (i : Int), .int .i64 (j : Int), .int .i64 p, .slice a1 n1 c1, .slice a2 n2 c2] w (ORet B tag L S.tick w 34) := by
  have hb := (begin_any h i j hi hj hoff hops)
  obtain ⟨x, hx⟩ : ∃ x, S.ev (S.ops + 1) = x := ⟨_, rfl⟩
  obtain ⟨la, ll, lc, hlv, _⟩ := h.left (S.ops + 1)
  rw [hx] at hk
  rw [hlv, hx] at hb
  unfold NE.val at hb
  obtain ⟨T, hT⟩ : ∃ T, S.tick = T := ⟨_, rfl⟩
  obtain ⟨g0, g1, g2, g3⟩ := tick_g S
  rw [hT] at hb hd g0 g1 g2 g3 ⊢
  have hiT : i ≤ T.g0 := by rw [g0]; exact hi
  have hjT : j < T.g1 := by rw [g1]; exact hj
  have HS := Lib.hid h
  clear hT hoff hops hlv hx h hi hj
  have q2 : (x.ki == 2) = false := by simpa using hk
  go_enter Try.func36, Try.ntmps36
  go_wp2_with fail
  ((with_reducible refine hb.mono ?_))
  rintro e w1 hbe
  obtain ⟨rfl, h1, k1⟩ := hbe.1 hd
  clear hbe hb hk
  have KA : Kept (ownT tag) w (w1.alloc (.cells #[.int .i64 x.op, .int .i64 x.ki, .int .i64 x.ch, .slice la ll lc] 147)) := k1.trans (Kept.of_below (F := ownT tag) (bel_alloc (Below.refl _ w1) _)) (fun _ _ h => h)
  have HA := h1.below (bel_alloc (Below.refl _ w1) (.cells #[.int .i64 x.op, .int .i64 x.ki, .int .i64 x.ch, .slice la ll lc] 147))
  have bbl := (h1.range _ _ (h1.tbb i hiT)).2
  have pal := (h1.range _ _ h1.tpa).2
  have c3 := h1.c (.pages i j hiT hjT)
  have cg := h1.c .g3
  have cb := h1.c (.bad i j hiT hjT)
  have cn := h1.c (.next i j hiT hjT)
  have p1 : decide ((0 : Int) ≤ p) = false := by simp; omega
  have RES := Lib.hid (And.intro HA KA)
  clear h1 k1 HA KA
  go_wp2
  go_ret
  exact ⟨rfl, tag, RES.out.1, Grew.refl _ _, RES.out.2⟩

set_option maxRecDepth 100000 in
set_option maxHeartbeats 3200000 in
theorem program_far (h : NA B tag L S w) (i j : Nat) (hi : i ≤ S.g0) (hj : j < S.g1) (hoff : S.off = false) (hops : S.ops < 1000000000000) (hd : S.tick.dead i = false) (hk : (S.ev (S.ops + 1)).ki ≠ 2)
    (a1 : Option Addr) (n1 c1 : Nat) (a2 : Option Addr) (n2 c2 : Nat) (p : Int) (hp : (S.tick.g2 : Int) ≤ p) :
    Calls Try.prog 36 #[.pointer (some ⟨L.pa, 0, none⟩), .int .i64 (i : Int), .int .i64 (j : Int), .int .i64 p, .slice a1 n1 c1, .slice a2 n2 c2] w (ORet B tag L S.tick w 34) := by
  have hb := (begin_any h i j hi hj hoff hops)
  obtain ⟨x, hx⟩ : ∃ x, S.ev (S.ops + 1) = x := ⟨_, rfl⟩
  obtain ⟨la, ll, lc, hlv, _⟩ := h.left (S.ops + 1)
  rw [hx] at hk
  rw [hlv, hx] at hb
  unfold NE.val at hb
  obtain ⟨T, hT⟩ : ∃ T, S.tick = T := ⟨_, rfl⟩
  obtain ⟨g0, g1, g2, g3⟩ := tick_g S
  rw [hT] at hb hd g0 g1 g2 g3 hp ⊢
  have hiT : i ≤ T.g0 := by rw [g0]; exact hi
  have hjT : j < T.g1 := by rw [g1]; exact hj
  have HS := Lib.hid h
  clear hT hoff hops hlv hx h hi hj
  have q2 : (x.ki == 2) = false := by simpa using hk
  go_enter Try.func36, Try.ntmps36
  go_wp2_with fail
  ((with_reducible refine hb.mono ?_))
  rintro e w1 hbe
  obtain ⟨rfl, h1, k1⟩ := hbe.1 hd
  clear hbe hb hk
  have KA : Kept (ownT tag) w (w1.alloc (.cells #[.int .i64 x.op, .int .i64 x.ki, .int .i64 x.ch, .slice la ll lc] 147)) := k1.trans (Kept.of_below (F := ownT tag) (bel_alloc (Below.refl _ w1) _)) (fun _ _ h => h)
  have HA := h1.below (bel_alloc (Below.refl _ w1) (.cells #[.int .i64 x.op, .int .i64 x.ki, .int .i64 x.ch, .slice la ll lc] 147))
  have bbl := (h1.range _ _ (h1.tbb i hiT)).2
  have pal := (h1.range _ _ h1.tpa).2
  have c3 := h1.c (.pages i j hiT hjT)
  have cg := h1.c .g3
  have cb := h1.c (.bad i j hiT hjT)
  have cn := h1.c (.next i j hiT hjT)
  have p1 : decide ((0 : Int) ≤ p) = true := by simp; omega
  have p2 : decide (p < (T.g2 : Int)) = false := by simp; omega
  have RES := Lib.hid (And.intro HA KA)
  clear h1 k1 HA KA
  go_wp2
  go_ret
  exact ⟨rfl, tag, RES.out.1, Grew.refl _ _, RES.out.2⟩

set_option maxRecDepth 100000 in
set_option maxHeartbeats 3200000 in
theorem program_size (h : NA B tag L S w) (i j : Nat) (hi : i ≤ S.g0) (hj : j < S.g1) (hoff : S.off = false) (hops : S.ops < 1000000000000) (hd : S.tick.dead i = false) (hk : (S.ev (S.ops + 1)).ki ≠ 2)
    (a1 : Option Addr) (n1 c1 : Nat) (a2 : Option Addr) (n2 c2 : Nat) (p : Nat) (hp : p < S.tick.g2) (hl : n1 ≠ S.tick.g3) :
    Calls Try.prog 36 #[.pointer (some ⟨L.pa, 0, none⟩), .int .i64 (i : Int), .int .i64 (j : Int), .int .i64 (p : Int), .slice a1 n1 c1, .slice a2 n2 c2] w (ORet B tag L S.tick w 34) := by
  have hb := (begin_any h i j hi hj hoff hops)
  obtain ⟨x, hx⟩ : ∃ x, S.ev (S.ops + 1) = x := ⟨_, rfl⟩
  obtain ⟨la, ll, lc, hlv, _⟩ := h.left (S.ops + 1)
  rw [hx] at hk
  rw [hlv, hx] at hb
  unfold NE.val at hb
  obtain ⟨T, hT⟩ : ∃ T, S.tick = T := ⟨_, rfl⟩
  obtain ⟨g0, g1, g2, g3⟩ := tick_g S
  rw [hT] at hb hd g0 g1 g2 g3 hp hl ⊢
  have hiT : i ≤ T.g0 := by rw [g0]; exact hi
  have hjT : j < T.g1 := by rw [g1]; exact hj
  have HS := Lib.hid h
  clear hT hoff hops hlv hx h hi hj
  have q2 : (x.ki == 2) = false := by simpa using hk
  go_enter Try.func36, Try.ntmps36
  go_wp2_with fail
  ((with_reducible refine hb.mono ?_))
  rintro e w1 hbe
  obtain ⟨rfl, h1, k1⟩ := hbe.1 hd
  clear hbe hb hk
  have KA : Kept (ownT tag) w (w1.alloc (.cells #[.int .i64 x.op, .int .i64 x.ki, .int .i64 x.ch, .slice la ll lc] 147)) := k1.trans (Kept.of_below (F := ownT tag) (bel_alloc (Below.refl _ w1) _)) (fun _ _ h => h)
  have HA := h1.below (bel_alloc (Below.refl _ w1) (.cells #[.int .i64 x.op, .int .i64 x.ki, .int .i64 x.ch, .slice la ll lc] 147))
  have bbl := (h1.range _ _ (h1.tbb i hiT)).2
  have pal := (h1.range _ _ h1.tpa).2
  have c3 := h1.c (.pages i j hiT hjT)
  have cg := h1.c .g3
  have cb := h1.c (.bad i j hiT hjT)
  have cn := h1.c (.next i j hiT hjT)
  have p1 : decide ((0 : Int) ≤ (p : Int)) = true := by simp
  have p2 : decide (p < T.g2) = true := by simp; omega
  have p3 : ((n1 : Int) == (T.g3 : Int)) = false := by simp; omega
  have RES := Lib.hid (And.intro HA KA)
  clear h1 k1 HA KA
  go_wp2
  go_ret
  exact ⟨rfl, tag, RES.out.1, Grew.refl _ _, RES.out.2⟩

set_option maxRecDepth 100000 in
set_option maxHeartbeats 3200000 in
theorem program_oob (h : NA B tag L S w) (i j : Nat) (hi : i ≤ S.g0) (hj : j < S.g1) (hoff : S.off = false) (hops : S.ops < 1000000000000) (hd : S.tick.dead i = false) (hk : (S.ev (S.ops + 1)).ki ≠ 2)
    (a1 : Option Addr) (n1 c1 : Nat) (a2 : Option Addr) (n2 c2 : Nat) (p : Nat) (hp : p < S.tick.g2) (hl : n1 = S.tick.g3) (hl2 : n2 ≠ 64) :
    Calls Try.prog 36 #[.pointer (some ⟨L.pa, 0, none⟩), .int .i64 (i : Int), .int .i64 (j : Int), .int .i64 (p : Int), .slice a1 n1 c1, .slice a2 n2 c2] w (ORet B tag L S.tick w 34) := by
  have hb := (begin_any h i j hi hj hoff hops)
  obtain ⟨x, hx⟩ : ∃ x, S.ev (S.ops + 1) = x := ⟨_, rfl⟩
  obtain ⟨la, ll, lc, hlv, _⟩ := h.left (S.ops + 1)
  rw [hx] at hk
  rw [hlv, hx] at hb
  unfold NE.val at hb
  obtain ⟨T, hT⟩ : ∃ T, S.tick = T := ⟨_, rfl⟩
  obtain ⟨g0, g1, g2, g3⟩ := tick_g S
  rw [hT] at hb hd g0 g1 g2 g3 hp hl ⊢
  have hiT : i ≤ T.g0 := by rw [g0]; exact hi
  have hjT : j < T.g1 := by rw [g1]; exact hj
  have HS := Lib.hid h
  clear hT hoff hops hlv hx h hi hj
  have q2 : (x.ki == 2) = false := by simpa using hk
  go_enter Try.func36, Try.ntmps36
  go_wp2_with fail
  ((with_reducible refine hb.mono ?_))
  rintro e w1 hbe
  obtain ⟨rfl, h1, k1⟩ := hbe.1 hd
  clear hbe hb hk
  have KA : Kept (ownT tag) w (w1.alloc (.cells #[.int .i64 x.op, .int .i64 x.ki, .int .i64 x.ch, .slice la ll lc] 147)) := k1.trans (Kept.of_below (F := ownT tag) (bel_alloc (Below.refl _ w1) _)) (fun _ _ h => h)
  have HA := h1.below (bel_alloc (Below.refl _ w1) (.cells #[.int .i64 x.op, .int .i64 x.ki, .int .i64 x.ch, .slice la ll lc] 147))
  have bbl := (h1.range _ _ (h1.tbb i hiT)).2
  have pal := (h1.range _ _ h1.tpa).2
  have c3 := h1.c (.pages i j hiT hjT)
  have cg := h1.c .g3
  have cb := h1.c (.bad i j hiT hjT)
  have cn := h1.c (.next i j hiT hjT)
  have p1 : decide ((0 : Int) ≤ (p : Int)) = true := by simp
  have p2 : decide (p < T.g2) = true := by simp; omega
  have p3 : ((n1 : Int) == (T.g3 : Int)) = true := by simp; omega
  have p4 : ((n2 : Int) == 64) = false := by simp; omega
  have RES := Lib.hid (And.intro HA KA)
  clear h1 k1 HA KA
  go_wp2
  go_ret
  exact ⟨rfl, tag, RES.out.1, Grew.refl _ _, RES.out.2⟩

set_option maxRecDepth 100000 in
set_option maxHeartbeats 3200000 in
theorem program_bad (h : NA B tag L S w) (i j : Nat) (hi : i ≤ S.g0) (hj : j < S.g1) (hoff : S.off = false) (hops : S.ops < 1000000000000) (hd : S.tick.dead i = false) (hk : (S.ev (S.ops + 1)).ki ≠ 2)
    (a1 : Option Addr) (n1 c1 : Nat) (a2 : Option Addr) (n2 c2 : Nat) (p : Nat) (hp : p < S.tick.g2) (hl : n1 = S.tick.g3) (hl2 : n2 = 64) (hbad : S.tick.bad i j = true) :
    Calls Try.prog 36 #[.pointer (some ⟨L.pa, 0, none⟩), .int .i64 (i : Int), .int .i64 (j : Int), .int .i64 (p : Int), .slice a1 n1 c1, .slice a2 n2 c2] w (ORet B tag L S.tick w 70) := by
  have hb := (begin_any h i j hi hj hoff hops)
  obtain ⟨x, hx⟩ : ∃ x, S.ev (S.ops + 1) = x := ⟨_, rfl⟩
  obtain ⟨la, ll, lc, hlv, _⟩ := h.left (S.ops + 1)
  rw [hx] at hk
  rw [hlv, hx] at hb
  unfold NE.val at hb
  obtain ⟨T, hT⟩ : ∃ T, S.tick = T := ⟨_, rfl⟩
  obtain ⟨g0, g1, g2, g3⟩ := tick_g S
  rw [hT] at hb hd g0 g1 g2 g3 hp hl hbad ⊢
  have hiT : i ≤ T.g0 := by rw [g0]; exact hi
  have hjT : j < T.g1 := by rw [g1]; exact hj
  have HS := Lib.hid h
  clear hT hoff hops hlv hx h hi hj
  have q2 : (x.ki == 2) = false := by simpa using hk
  go_enter Try.func36, Try.ntmps36
  go_wp2_with fail
  ((with_reducible refine hb.mono ?_))
  rintro e w1 hbe
  obtain ⟨rfl, h1, k1⟩ := hbe.1 hd
  clear hbe hb hk
  have KA : Kept (ownT tag) w (w1.alloc (.cells #[.int .i64 x.op, .int .i64 x.ki, .int .i64 x.ch, .slice la ll lc] 147)) := k1.trans (Kept.of_below (F := ownT tag) (bel_alloc (Below.refl _ w1) _)) (fun _ _ h => h)
  have HA := h1.below (bel_alloc (Below.refl _ w1) (.cells #[.int .i64 x.op, .int .i64 x.ki, .int .i64 x.ch, .slice la ll lc] 147))
  have bbl := (h1.range _ _ (h1.tbb i hiT)).2
  have pal := (h1.range _ _ h1.tpa).2
  have c3 := h1.c (.pages i j hiT hjT)
  have cg := h1.c .g3
  have cb := h1.c (.bad i j hiT hjT)
  have cn := h1.c (.next i j hiT hjT)
  have p1 : (0 : Int) ≤ (p : Int) := by omega
  have p2 : decide (p < T.g2) = true := by simp; omega
  have p3 : ((n1 : Int) == (T.g3 : Int)) = true := by simp; omega
  have p4 : ((n2 : Int) == 64) = true := by simp; omega
  rw [hbad] at cb
  have RES := Lib.hid (And.intro HA KA)
  clear h1 k1 HA KA
  go_wp2
  go_ret
  exact ⟨rfl, tag, RES.out.1, Grew.refl _ _, RES.out.2⟩

set_option maxRecDepth 100000 in
set_option maxHeartbeats 3200000 in
theorem program_order (h : NA B tag L S w) (i j : Nat) (hi : i ≤ S.g0) (hj : j < S.g1) (hoff : S.off = false) (hops : S.ops < 1000000000000) (hd : S.tick.dead i = false) (hk : (S.ev (S.ops + 1)).ki ≠ 2)
    (a1 : Option Addr) (n1 c1 : Nat) (a2 : Option Addr) (n2 c2 : Nat) (p : Nat) (hp : p < S.tick.g2) (hl : n1 = S.tick.g3) (hl2 : n2 = 64) (hbad : S.tick.bad i j = false) (hne : p ≠ S.tick.next i j) :
    Calls Try.prog 36 #[.pointer (some ⟨L.pa, 0, none⟩), .int .i64 (i : Int), .int .i64 (j : Int), .int .i64 (p : Int), .slice a1 n1 c1, .slice a2 n2 c2] w (ORet B tag L S.tick w 73) := by
  have hb := (begin_any h i j hi hj hoff hops)
  obtain ⟨x, hx⟩ : ∃ x, S.ev (S.ops + 1) = x := ⟨_, rfl⟩
  obtain ⟨la, ll, lc, hlv, _⟩ := h.left (S.ops + 1)
  rw [hx] at hk
  rw [hlv, hx] at hb
  unfold NE.val at hb
  obtain ⟨T, hT⟩ : ∃ T, S.tick = T := ⟨_, rfl⟩
  obtain ⟨g0, g1, g2, g3⟩ := tick_g S
  rw [hT] at hb hd g0 g1 g2 g3 hp hl hbad hne ⊢
  have hiT : i ≤ T.g0 := by rw [g0]; exact hi
  have hjT : j < T.g1 := by rw [g1]; exact hj
  have HS := Lib.hid h
  clear hT hoff hops hlv hx h hi hj
  have q2 : (x.ki == 2) = false := by simpa using hk
  go_enter Try.func36, Try.ntmps36
  go_wp2_with fail
  ((with_reducible refine hb.mono ?_))
  rintro e w1 hbe
  obtain ⟨rfl, h1, k1⟩ := hbe.1 hd
  clear hbe hb hk
  have KA : Kept (ownT tag) w (w1.alloc (.cells #[.int .i64 x.op, .int .i64 x.ki, .int .i64 x.ch, .slice la ll lc] 147)) := k1.trans (Kept.of_below (F := ownT tag) (bel_alloc (Below.refl _ w1) _)) (fun _ _ h => h)
  have HA := h1.below (bel_alloc (Below.refl _ w1) (.cells #[.int .i64 x.op, .int .i64 x.ki, .int .i64 x.ch, .slice la ll lc] 147))
  have bbl := (h1.range _ _ (h1.tbb i hiT)).2
  have pal := (h1.range _ _ h1.tpa).2
  have c3 := h1.c (.pages i j hiT hjT)
  have cg := h1.c .g3
  have cb := h1.c (.bad i j hiT hjT)
  have cn := h1.c (.next i j hiT hjT)
  have p1 : (0 : Int) ≤ (p : Int) := by omega
  have p2 : decide (p < T.g2) = true := by simp; omega
  have p3 : ((n1 : Int) == (T.g3 : Int)) = true := by simp; omega
  have p4 : ((n2 : Int) == 64) = true := by simp; omega
  rw [hbad] at cb
  have p5 : ((p : Int) != (T.next i j : Int)) = true := by simp; omega
  have RES := Lib.hid (And.intro HA KA)
  clear h1 k1 HA KA
  go_wp2
  go_ret
  exact ⟨rfl, tag, RES.out.1, Grew.refl _ _, RES.out.2⟩

set_option maxRecDepth 100000 in
set_option maxHeartbeats 3200000 in
theorem program_ok (h : NA B tag L S w) (i j : Nat) (hi : i ≤ S.g0) (hj : j < S.g1) (hoff : S.off = false) (hops : S.ops < 1000000000000) (hd : S.tick.dead i = false) (hk : (S.ev (S.ops + 1)).ki ≠ 2)
    (a1 : Option Addr) (n1 c1 : Nat) (a2 : Option Addr) (n2 c2 : Nat) (p : Nat) (hp : p < S.tick.g2) (hl : n1 = S.tick.g3) (hl2 : n2 = 64) (hbad : S.tick.bad i j = false) (hne : S.tick.next i j = p) (hk1 : (S.ev (S.ops + 1)).ki ≠ 1)
    (ds os : List Nat) (hr1 : Row w a1 n1 ds) (hn1 : a1 = none → c1 = 0) (hr2 : Row w a2 n2 os) (hn2 : a2 = none → c2 = 0) (hf1 : ∀ x, a1 = some x → ¬ ownT tag x.block) (hf2 : ∀ x, a2 = some x → ¬ ownT tag x.block) :
    Calls Try.prog 36 #[.pointer (some ⟨L.pa, 0, none⟩), .int .i64 (i : Int), .int .i64 (j : Int), .int .i64 (p : Int), .slice a1 n1 c1, .slice a2 n2 c2] w (ORet B tag L ((S.tick.setPage i j p (some (ds ++ os))).setNext i j (p + 1)) w 0) := by
  have hb := (begin_any h i j hi hj hoff hops)
  obtain ⟨x, hx⟩ : ∃ x, S.ev (S.ops + 1) = x := ⟨_, rfl⟩
  obtain ⟨la, ll, lc, hlv, _⟩ := h.left (S.ops + 1)
  rw [hx] at hk hk1
  rw [hlv, hx] at hb
  unfold NE.val at hb
  obtain ⟨T, hT⟩ : ∃ T, S.tick = T := ⟨_, rfl⟩
  obtain ⟨g0, g1, g2, g3⟩ := tick_g S
  rw [hT] at hb hd g0 g1 g2 g3 hp hl hbad hne ⊢
  have hiT : i ≤ T.g0 := by rw [g0]; exact hi
  have hjT : j < T.g1 := by rw [g1]; exact hj
  have HS := Lib.hid h
  clear hT hoff hops hlv hx h hi hj
  have q2 : (x.ki == 2) = false := by simpa using hk
  go_enter Try.func36, Try.ntmps36
  go_wp2_with fail
  ((with_reducible refine hb.mono ?_))
  rintro e w1 hbe
  obtain ⟨rfl, h1, k1⟩ := hbe.1 hd
  clear hbe hb hk
  have KA : Kept (ownT tag) w (w1.alloc (.cells #[.int .i64 x.op, .int .i64 x.ki, .int .i64 x.ch, .slice la ll lc] 147)) := k1.trans (Kept.of_below (F := ownT tag) (bel_alloc (Below.refl _ w1) _)) (fun _ _ h => h)
  have HA := h1.below (bel_alloc (Below.refl _ w1) (.cells #[.int .i64 x.op, .int .i64 x.ki, .int .i64 x.ch, .slice la ll lc] 147))
  have bbl := (h1.range _ _ (h1.tbb i hiT)).2
  have pal := (h1.range _ _ h1.tpa).2
  have c3 := h1.c (.pages i j hiT hjT)
  have cg := h1.c .g3
  have cb := h1.c (.bad i j hiT hjT)
  have cn := h1.c (.next i j hiT hjT)
  have p1 : (0 : Int) ≤ (p : Int) := by omega
  have p2 : decide (p < T.g2) = true := by simp; omega
  have p3 : ((n1 : Int) == (T.g3 : Int)) = true := by simp; omega
  have p4 : ((n2 : Int) == 64) = true := by simp; omega
  rw [hbad] at cb
  rw [hne] at cn
  have p5 : ((p : Int) != (p : Int)) = false := by simp
  have q1 : (x.ki == 1) = false := by simpa using hk1
  have r1 := row_kept hr1 KA hf1
  have r2 := row_kept hr2 KA hf2
  have HN := Lib.hid (And.intro hn1 hn2)
  have HL := Lib.hid (And.intro hl hl2)
  have HP := Lib.hid (And.intro hp hne)
  have HI := Lib.hid (And.intro hiT hjT)
  have HA' := Lib.hid HA
  have KA' := Lib.hid KA
  obtain ⟨W2, hW2⟩ : ∃ W2, W2 = w1.alloc (.cells #[.int .i64 x.op, .int .i64 x.ki, .int .i64 x.ch, .slice la ll lc] 147) := ⟨_, rfl⟩
  have R1 := Lib.hid r1
  have R2 := Lib.hid r2
  rw [← hW2] at HA' KA' R1 R2
  have z2 : W2.heap.size = w1.heap.size + 1 := by rw [hW2]; simp
  have HSH := Lib.hid h1.shape

  have HWS := Lib.hid k1.size
  clear h1 k1 HA KA hp hne hk1 r1 r2 hr1 hr2 hn1 hn2 hf1 hf2 hbad hl hl2 hiT hjT g0 g1 g2 g3 hd
  go_wp2_with fail
  rw [← hW2]
  clear hW2 bbl pal c3 cg cb cn p1 p2 p3 p4 p5 q1 q2
  have hbw : Below W2.heap.size W2 (W2.alloc (.cells #[.slice a1 n1 c1, .slice a2 n2 c2] 57)) := bel_alloc (Below.refl _ W2) _
  have hcat := concat_two (w1.heap.size + 1) a1 n1 c1 ds a2 n2 c2 os (W2.alloc (.cells #[.slice a1 n1 c1, .slice a2 n2 c2] 57)) (by rw [← z2]; simp) (by rw [← z2, World.cell?_alloc_new]; rfl) (by rw [← z2, World.cell?_alloc_new]; rfl)
    (row_keep R1.out hbw (Nat.le_refl _)) HN.out.1 (row_keep R2.out hbw (Nat.le_refl _)) HN.out.2 (by have := HL.out.1; have := HSH.out.b3; omega) (by have := HL.out.2; omega) (by have := HL.out.2; omega)
  have HBW := Lib.hid hbw
  clear hbw
  ((with_reducible refine hcat.mono ?_))
  intro e w3 h3
  obtain ⟨rb, rc, rfl, hr3, _, ho3, hb3⟩ := retOwn_len h3
  have hlen : (ds ++ os).length = T.g3 + 64 := by rw [List.length_append, R1.out.1, R2.out.1]; have := HL.out.1; have := HL.out.2; omega
  obtain ⟨g, rfl, hg0, hg1, hc1, hc2, _⟩ := own_block ho3 (by omega)
  rw [hlen] at hr3 hc1 ⊢
  have hB2 := HBW.out.trans (hb3.mono HBW.out.size)
  have hgn : w.heap.size ≤ g := by have := HWS.out; have := HBW.out.size; omega
  have H3 := (HA'.out.below hB2).withRow (g := g) (by have := HS.out.base; omega) hg1 (HS.out.noTag hgn)
  have K3 : Kept (ownT tag) w w3 := KA'.out.trans (Kept.of_below (F := ownT tag) hB2) (fun _ _ h => h)
  have G3 : Grew tag (withRow tag g) w := withRow_grew hgn (HS.out.noTag hgn)
  have hput := put_any H3 i j p HI.out.1 HI.out.2 HP.out.2 HP.out.1 g 0 rc (ds ++ os) (by unfold withRow; rw [if_pos rfl]) hr3 ⟨hc1, hc2⟩
  have HK3 := Lib.hid K3
  have HG3 := Lib.hid G3
  clear h3 hr3 ho3 hb3 hlen hg0 hg1 hc1 hc2 hB2 H3 K3 G3 hcat z2
  go_wp2_with fail
  ((with_reducible refine hput.mono ?_))
  rintro e w4 ⟨rfl, h4, k4⟩
  have R4 := Lib.hid (And.intro h4 k4)
  clear h4 k4 hput
  go_wp2
  go_ret
  exact ⟨rfl, withRow tag g, R4.out.1, HG3.out, HK3.out.trans R4.out.2 (fun y hy ho => (HG3.out.down y ho).elim id (fun q => by omega))⟩

end

end Go.Proofs.Ytbfmpcomjmcfjaa
