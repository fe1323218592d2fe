/- NandKeeps: the array and the reference side by side; Boot. -/
import Derived.Test.YtbfmpcomjmcfjaaQCalm
namespace Go.Proofs.Ytbfmpcomjmcfjaa
open Go.RowKit Go.Deep
section
variable {B : Nat} {tag : Nat → Option Tag} {L : NL} {S : NS} {w : World} {k : Nat}
theorem NA.aside {F : Nat → Prop} {w' : World} (h : NA B tag L S w) (hk : Kept F w w') (hd : ∀ k, ownT tag k → ¬ F k) : NA B tag L S w' :=
  h.keep hk.size fun k t ht => hk.block k (h.range k t ht).2 (hd k (own_tag ht))
set_option maxHeartbeats 400000 in
theorem boot_any (h : NA B tag L S w) :
    Calls Try.prog 34 #[.pointer (some ⟨L.pa, 0, none⟩)] w fun e w' => e = .returned (.tuple #[]) ∧ NA B tag L (S.setOff false) w' ∧ Kept (ownT tag) w w' := by
  have c4 := h.c .off
  have f4 := h.f .off
  have HK := Lib.hid (h.setOff false)
  have HT := Lib.hid (kept_set h.tpa (.bool false) : Kept (ownT tag) w (w.setCell ⟨L.pa, 7, none⟩ (.bool false)))
  clear h
  go_enter Try.func34, Try.ntmps34
  go_wp2
  go_end0
  exact ⟨rfl, HK.out, HT.out⟩
end
/-- The array, the reference and the page that is kept. -/
structure JS (w0 : World) (k ci cj : Nat) (bs : List Nat) (sd : Nat → Option Obj) (B : Nat) (tag : Nat → Option Tag) (L : NL) (S : NS) (B2 : Nat) (tag2 : Nat → Option QT) (L2 : QL) (S2 : NS) (w : World) : Prop where
  na : NA B tag L S w
  qa : QA B2 tag2 L2 S2 w
  ev : L2.ev = .slice none 0 0
  dis : ∀ x, ownT tag x → ¬ ownQ tag2 x
  ki : KI k S
  kq : KI k S2
  pg : S.page ci cj 0 = some bs
  dd : S.dead ci = false
  b1 : w0.heap.size ≤ B
  b2 : w0.heap.size ≤ B2
  bel : Below w0.heap.size w0 w
  side : ∀ x o, sd x = some o → w.heap[x]? = some o ∧ ¬ ownT tag x ∧ ¬ ownQ tag2 x
/-- .. at their places. -/
def J (w0 : World) (pa pq k ci cj : Nat) (bs : List Nat) (sd : Nat → Option Obj) (w : World) : Prop :=
  ∃ B tag L S B2 tag2 L2 S2, L.pa = pa ∧ L2.pa = pq ∧ JS w0 k ci cj bs sd B tag L S B2 tag2 L2 S2 w
section
variable {w0 : World} {k m ci cj : Nat} {bs : List Nat} {sd : Nat → Option Obj} {B : Nat} {tag : Nat → Option Tag} {L : NL} {S : NS} {B2 : Nat} {tag2 : Nat → Option QT} {L2 : QL} {S2 : NS} {w w' : World}
theorem JS.mono (h : JS w0 k ci cj bs sd B tag L S B2 tag2 L2 S2 w) (hm : k ≤ m) : JS w0 m ci cj bs sd B tag L S B2 tag2 L2 S2 w :=
  ⟨h.na, h.qa, h.ev, h.dis, h.ki.mono hm, h.kq.mono hm, h.pg, h.dd, h.b1, h.b2, h.bel, h.side⟩
theorem JS.lt (h : JS w0 k ci cj bs sd B tag L S B2 tag2 L2 S2 w) {x : Nat} {o : Obj} (hx : sd x = some o) : x < w.heap.size := by
  have := (h.side x o hx).1
  rcases Nat.lt_or_ge x w.heap.size with q | q
  · exact q
  · rw [Array.getElem?_eq_none q] at this; cases this
theorem JS.below (h : JS w0 k ci cj bs sd B tag L S B2 tag2 L2 S2 w) (hb : Below w.heap.size w w') : JS w0 k ci cj bs sd B tag L S B2 tag2 L2 S2 w' :=
  ⟨h.na.below hb, h.qa.below hb, h.ev, h.dis, h.ki, h.kq, h.pg, h.dd, h.b1, h.b2, h.bel.trans (hb.mono h.bel.size), fun x o hx => ⟨(hb.block x (h.lt hx)).trans (h.side x o hx).1, (h.side x o hx).2⟩⟩
theorem JS.arr (h : JS w0 k ci cj bs sd B tag L S B2 tag2 L2 S2 w) {c d : Int} (hc : CRet B tag L S w m c d w') (hm : k ≤ m) (hne : ¬ ((ci : Int) = c ∧ (cj : Int) = d)) : ∃ tag' S', JS w0 m ci cj bs sd B tag' L S' B2 tag2 L2 S2 w' ∧ Grew tag tag' w ∧ Kept (ownT tag) w w' := by
  obtain ⟨tag', S', h1, hg, hk, hi, ha⟩ := hc
  refine ⟨tag', S', ⟨h1, h.qa.aside hk (fun x o t => h.dis x t o), h.ev, fun x t o => ?_, hi, h.kq.mono hm, by rw [ha.page ci cj 0 hne]; exact h.pg, by rw [ha.dead]; exact h.dd, h.b1, h.b2, h.na.behind hk h.bel h.b1, fun x o hx => ?_⟩, hg, hk⟩
  rcases hg.down x t with q | q
  · exact h.dis x q o
  · exact o (h.qa.noTag q)
  · obtain ⟨s1, s2, s3⟩ := h.side x o hx
    exact ⟨(hk.block x (h.lt hx) s2).trans s1, fun t => (hg.down x t).elim s2 (fun q => by have := h.lt hx; omega), s3⟩
theorem JS.ref (h : JS w0 k ci cj bs sd B tag L S B2 tag2 L2 S2 w) (hc : CQ B2 tag2 L2 w m w') (hm : k ≤ m) : ∃ tag2' L2' S2', L2'.pa = L2.pa ∧ JS w0 m ci cj bs sd B tag L S B2 tag2' L2' S2' w' ∧ (∀ x, ownQ tag2' x → ownQ tag2 x ∨ w.heap.size ≤ x) ∧ Kept (ownQ tag2) w w' := by
  obtain ⟨tag2', L2', S2', e1, e2, h1, hg, hk, hi⟩ := hc
  refine ⟨tag2', L2', S2', e1, ⟨h.na.aside hk (fun x o t => h.dis x o t), h1, e2, fun x t o => ?_, h.ki.mono hm, hi, h.pg, h.dd, h.b1, h.b2, h.qa.behind hk h.bel h.b2, fun x o hx => ?_⟩, hg, hk⟩
  rcases hg x o with q | q
  · exact h.dis x t q
  · exact h.na.notOwn q t
  · obtain ⟨s1, s2, s3⟩ := h.side x o hx
    exact ⟨(hk.block x (h.lt hx) s3).trans s1, s2, fun t => (hg x t).elim s3 (fun q => by have := h.lt hx; omega)⟩
end
theorem J.below {w0 w w' : World} {pa pq k ci cj : Nat} {bs : List Nat} {sd : Nat → Option Obj} (h : J w0 pa pq k ci cj bs sd w) (hb : Below w.heap.size w w') : J w0 pa pq k ci cj bs sd w' := by
  obtain ⟨_, _, _, _, _, _, _, _, e1, e2, h1⟩ := h
  exact ⟨_, _, _, _, _, _, _, _, e1, e2, h1.below hb⟩
theorem J.mono {w0 w : World} {pa pq k m ci cj : Nat} {bs : List Nat} {sd : Nat → Option Obj} (h : J w0 pa pq k ci cj bs sd w) (hm : k ≤ m) : J w0 pa pq m ci cj bs sd w := by
  obtain ⟨_, _, _, _, _, _, _, _, e1, e2, h1⟩ := h
  exact ⟨_, _, _, _, _, _, _, _, e1, e2, h1.mono hm⟩
def sideWith (sd : Nat → Option Obj) (b : Nat) (o : Obj) (x : Nat) : Option Obj := if x = b then some o else sd x
/-- A new block stands beside. -/
theorem J.alloc {w0 w : World} {pa pq k ci cj : Nat} {bs : List Nat} {sd : Nat → Option Obj} (h : J w0 pa pq k ci cj bs sd w) (o : Obj) : J w0 pa pq k ci cj bs (sideWith sd w.heap.size o) (w.alloc o) := by
  obtain ⟨_, _, _, _, _, _, _, _, e1, e2, h1⟩ := h
  have h2 := h1.below (bel_alloc (Below.refl _ w) o)
  refine ⟨_, _, _, _, _, _, _, _, e1, e2, h2.na, h2.qa, h2.ev, h2.dis, h2.ki, h2.kq, h2.pg, h2.dd, h2.b1, h2.b2, h2.bel, fun x o' hx => ?_⟩
  unfold sideWith at hx
  by_cases e : x = w.heap.size
  · rw [if_pos e] at hx; cases hx
    subst e
    exact ⟨heap_alloc_new w _, h1.na.notOwn (Nat.le_refl _), h1.qa.notOwn (Nat.le_refl _)⟩
  · rw [if_neg e] at hx
    exact h2.side x o' hx
theorem J.at {w0 w : World} {pa pq k ci cj : Nat} {bs : List Nat} {sd : Nat → Option Obj} (h : J w0 pa pq k ci cj bs sd w) {x : Nat} {o : Obj} (hx : sd x = some o) : w.heap[x]? = some o ∧ x < w.heap.size := by
  obtain ⟨_, _, _, _, _, _, _, _, e1, e2, h1⟩ := h
  exact ⟨(h1.side x o hx).1, h1.lt hx⟩
/-- The calls, as they stand to both. -/
theorem J.erase {w0 w : World} {pa pq k ci cj : Nat} {bs : List Nat} {sd : Nat → Option Obj} (h : J w0 pa pq k ci cj bs sd w) (hk : k ≤ 1000) (c d : Int) (hne : ¬ ((ci : Int) = c ∧ (cj : Int) = d)) :
    Calls Try.prog 37 #[.pointer (some ⟨pa, 0, none⟩), .int .i64 c, .int .i64 d] w fun e w' => (∃ n : Int, e = .returned (.int .i64 n)) ∧ J w0 pa pq (k + 2) ci cj bs sd w' := by
  obtain ⟨B, tag, L, S, B2, tag2, L2, S2, rfl, rfl, h1⟩ := h
  refine (cerase h1.na h1.ki hk c d).mono ?_
  rintro e w' ⟨n, rfl, hc⟩
  obtain ⟨tag', S', h2, _⟩ := h1.arr hc (by omega) hne
  exact ⟨⟨n, rfl⟩, _, _, _, _, _, _, _, _, rfl, rfl, h2⟩
theorem J.qerase {w0 w : World} {pa pq k ci cj : Nat} {bs : List Nat} {sd : Nat → Option Obj} (h : J w0 pa pq k ci cj bs sd w) (hk : k ≤ 1000) (c d : Int) :
    Calls Try.prog 79 #[.pointer (some ⟨pq, 0, none⟩), .int .i64 c, .int .i64 d] w fun e w' => (∃ n : Int, e = .returned (.int .i64 n)) ∧ J w0 pa pq (k + 2) ci cj bs sd w' := by
  obtain ⟨B, tag, L, S, B2, tag2, L2, S2, rfl, rfl, h1⟩ := h
  refine (cqerase h1.qa h1.ev h1.kq hk c d).mono ?_
  rintro e w' ⟨n, rfl, hc⟩
  obtain ⟨tag', L', S', e1, h2, _⟩ := h1.ref hc (by omega)
  exact ⟨⟨n, rfl⟩, _, _, _, _, _, _, _, _, rfl, e1, h2⟩
/-- .. with two rows beside them, which aren't the reference's. -/
def JR (w0 : World) (pa pq k ci cj : Nat) (bs : List Nat) (sd : Nat → Option Obj) (a1 : Option Addr) (n1 : Nat) (b1 : List Nat) (a2 : Option Addr) (n2 : Nat) (b2 : List Nat) (w : World) : Prop :=
  ∃ B tag L S B2 tag2 L2 S2, L.pa = pa ∧ L2.pa = pq ∧ JS w0 k ci cj bs sd B tag L S B2 tag2 L2 S2 w ∧ Row w a1 n1 b1 ∧ Row w a2 n2 b2 ∧ (∀ x, a1 = some x → ¬ ownQ tag2 x.block) ∧ (∀ x, a2 = some x → ¬ ownQ tag2 x.block)
theorem J.read {w0 w : World} {pa pq k ci cj : Nat} {bs : List Nat} {sd : Nat → Option Obj} (h : J w0 pa pq k ci cj bs sd w) (hk : k ≤ 1000) (c d p : Int) (hne : ¬ ((ci : Int) = c ∧ (cj : Int) = d)) :
    Calls Try.prog 33 #[.pointer (some ⟨pa, 0, none⟩), .int .i64 c, .int .i64 d, .int .i64 p] w fun e w' => ∃ a1 n1 c1 b1 a2 n2 c2 b2, ∃ n : Int, e = .returned (.tuple #[.slice a1 n1 c1, .slice a2 n2 c2, .int .i64 n]) ∧ n1 ≤ 1024 ∧ n2 ≤ 1024 ∧ JR w0 pa pq (k + 1) ci cj bs sd a1 n1 b1 a2 n2 b2 w' := by
  obtain ⟨B, tag, L, S, B2, tag2, L2, S2, rfl, rfl, h1⟩ := h
  refine (cread h1.na h1.ki hk c d p).mono ?_
  rintro e w' ⟨a1, n1, c1, b1, a2, n2, c2, b2, n, rfl, r1, r2, l1, l2, f1, f2, hc⟩
  obtain ⟨tag', S', h2, _⟩ := h1.arr hc (by omega) hne
  exact ⟨a1, n1, c1, b1, a2, n2, c2, b2, n, rfl, l1, l2, _, _, _, _, _, _, _, _, rfl, rfl, h2, r1, r2, fun x hx => h1.qa.notOwn (f1 x hx), fun x hx => h1.qa.notOwn (f2 x hx)⟩
theorem JR.qread {w0 w : World} {pa pq k ci cj : Nat} {bs : List Nat} {sd : Nat → Option Obj} {a1 : Option Addr} {n1 : Nat} {b1 : List Nat} {a2 : Option Addr} {n2 : Nat} {b2 : List Nat} (h : JR w0 pa pq k ci cj bs sd a1 n1 b1 a2 n2 b2 w) (hk : k ≤ 1000) (c d p : Int) :
    Calls Try.prog 76 #[.pointer (some ⟨pq, 0, none⟩), .int .i64 c, .int .i64 d, .int .i64 p] w fun e w' => ∃ a m c3 b3, ∃ n : Int, e = .returned (.tuple #[.slice a m c3, .int .i64 n]) ∧ Row w' a m b3 ∧ m ≤ 2000 ∧ Row w' a1 n1 b1 ∧ Row w' a2 n2 b2 ∧ J w0 pa pq (k + 1) ci cj bs sd w' := by
  obtain ⟨B, tag, L, S, B2, tag2, L2, S2, rfl, rfl, h1, r1, r2, f1, f2⟩ := h
  refine (cqread h1.qa h1.ev h1.kq hk c d p).mono ?_
  rintro e w' ⟨a, m, c3, b3, n, rfl, hr, hm, hc⟩
  obtain ⟨tag', L', S', e1, h2, _, hkk⟩ := h1.ref hc (by omega)
  exact ⟨a, m, c3, b3, n, rfl, hr, hm, row_kept r1 hkk f1, row_kept r2 hkk f2, _, _, _, _, _, _, _, _, rfl, e1, h2⟩
end Go.Proofs.Ytbfmpcomjmcfjaa
