/- The reference's chips in memory: what they hold, where it stands, what a store leaves of it. -/
import Derived.Test.YtbfmpcomjmcfjaaNRead0
namespace Go.Proofs.Ytbfmpcomjmcfjaa
open Go.RowKit Go.Deep

inductive QT where
  | arr | chips | gone | row
  | blocks (i : Nat)
  | pages (i j : Nat)
def QT.hard : QT → Prop
  | .row => False
  | _ => True
/-- Where it stands. -/
structure QL where
  pa : Nat
  lb : Nat
  gb : Nat
  lcap : Nat
  gcap : Nat
  bb : Nat → Nat
  bcap : Nat → Nat
  pb : Nat → Nat → Nat
  ev : Value
inductive QW (L : QL) (S : NS) : Nat → Nat → Value → Prop where
  | g0 : QW L S L.pa 0 (.int .i64 (S.g0 : Int))
  | g1 : QW L S L.pa 1 (.int .i64 (S.g1 : Int))
  | g2 : QW L S L.pa 2 (.int .i64 (S.g2 : Int))
  | g3 : QW L S L.pa 3 (.int .i64 (S.g3 : Int))
  | chips : QW L S L.pa 4 (.slice (some ⟨L.lb, 0, none⟩) (S.g0 + 1) L.lcap)
  | gone : QW L S L.pa 5 (.slice (some ⟨L.gb, 0, none⟩) (S.g0 + 1) L.gcap)
  | ev : QW L S L.pa 6 L.ev
  | ops : QW L S L.pa 7 (.int .i64 (S.ops : Int))
  | off : QW L S L.pa 8 (.bool S.off)
  | row (i : Nat) (h : i ≤ S.g0) : QW L S L.lb i (.slice (some ⟨L.bb i, 0, none⟩) S.g1 (L.bcap i))
  | dead (i : Nat) (h : i ≤ S.g0) : QW L S L.gb i (.bool (S.dead i))
  | pages (i j : Nat) (h : i ≤ S.g0) (k : j < S.g1) : QW L S (L.bb i) (j * 4) (.slice (some ⟨L.pb i j, 0, none⟩) S.g2 S.g2)
  | next (i j : Nat) (h : i ≤ S.g0) (k : j < S.g1) : QW L S (L.bb i) (j * 4 + 1) (.int .i64 (S.next i j : Int))
  | er (i j : Nat) (h : i ≤ S.g0) (k : j < S.g1) : QW L S (L.bb i) (j * 4 + 2) (.int .i64 (S.er i j : Int))
  | bad (i j : Nat) (h : i ≤ S.g0) (k : j < S.g1) : QW L S (L.bb i) (j * 4 + 3) (.bool (S.bad i j))
def QPage (tag : Nat → Option QT) (w : World) (n b p : Nat) : Option (List Nat) → Prop
  | none => w.cell? ⟨b, p, none⟩ = some (.slice none 0 0)
  | some bs => ∃ g off cap, w.cell? ⟨b, p, none⟩ = some (.slice (some ⟨g, off, none⟩) n cap) ∧ tag g = some .row ∧ Row w (some ⟨g, off, none⟩) n bs ∧ n ≤ cap ∧ cap ≤ maxLen
structure QA (B : Nat) (tag : Nat → Option QT) (L : QL) (S : NS) (w : World) : Prop where
  range : ∀ k t, tag k = some t → B ≤ k ∧ k < w.heap.size
  tpa : tag L.pa = some .arr
  tlb : tag L.lb = some .chips
  tgb : tag L.gb = some .gone
  tbb : ∀ i, i ≤ S.g0 → tag (L.bb i) = some (.blocks i)
  tpb : ∀ i j, i ≤ S.g0 → j < S.g1 → tag (L.pb i j) = some (.pages i j)
  shape : Shape S
  nxt : ∀ i j, S.next i j ≤ S.g2
  caps : S.g0 + 1 ≤ L.lcap ∧ L.lcap ≤ maxLen ∧ S.g0 + 1 ≤ L.gcap ∧ L.gcap ≤ maxLen ∧ ∀ i, S.g1 ≤ L.bcap i ∧ L.bcap i ≤ maxLen
  want : ∀ b o v, QW L S b o v → w.cell? ⟨b, o, none⟩ = some v
  free : ∀ k t o, tag k = some t → t.hard → w.frozen? ⟨k, o, none⟩ = false
  rows : ∀ i j p, i ≤ S.g0 → j < S.g1 → p < S.g2 → QPage tag w (S.g3 + 64) (L.pb i j) p (S.page i j p)
section
variable {B : Nat} {tag : Nat → Option QT} {L : QL} {S : NS} {w : World}
theorem QA.tagAt (h : QA B tag L S w) {b o : Nat} {v : Value} (k : QW L S b o v) : ∃ t, tag b = some t ∧ t.hard := by
  cases k with
  | row i hi => exact ⟨_, h.tlb, trivial⟩
  | dead i hi => exact ⟨_, h.tgb, trivial⟩
  | bad i j hi hj => exact ⟨_, h.tbb i hi, trivial⟩
  | next i j hi hj => exact ⟨_, h.tbb i hi, trivial⟩
  | er i j hi hj => exact ⟨_, h.tbb i hi, trivial⟩
  | pages i j hi hj => exact ⟨_, h.tbb i hi, trivial⟩
  | _ => exact ⟨_, h.tpa, trivial⟩
theorem QA.c (h : QA B tag L S w) {b o : Nat} {v : Value} (k : QW L S b o v) : w.cell? ⟨b, o, none⟩ = some v := h.want b o v k
theorem QA.f (h : QA B tag L S w) {b o : Nat} {v : Value} (k : QW L S b o v) : w.frozen? ⟨b, o, none⟩ = false := by
  obtain ⟨t, ht, hh⟩ := h.tagAt k
  exact h.free b t o ht hh
theorem QA.lt (h : QA B tag L S w) {b o : Nat} {v : Value} (k : QW L S b o v) : b < w.heap.size := by
  obtain ⟨t, ht, _⟩ := h.tagAt k
  exact (h.range b t ht).2
def ownQ (tag : Nat → Option QT) (k : Nat) : Prop := tag k ≠ none
theorem ownQ_tag {b : Nat} {t : QT} (h : tag b = some t) : ownQ tag b := by unfold ownQ; rw [h]; simp
theorem QA.base (h : QA B tag L S w) : B ≤ w.heap.size := by have := h.range _ _ h.tpa; omega
theorem QA.noTag (h : QA B tag L S w) {g : Nat} (hg : w.heap.size ≤ g) : tag g = none := by
  cases ht : tag g with
  | none => rfl
  | some t => have := (h.range g t ht).2; omega
theorem QA.notOwn (h : QA B tag L S w) {k : Nat} (hk : w.heap.size ≤ k) : ¬ ownQ tag k := fun o => o (h.noTag hk)
theorem QA.behind {b : Nat} {w0 w2 : World} (h : QA B tag L S w) (k : Kept (ownQ tag) w w2) (hb : Below b w0 w) (hB : b ≤ B) : Below b w0 w2 :=
  hb.trans (k.toBelow (Nat.le_trans hB h.base) fun x hx => by
    unfold ownQ at hx
    cases ht : tag x with
    | none => exact absurd ht hx
    | some t => exact Nat.le_trans hB (h.range x t ht).1)
theorem keptQ_set {b o : Nat} {t : QT} (hb : tag b = some t) (v : Value) : Kept (ownQ tag) w (w.setCell ⟨b, o, none⟩ v) :=
  (Kept.refl _ w).set _ v (.inl (ownQ_tag hb))
/-- The blocks are as they were. -/
theorem QA.keep {w' : World} (h : QA B tag L S w) (hs : w.heap.size ≤ w'.heap.size) (he : ∀ k t, tag k = some t → w'.heap[k]? = w.heap[k]?) : QA B tag L S w' := by
  have hc : ∀ k t o, tag k = some t → w'.cell? ⟨k, o, none⟩ = w.cell? ⟨k, o, none⟩ := fun k t o ht => World.cell?_of_block (w := w) (he k t ht)
  have hf : ∀ k t o, tag k = some t → w'.frozen? ⟨k, o, none⟩ = w.frozen? ⟨k, o, none⟩ := fun k t o ht => World.frozen?_of_block (w := w) (he k t ht)
  refine ⟨fun k t ht => ⟨(h.range k t ht).1, Nat.lt_of_lt_of_le (h.range k t ht).2 hs⟩, h.tpa, h.tlb, h.tgb, h.tbb, h.tpb, h.shape, h.nxt, h.caps, fun b o v hw => ?_, fun k t o ht hh => by rw [hf k t o ht]; exact h.free k t o ht hh, fun i j p hi hj hp => ?_⟩
  · obtain ⟨t, ht, _⟩ := h.tagAt hw
    rw [hc b t o ht]; exact h.want b o v hw
  · have := h.rows i j p hi hj hp
    cases hpg : S.page i j p with
    | none => rw [hpg] at this; show w'.cell? _ = _; rw [hc _ _ _ (h.tpb i j hi hj)]; exact this
    | some bs =>
      rw [hpg] at this
      obtain ⟨g, off, cap, h1, h2, h3, h4⟩ := this
      exact ⟨g, off, cap, by rw [hc _ _ _ (h.tpb i j hi hj)]; exact h1, h2, row_same h3 (fun _ x hx => by cases hx; exact he _ _ h2), h4⟩
theorem QA.below {w' : World} (h : QA B tag L S w) (hb : Below w.heap.size w w') : QA B tag L S w' :=
  h.keep hb.size fun k t ht => hb.block k (h.range k t ht).2
/-- What isn't written by others' calls. -/
theorem QA.aside {F : Nat → Prop} {w' : World} (h : QA B tag L S w) (hk : Kept F w w') (hd : ∀ k, ownQ tag k → ¬ F k) : QA B tag L S w' :=
  h.keep hk.size fun k t ht => hk.block k (h.range k t ht).2 (hd k (ownQ_tag ht))
/-- One cell is written. -/
theorem QA.set {L' : QL} {S' : NS} (h : QA B tag L S w) (b0 o0 : Nat) (v0 : Value) (hl : L'.pa = L.pa ∧ L'.lb = L.lb ∧ L'.gb = L.gb ∧ L'.lcap = L.lcap ∧ L'.gcap = L.gcap ∧ L'.bb = L.bb ∧ L'.bcap = L.bcap) (hpb : ∀ i j, i ≤ S.g0 → j < S.g1 → tag (L'.pb i j) = some (.pages i j))
    (hg : S'.g0 = S.g0 ∧ S'.g1 = S.g1 ∧ S'.g2 = S.g2 ∧ S'.g3 = S.g3) (hn : ∀ i j, S'.next i j ≤ S'.g2) (hin : ∃ u, w.cell? ⟨b0, o0, none⟩ = some u)
    (hw : ∀ b o v, QW L' S' b o v → (b = b0 ∧ o = o0 ∧ v = v0) ∨ (QW L S b o v ∧ ¬ (b = b0 ∧ o = o0)))
    (hp : ∀ i j p, i ≤ S.g0 → j < S.g1 → p < S.g2 → QPage tag (w.setCell ⟨b0, o0, none⟩ v0) (S.g3 + 64) (L'.pb i j) p (S'.page i j p)) :
    QA B tag L' S' (w.setCell ⟨b0, o0, none⟩ v0) := by
  obtain ⟨e0, e1, e2, e3⟩ := hg
  obtain ⟨l0, l1, l2, l3, l4, l5, l6⟩ := hl
  have hsz : (w.setCell ⟨b0, o0, none⟩ v0).heap.size = w.heap.size := by simp
  refine ⟨fun k t ht => by rw [hsz]; exact h.range k t ht, by rw [l0]; exact h.tpa, by rw [l1]; exact h.tlb, by rw [l2]; exact h.tgb, fun i hi => by rw [l5]; exact h.tbb i (by omega), fun i j hi hj => hpb i j (by omega) (by omega), ⟨by rw [e0]; exact h.shape.a0, by rw [e0]; exact h.shape.b0, by rw [e1]; exact h.shape.a1, by rw [e1]; exact h.shape.b1, by rw [e2]; exact h.shape.a2, by rw [e2]; exact h.shape.b2, by rw [e3]; exact h.shape.a3, by rw [e3]; exact h.shape.b3⟩, hn, by rw [e0, e1, l3, l4, l6]; exact h.caps, fun b o v hv => ?_, fun k t o ht hh2 => by rw [World.frozen?_setCell]; exact h.free k t o ht hh2, fun i j p hi hj hpp => by rw [e3]; exact hp i j p (by omega) (by omega) (by omega)⟩
  rcases hw b o v hv with ⟨rfl, rfl, rfl⟩ | ⟨h1, h2⟩
  · obtain ⟨u, hu⟩ := hin
    exact World.cell?_setCell_same w _ _ hu
  · rw [World.cell?_setCell_other w _ _ _ (fun e => h2 (by cases e; exact ⟨rfl, rfl⟩))]
    exact h.want b o v h1
/-- A page behind a store elsewhere. -/
theorem QA.pageOther (h : QA B tag L S w) {b0 o0 : Nat} {v0 : Value} {t0 : QT} (ht0 : tag b0 = some t0) (hh : t0.hard) {i j p : Nat} (hi : i ≤ S.g0) (hj : j < S.g1) (hp : p < S.g2) (hne : ¬ (L.pb i j = b0 ∧ p = o0)) :
    QPage tag (w.setCell ⟨b0, o0, none⟩ v0) (S.g3 + 64) (L.pb i j) p (S.page i j p) := by
  have hrow : ∀ k, tag k = some .row → k ≠ b0 := fun k hk e => by subst e; rw [ht0] at hk; cases hk; exact hh
  have := h.rows i j p hi hj hp
  cases hpg : S.page i j p with
  | none =>
    rw [hpg] at this
    show World.cell? _ _ = _
    rw [World.cell?_setCell_other w _ _ _ (fun e => hne (by cases e; exact ⟨rfl, rfl⟩))]; exact this
  | some bs =>
    rw [hpg] at this
    obtain ⟨g, off, cap, k1, k2, k3, k4⟩ := this
    refine ⟨g, off, cap, ?_, k2, row_same k3 (fun _ x hx => by cases hx; exact heap_setCell_other w _ g v0 (hrow g k2)), k4⟩
    rw [World.cell?_setCell_other w _ _ _ (fun e => hne (by cases e; exact ⟨rfl, rfl⟩))]; exact k1
/-- More blocks are the chips' own. -/
theorem QA.tags {tag' : Nat → Option QT} (h : QA B tag L S w) (hm : ∀ k t, tag k = some t → tag' k = some t) (hn : ∀ k t, tag' k = some t → tag k = some t ∨ (B ≤ k ∧ k < w.heap.size ∧ (t.hard → ∀ o, w.frozen? ⟨k, o, none⟩ = false))) : QA B tag' L S w := by
  refine ⟨fun k t ht => ?_, hm _ _ h.tpa, hm _ _ h.tlb, hm _ _ h.tgb, fun i hi => hm _ _ (h.tbb i hi), fun i j hi hj => hm _ _ (h.tpb i j hi hj), h.shape, h.nxt, h.caps, h.want, fun k t o ht hh => ?_, fun i j p hi hj hp => ?_⟩
  · rcases hn k t ht with h1 | h1
    · exact h.range k t h1
    · exact ⟨h1.1, h1.2.1⟩
  · rcases hn k t ht with h1 | ⟨_, _, hf⟩
    · exact h.free k t o h1 hh
    · exact hf hh o
  · have := h.rows i j p hi hj hp
    cases hpg : S.page i j p with
    | none => rw [hpg] at this; exact this
    | some bs =>
      rw [hpg] at this
      obtain ⟨g, off, cap, k1, k2, k3⟩ := this
      exact ⟨g, off, cap, k1, hm _ _ k2, k3⟩
theorem qtag_ne {b b' : Nat} {t t' : QT} (h : tag b = some t) (h' : tag b' = some t') (hn : t ≠ t') : b ≠ b' := fun e => by
  subst e; rw [h] at h'; cases h'; exact hn rfl
theorem QA.pb_ne (h : QA B tag L S w) {i j : Nat} (hi : i ≤ S.g0) (hj : j < S.g1) {b : Nat} {t : QT} (hb : tag b = some t) (hn : t ≠ .pages i j) : L.pb i j ≠ b := qtag_ne (h.tpb i j hi hj) hb (fun e => hn e.symm)
theorem QA.setOps (h : QA B tag L S w) (n : Nat) : QA B tag L (S.setOps n) (w.setCell ⟨L.pa, 7, none⟩ (.int .i64 (n : Int))) := by
  refine h.set (L' := L) (S' := S.setOps n) L.pa 7 _ ⟨rfl, rfl, rfl, rfl, rfl, rfl, rfl⟩ h.tpb ⟨rfl, rfl, rfl, rfl⟩ h.nxt ⟨_, h.c .ops⟩ (fun b o v hv => ?_) (fun i j p hi hj hp => h.pageOther h.tpa trivial hi hj hp (fun e => h.pb_ne hi hj h.tpa (by simp) e.1))
  cases hv with
  | ops => exact .inl ⟨rfl, rfl, rfl⟩
  | row _ hi => exact .inr ⟨.row _ hi, fun e => qtag_ne h.tlb h.tpa (by simp) e.1⟩
  | dead _ hi => exact .inr ⟨.dead _ hi, fun e => qtag_ne h.tgb h.tpa (by simp) e.1⟩
  | bad i j hi hj => exact .inr ⟨.bad i j hi hj, fun e => qtag_ne (h.tbb i hi) h.tpa (by simp) e.1⟩
  | next i j hi hj => exact .inr ⟨.next i j hi hj, fun e => qtag_ne (h.tbb i hi) h.tpa (by simp) e.1⟩
  | er i j hi hj => exact .inr ⟨.er i j hi hj, fun e => qtag_ne (h.tbb i hi) h.tpa (by simp) e.1⟩
  | pages i j hi hj => exact .inr ⟨.pages i j hi hj, fun e => qtag_ne (h.tbb i hi) h.tpa (by simp) e.1⟩
  | g0 => exact .inr ⟨.g0, fun e => by omega⟩
  | g1 => exact .inr ⟨.g1, fun e => by omega⟩
  | g2 => exact .inr ⟨.g2, fun e => by omega⟩
  | g3 => exact .inr ⟨.g3, fun e => by omega⟩
  | chips => exact .inr ⟨.chips, fun e => by omega⟩
  | gone => exact .inr ⟨.gone, fun e => by omega⟩
  | ev => exact .inr ⟨.ev, fun e => by omega⟩
  | off => exact .inr ⟨.off, fun e => by omega⟩
theorem QA.setOff (h : QA B tag L S w) (x : Bool) : QA B tag L (S.setOff x) (w.setCell ⟨L.pa, 8, none⟩ (.bool x)) := by
  refine h.set (L' := L) (S' := S.setOff x) L.pa 8 _ ⟨rfl, rfl, rfl, rfl, rfl, rfl, rfl⟩ h.tpb ⟨rfl, rfl, rfl, rfl⟩ h.nxt ⟨_, h.c .off⟩ (fun b o v hv => ?_) (fun i j p hi hj hp => h.pageOther h.tpa trivial hi hj hp (fun e => h.pb_ne hi hj h.tpa (by simp) e.1))
  cases hv with
  | off => exact .inl ⟨rfl, rfl, rfl⟩
  | row _ hi => exact .inr ⟨.row _ hi, fun e => qtag_ne h.tlb h.tpa (by simp) e.1⟩
  | dead _ hi => exact .inr ⟨.dead _ hi, fun e => qtag_ne h.tgb h.tpa (by simp) e.1⟩
  | bad i j hi hj => exact .inr ⟨.bad i j hi hj, fun e => qtag_ne (h.tbb i hi) h.tpa (by simp) e.1⟩
  | next i j hi hj => exact .inr ⟨.next i j hi hj, fun e => qtag_ne (h.tbb i hi) h.tpa (by simp) e.1⟩
  | er i j hi hj => exact .inr ⟨.er i j hi hj, fun e => qtag_ne (h.tbb i hi) h.tpa (by simp) e.1⟩
  | pages i j hi hj => exact .inr ⟨.pages i j hi hj, fun e => qtag_ne (h.tbb i hi) h.tpa (by simp) e.1⟩
  | g0 => exact .inr ⟨.g0, fun e => by omega⟩
  | g1 => exact .inr ⟨.g1, fun e => by omega⟩
  | g2 => exact .inr ⟨.g2, fun e => by omega⟩
  | g3 => exact .inr ⟨.g3, fun e => by omega⟩
  | chips => exact .inr ⟨.chips, fun e => by omega⟩
  | gone => exact .inr ⟨.gone, fun e => by omega⟩
  | ev => exact .inr ⟨.ev, fun e => by omega⟩
  | ops => exact .inr ⟨.ops, fun e => by omega⟩
theorem QA.kill (h : QA B tag L S w) (c : Nat) (hc : c ≤ S.g0) : QA B tag L (S.kill c) (w.setCell ⟨L.gb, c, none⟩ (.bool true)) := by
  refine h.set (L' := L) (S' := S.kill c) L.gb c _ ⟨rfl, rfl, rfl, rfl, rfl, rfl, rfl⟩ h.tpb ⟨rfl, rfl, rfl, rfl⟩ h.nxt ⟨_, h.c (.dead c hc)⟩ (fun b o v hv => ?_) (fun i j p hi hj hp => h.pageOther h.tgb trivial hi hj hp (fun e => h.pb_ne hi hj h.tgb (by simp) e.1))
  cases hv with
  | dead _ hi =>
    by_cases e : o = c
    · subst e; exact .inl ⟨rfl, rfl, by simp [NS.kill]⟩
    · refine .inr ⟨?_, fun k => e k.2⟩
      have : (S.kill c).dead o = S.dead o := by simp [NS.kill, e]
      rw [this]; exact .dead o hi
  | row _ hi => exact .inr ⟨.row _ hi, fun e => qtag_ne h.tlb h.tgb (by simp) e.1⟩
  | bad i j hi hj => exact .inr ⟨.bad i j hi hj, fun e => qtag_ne (h.tbb i hi) h.tgb (by simp) e.1⟩
  | next i j hi hj => exact .inr ⟨.next i j hi hj, fun e => qtag_ne (h.tbb i hi) h.tgb (by simp) e.1⟩
  | er i j hi hj => exact .inr ⟨.er i j hi hj, fun e => qtag_ne (h.tbb i hi) h.tgb (by simp) e.1⟩
  | pages i j hi hj => exact .inr ⟨.pages i j hi hj, fun e => qtag_ne (h.tbb i hi) h.tgb (by simp) e.1⟩
  | g0 => exact .inr ⟨.g0, fun e => qtag_ne h.tpa h.tgb (by simp) e.1⟩
  | g1 => exact .inr ⟨.g1, fun e => qtag_ne h.tpa h.tgb (by simp) e.1⟩
  | g2 => exact .inr ⟨.g2, fun e => qtag_ne h.tpa h.tgb (by simp) e.1⟩
  | g3 => exact .inr ⟨.g3, fun e => qtag_ne h.tpa h.tgb (by simp) e.1⟩
  | chips => exact .inr ⟨.chips, fun e => qtag_ne h.tpa h.tgb (by simp) e.1⟩
  | gone => exact .inr ⟨.gone, fun e => qtag_ne h.tpa h.tgb (by simp) e.1⟩
  | ev => exact .inr ⟨.ev, fun e => qtag_ne h.tpa h.tgb (by simp) e.1⟩
  | ops => exact .inr ⟨.ops, fun e => qtag_ne h.tpa h.tgb (by simp) e.1⟩
  | off => exact .inr ⟨.off, fun e => qtag_ne h.tpa h.tgb (by simp) e.1⟩
/-- A cell of a block's record is written: 1 its next page, 2 how often it was erased, 3 whether it is bad. -/
theorem QA.setRec (h : QA B tag L S w) {S' : NS} (i j k : Nat) (hi : i ≤ S.g0) (hj : j < S.g1) (hk : 0 < k ∧ k < 4) (v0 : Value)
    (hg : S'.g0 = S.g0 ∧ S'.g1 = S.g1 ∧ S'.g2 = S.g2 ∧ S'.g3 = S.g3) (hn : ∀ i j, S'.next i j ≤ S'.g2) (hr : S'.dead = S.dead ∧ S'.page = S.page ∧ S'.ops = S.ops ∧ S'.off = S.off)
    (hb : ∀ i' j', i' ≤ S.g0 → j' < S.g1 → (i' = i ∧ j' = j ∧ k = 3 ∧ Value.bool (S'.bad i' j') = v0) ∨ (S'.bad i' j' = S.bad i' j' ∧ ¬ (i' = i ∧ j' = j ∧ k = 3)))
    (hx : ∀ i' j', i' ≤ S.g0 → j' < S.g1 → (i' = i ∧ j' = j ∧ k = 1 ∧ Value.int .i64 (S'.next i' j' : Int) = v0) ∨ (S'.next i' j' = S.next i' j' ∧ ¬ (i' = i ∧ j' = j ∧ k = 1)))
    (hz : ∀ i' j', i' ≤ S.g0 → j' < S.g1 → (i' = i ∧ j' = j ∧ k = 2 ∧ Value.int .i64 (S'.er i' j' : Int) = v0) ∨ (S'.er i' j' = S.er i' j' ∧ ¬ (i' = i ∧ j' = j ∧ k = 2))) :
    QA B tag L S' (w.setCell ⟨L.bb i, j * 4 + k, none⟩ v0) := by
  have tb := h.tbb i hi
  obtain ⟨e0, e1, e2, e3⟩ := hg
  obtain ⟨r0, r1, r2, r3⟩ := hr
  have hin : ∃ u, w.cell? ⟨L.bb i, j * 4 + k, none⟩ = some u := by
    rcases (by omega : k = 1 ∨ k = 2 ∨ k = 3) with rfl | rfl | rfl
    · exact ⟨_, h.c (.next i j hi hj)⟩
    · exact ⟨_, h.c (.er i j hi hj)⟩
    · exact ⟨_, h.c (.bad i j hi hj)⟩
  have hsame : ∀ i', i' ≤ S.g0 → L.bb i' = L.bb i → i' = i := fun i' hi' e => by
    have h1 := h.tbb i' hi'
    rw [e, tb] at h1
    cases h1; rfl
  refine h.set (L' := L) (S' := S') (L.bb i) (j * 4 + k) v0 ⟨rfl, rfl, rfl, rfl, rfl, rfl, rfl⟩ h.tpb ⟨e0, e1, e2, e3⟩ hn hin (fun b o v hv => ?_) (fun i j p hi hj hp => by rw [r1]; exact h.pageOther tb trivial hi hj hp (fun e => h.pb_ne hi hj tb (by simp) e.1))
  cases hv with
  | bad i' j' hi' hj' =>
    rcases hb i' j' (by omega) (by omega) with ⟨rfl, rfl, rfl, e⟩ | ⟨e, hne⟩
    · exact .inl ⟨rfl, rfl, e⟩
    · refine .inr ⟨by rw [e]; exact .bad i' j' (by omega) (by omega), fun q => ?_⟩
      have := hsame i' (by omega) q.1
      exact hne ⟨this, by omega, by omega⟩
  | next i' j' hi' hj' =>
    rcases hx i' j' (by omega) (by omega) with ⟨rfl, rfl, rfl, e⟩ | ⟨e, hne⟩
    · exact .inl ⟨rfl, rfl, e⟩
    · refine .inr ⟨by rw [e]; exact .next i' j' (by omega) (by omega), fun q => ?_⟩
      have := hsame i' (by omega) q.1
      exact hne ⟨this, by omega, by omega⟩
  | er i' j' hi' hj' =>
    rcases hz i' j' (by omega) (by omega) with ⟨rfl, rfl, rfl, e⟩ | ⟨e, hne⟩
    · exact .inl ⟨rfl, rfl, e⟩
    · refine .inr ⟨by rw [e]; exact .er i' j' (by omega) (by omega), fun q => ?_⟩
      have := hsame i' (by omega) q.1
      exact hne ⟨this, by omega, by omega⟩
  | pages i' j' hi' hj' => exact .inr ⟨by rw [e2]; exact .pages i' j' (by omega) (by omega), fun q => by omega⟩
  | row _ hi' => exact .inr ⟨by rw [e1]; exact .row _ (by omega), fun q => qtag_ne h.tlb tb (by simp) q.1⟩
  | dead _ hi' => exact .inr ⟨by rw [r0]; exact .dead _ (by omega), fun q => qtag_ne h.tgb tb (by simp) q.1⟩
  | g0 => exact .inr ⟨by rw [e0]; exact .g0, fun q => qtag_ne h.tpa tb (by simp) q.1⟩
  | g1 => exact .inr ⟨by rw [e1]; exact .g1, fun q => qtag_ne h.tpa tb (by simp) q.1⟩
  | g2 => exact .inr ⟨by rw [e2]; exact .g2, fun q => qtag_ne h.tpa tb (by simp) q.1⟩
  | g3 => exact .inr ⟨by rw [e3]; exact .g3, fun q => qtag_ne h.tpa tb (by simp) q.1⟩
  | chips => exact .inr ⟨by rw [e0]; exact .chips, fun q => qtag_ne h.tpa tb (by simp) q.1⟩
  | gone => exact .inr ⟨by rw [e0]; exact .gone, fun q => qtag_ne h.tpa tb (by simp) q.1⟩
  | ev => exact .inr ⟨.ev, fun q => qtag_ne h.tpa tb (by simp) q.1⟩
  | ops => exact .inr ⟨by rw [r2]; exact .ops, fun q => qtag_ne h.tpa tb (by simp) q.1⟩
  | off => exact .inr ⟨by rw [r3]; exact .off, fun q => qtag_ne h.tpa tb (by simp) q.1⟩
theorem QA.setBad (h : QA B tag L S w) (i j : Nat) (hi : i ≤ S.g0) (hj : j < S.g1) (x : Bool) : QA B tag L (S.setBad i j x) (w.setCell ⟨L.bb i, j * 4 + 3, none⟩ (.bool x)) := by
  refine h.setRec (S' := S.setBad i j x) i j 3 hi hj (by omega) _ ⟨rfl, rfl, rfl, rfl⟩ h.nxt ⟨rfl, rfl, rfl, rfl⟩ (fun i' j' _ _ => ?_) (fun i' j' _ _ => .inr ⟨rfl, by omega⟩) (fun i' j' _ _ => .inr ⟨rfl, by omega⟩)
  by_cases e : i' = i ∧ j' = j
  · exact .inl ⟨e.1, e.2, rfl, by simp [NS.setBad, e]⟩
  · exact .inr ⟨by simp only [NS.setBad]; rw [if_neg e], fun q => e ⟨q.1, q.2.1⟩⟩
theorem QA.setNext (h : QA B tag L S w) (i j : Nat) (hi : i ≤ S.g0) (hj : j < S.g1) (n : Nat) (hn : n ≤ S.g2) : QA B tag L (S.setNext i j n) (w.setCell ⟨L.bb i, j * 4 + 1, none⟩ (.int .i64 (n : Int))) := by
  refine h.setRec (S' := S.setNext i j n) i j 1 hi hj (by omega) _ ⟨rfl, rfl, rfl, rfl⟩ (fun i' j' => ?_) ⟨rfl, rfl, rfl, rfl⟩ (fun i' j' _ _ => .inr ⟨rfl, by omega⟩) (fun i' j' _ _ => ?_) (fun i' j' _ _ => .inr ⟨rfl, by omega⟩)
  · by_cases e : i' = i ∧ j' = j
    · simp only [NS.setNext]; rw [if_pos e]; exact hn
    · simp only [NS.setNext]; rw [if_neg e]; exact h.nxt i' j'
  by_cases e : i' = i ∧ j' = j
  · exact .inl ⟨e.1, e.2, rfl, by simp [NS.setNext, e]⟩
  · exact .inr ⟨by simp only [NS.setNext]; rw [if_neg e], fun q => e ⟨q.1, q.2.1⟩⟩
theorem QA.setEr (h : QA B tag L S w) (i j : Nat) (hi : i ≤ S.g0) (hj : j < S.g1) (n : Nat) : QA B tag L (S.setEr i j n) (w.setCell ⟨L.bb i, j * 4 + 2, none⟩ (.int .i64 (n : Int))) := by
  refine h.setRec (S' := S.setEr i j n) i j 2 hi hj (by omega) _ ⟨rfl, rfl, rfl, rfl⟩ h.nxt ⟨rfl, rfl, rfl, rfl⟩ (fun i' j' _ _ => .inr ⟨rfl, by omega⟩) (fun i' j' _ _ => .inr ⟨rfl, by omega⟩) (fun i' j' _ _ => ?_)
  by_cases e : i' = i ∧ j' = j
  · exact .inl ⟨e.1, e.2, rfl, by simp [NS.setEr, e]⟩
  · exact .inr ⟨by simp only [NS.setEr]; rw [if_neg e], fun q => e ⟨q.1, q.2.1⟩⟩
end

end Go.Proofs.Ytbfmpcomjmcfjaa
