/- Chips in memory: what they hold, where it stands, what a store leaves of it. -/
import Derived.Test.YtbfmpcomjmcfjaaPad
namespace Go.Proofs.Ytbfmpcomjmcfjaa
open Go.RowKit

/-- What comes at an operation. -/
structure NE where
  op : Int
  ki : Int
  ch : Int
  left : List Nat
/-- What chips hold. -/
structure NS where
  g0 : Nat
  g1 : Nat
  g2 : Nat
  g3 : Nat
  dead : Nat → Bool
  bad : Nat → Nat → Bool
  next : Nat → Nat → Nat
  er : Nat → Nat → Nat
  page : Nat → Nat → Nat → Option (List Nat)
  ops : Nat
  off : Bool
  ev : Nat → NE
/-- Where it stands. -/
structure NL where
  pa : Nat
  cb : Nat
  mb : Nat
  ccap : Nat
  bb : Nat → Nat
  bcap : Nat → Nat
  pb : Nat → Nat → Nat
  pcap : Nat → Nat → Nat
  lv : Nat → Value
inductive Tag where
  | arr | chips | map | row
  | blocks (i : Nat)
  | pages (i j : Nat)
def Tag.hard : Tag → Prop
  | .map => False
  | .row => False
  | _ => True
inductive Want (L : NL) (S : NS) : Nat → Nat → Value → Prop where
  | g0 : Want L S L.pa 0 (.int .i64 (S.g0 : Int))
  | g1 : Want L S L.pa 1 (.int .i64 (S.g1 : Int))
  | g2 : Want L S L.pa 2 (.int .i64 (S.g2 : Int))
  | g3 : Want L S L.pa 3 (.int .i64 (S.g3 : Int))
  | chips : Want L S L.pa 4 (.slice (some ⟨L.cb, 0, none⟩) (S.g0 + 1) L.ccap)
  | comes : Want L S L.pa 5 (.map (some L.mb))
  | ops : Want L S L.pa 6 (.int .i64 (S.ops : Int))
  | off : Want L S L.pa 7 (.bool S.off)
  | dead (i : Nat) (h : i ≤ S.g0) : Want L S L.cb (i * 2) (.bool (S.dead i))
  | blocks (i : Nat) (h : i ≤ S.g0) : Want L S L.cb (i * 2 + 1) (.slice (some ⟨L.bb i, 0, none⟩) S.g1 (L.bcap i))
  | bad (i j : Nat) (h : i ≤ S.g0) (k : j < S.g1) : Want L S (L.bb i) (j * 4) (.bool (S.bad i j))
  | next (i j : Nat) (h : i ≤ S.g0) (k : j < S.g1) : Want L S (L.bb i) (j * 4 + 1) (.int .i64 (S.next i j : Int))
  | er (i j : Nat) (h : i ≤ S.g0) (k : j < S.g1) : Want L S (L.bb i) (j * 4 + 2) (.int .i64 (S.er i j : Int))
  | pages (i j : Nat) (h : i ≤ S.g0) (k : j < S.g1) : Want L S (L.bb i) (j * 4 + 3) (.slice (some ⟨L.pb i j, 0, none⟩) S.g2 (L.pcap i j))
/-- A page's bytes, or none. -/
def PageOk (tag : Nat → Option Tag) (w : World) (n b p : Nat) : Option (List Nat) → Prop
  | none => w.cell? ⟨b, p, none⟩ = some (.slice none 0 0)
  | some bs => ∃ g off cap, w.cell? ⟨b, p, none⟩ = some (.slice (some ⟨g, off, none⟩) n cap) ∧ tag g = some .row ∧ Row w (some ⟨g, off, none⟩) n bs ∧ n ≤ cap ∧ cap ≤ maxLen
def LeftOk (tag : Nat → Option Tag) (w : World) (v : Value) (bs : List Nat) : Prop :=
  ∃ a len cap, v = .slice a len cap ∧ Row w a len bs ∧ len ≤ cap ∧ cap ≤ maxLen ∧ (a = none → cap = 0) ∧ ∀ x, a = some x → tag x.block = some .row
def NE.val (e : NE) (lv : Value) : Value := .agg #[.int .i64 e.op, .int .i64 e.ki, .int .i64 e.ch, lv]
structure Shape (S : NS) : Prop where
  a0 : 3 ≤ S.g0
  b0 : S.g0 ≤ 16
  a1 : 16 ≤ S.g1
  b1 : S.g1 ≤ 64
  a2 : 4 ≤ S.g2
  b2 : S.g2 ≤ 32
  a3 : 256 ≤ S.g3
  b3 : S.g3 ≤ 1024
structure NA (B : Nat) (tag : Nat → Option Tag) (L : NL) (S : NS) (w : World) : Prop where
  range : ∀ k t, tag k = some t → B ≤ k ∧ k < w.heap.size
  tpa : tag L.pa = some .arr
  tcb : tag L.cb = some .chips
  tmb : tag L.mb = some .map
  tbb : ∀ i, i ≤ S.g0 → tag (L.bb i) = some (.blocks i)
  tpb : ∀ i j, i ≤ S.g0 → j < S.g1 → tag (L.pb i j) = some (.pages i j)
  shape : Shape S
  nxt : ∀ i j, S.next i j ≤ S.g2
  caps : S.g0 + 1 ≤ L.ccap ∧ L.ccap ≤ maxLen ∧ ∀ i, S.g1 ≤ L.bcap i ∧ L.bcap i ≤ maxLen ∧ ∀ j, S.g2 ≤ L.pcap i j ∧ L.pcap i j ≤ maxLen
  want : ∀ b o v, Want L S b o v → w.cell? ⟨b, o, none⟩ = some v
  free : ∀ k t o, tag k = some t → t.hard → w.frozen? ⟨k, o, none⟩ = false
  rows : ∀ i j p, i ≤ S.g0 → j < S.g1 → p < S.g2 → PageOk tag w (S.g3 + 64) (L.pb i j) p (S.page i j p)
  evs : ∀ n : Nat, n ≤ 1000000000000 → ∀ w' : World, w'.heap[L.mb]? = w.heap[L.mb]? → (Instr.lookup 155 (.map (some L.mb)) (.int .i64 (n : Int)) false).run Try.prog w' = .ok ((S.ev n).val (L.lv n)) w'
  left : ∀ n : Nat, LeftOk tag w (L.lv n) (S.ev n).left

theorem heap_alloc_old {w : World} {k : Nat} (h : k < w.heap.size) (o : Obj) : (w.alloc o).heap[k]? = w.heap[k]? := ((Below.refl w.heap.size w).alloc (Nat.le_refl _) o).block k h
theorem row_same {w w' : World} {a : Option Addr} {len : Nat} {bs : List Nat} (h : Row w a len bs) (he : 0 < len → ∀ x, a = some x → w'.heap[x.block]? = w.heap[x.block]?) : Row w' a len bs := by
  obtain ⟨h1, h2, h3⟩ := h
  refine ⟨h1, h2, fun h0 => ?_⟩
  obtain ⟨b, off, e, hc⟩ := h3 h0
  subst e
  exact ⟨b, off, rfl, fun i hi => (World.cell?_of_block (w := w) (a := ⟨b, off + i, none⟩) (he h0 ⟨b, off, none⟩ rfl)).trans (hc i hi)⟩
/-- The blocks are as they were. -/
theorem NA.keep {B : Nat} {tag : Nat → Option Tag} {L : NL} {S : NS} {w w' : World} (h : NA B tag L S w) (hs : w.heap.size ≤ w'.heap.size) (he : ∀ k t, tag k = some t → w'.heap[k]? = w.heap[k]?) : NA B tag L S w' := by
  have hc : ∀ k t o, tag k = some t → w'.cell? ⟨k, o, none⟩ = w.cell? ⟨k, o, none⟩ := fun k t o ht => World.cell?_of_block (w := w) (he k t ht)
  have hf : ∀ k t o, tag k = some t → w'.frozen? ⟨k, o, none⟩ = w.frozen? ⟨k, o, none⟩ := fun k t o ht => World.frozen?_of_block (w := w) (he k t ht)
  refine ⟨fun k t ht => ⟨(h.range k t ht).1, Nat.lt_of_lt_of_le (h.range k t ht).2 hs⟩, h.tpa, h.tcb, h.tmb, h.tbb, h.tpb, h.shape, h.nxt, h.caps, fun b o v hw => ?_, fun k t o ht hh => by rw [hf k t o ht]; exact h.free k t o ht hh, fun i j p hi hj hp => ?_, fun n hn w2 h2 => h.evs n hn w2 (h2.trans (he _ _ h.tmb)), fun n => ?_⟩
  · have := h.want b o v hw
    cases hw with
    | g0 => rw [hc _ _ _ h.tpa]; exact this
    | g1 => rw [hc _ _ _ h.tpa]; exact this
    | g2 => rw [hc _ _ _ h.tpa]; exact this
    | g3 => rw [hc _ _ _ h.tpa]; exact this
    | chips => rw [hc _ _ _ h.tpa]; exact this
    | comes => rw [hc _ _ _ h.tpa]; exact this
    | ops => rw [hc _ _ _ h.tpa]; exact this
    | off => rw [hc _ _ _ h.tpa]; exact this
    | dead i hi => rw [hc _ _ _ h.tcb]; exact this
    | blocks i hi => rw [hc _ _ _ h.tcb]; exact this
    | bad i j hi hj => rw [hc _ _ _ (h.tbb i hi)]; exact this
    | next i j hi hj => rw [hc _ _ _ (h.tbb i hi)]; exact this
    | er i j hi hj => rw [hc _ _ _ (h.tbb i hi)]; exact this
    | pages i j hi hj => rw [hc _ _ _ (h.tbb i hi)]; exact this
  · have := h.rows i j p hi hj hp
    cases hpg : S.page i j p with
    | none => rw [hpg] at this; show w'.cell? _ = _; rw [hc _ _ _ (h.tpb i j hi hj)]; exact this
    | some bs =>
      rw [hpg] at this
      obtain ⟨g, off, cap, h1, h2, h3, h4⟩ := this
      exact ⟨g, off, cap, by rw [hc _ _ _ (h.tpb i j hi hj)]; exact h1, h2, row_same h3 (fun _ x hx => by cases hx; exact he _ _ h2), h4⟩
  · obtain ⟨a, len, cap, h1, h2, h3, h4, h5, h6⟩ := h.left n
    exact ⟨a, len, cap, h1, row_same h2 (fun _ x hx => he _ _ (h6 x hx)), h3, h4, h5, h6⟩
theorem NA.below {B : Nat} {tag : Nat → Option Tag} {L : NL} {S : NS} {w w' : World} (h : NA B tag L S w) (hb : Below w.heap.size w w') : NA B tag L S w' :=
  h.keep hb.size fun k t ht => hb.block k (h.range k t ht).2
/-- One cell is written. -/
theorem NA.set {B : Nat} {tag : Nat → Option Tag} {L : NL} {S S' : NS} {w : World} (h : NA B tag L S w) (b0 o0 : Nat) (v0 : Value) (t0 : Tag) (ht0 : tag b0 = some t0) (hh : t0.hard)
    (hg : S'.g0 = S.g0 ∧ S'.g1 = S.g1 ∧ S'.g2 = S.g2 ∧ S'.g3 = S.g3) (he : S'.ev = S.ev) (hn : ∀ i j, S'.next i j ≤ S'.g2) (hin : ∃ u, w.cell? ⟨b0, o0, none⟩ = some u)
    (hw : ∀ b o v, Want L S' b o v → (b = b0 ∧ o = o0 ∧ v = v0) ∨ (Want L S b o v ∧ ¬ (b = b0 ∧ o = o0)))
    (hp : ∀ i j p, i ≤ S.g0 → j < S.g1 → p < S.g2 → (S'.page i j p = S.page i j p ∧ ¬ (L.pb i j = b0 ∧ p = o0)) ∨ PageOk tag (w.setCell ⟨b0, o0, none⟩ v0) (S.g3 + 64) (L.pb i j) p (S'.page i j p)) :
    NA B tag L S' (w.setCell ⟨b0, o0, none⟩ v0) := by
  obtain ⟨e0, e1, e2, e3⟩ := hg
  have hsz : (w.setCell ⟨b0, o0, none⟩ v0).heap.size = w.heap.size := by simp
  have hoth : ∀ k, k ≠ b0 → (w.setCell ⟨b0, o0, none⟩ v0).heap[k]? = w.heap[k]? := fun k hk => heap_setCell_other w _ k v0 hk
  have hrow : ∀ k, tag k = some .row → k ≠ b0 := fun k hk e => by subst e; rw [ht0] at hk; cases hk; exact hh
  refine ⟨fun k t ht => by rw [hsz]; exact h.range k t ht, h.tpa, h.tcb, h.tmb, fun i hi => h.tbb i (by omega), fun i j hi hj => h.tpb i j (by omega) (by omega), ⟨by rw [e0]; exact h.shape.a0, by rw [e0]; exact h.shape.b0, by rw [e1]; exact h.shape.a1, by rw [e1]; exact h.shape.b1, by rw [e2]; exact h.shape.a2, by rw [e2]; exact h.shape.b2, by rw [e3]; exact h.shape.a3, by rw [e3]; exact h.shape.b3⟩, hn, by rw [e0, e1, e2]; exact h.caps, fun b o v hv => ?_, fun k t o ht hh2 => by rw [World.frozen?_setCell]; exact h.free k t o ht hh2, fun i j p hi hj hpp => ?_, fun n hn2 w2 h2 => ?_, fun n => ?_⟩
  · rcases hw b o v hv with ⟨rfl, rfl, rfl⟩ | ⟨h1, h2⟩
    · obtain ⟨u, hu⟩ := hin
      exact World.cell?_setCell_same w _ _ hu
    · rw [World.cell?_setCell_other w _ _ _ (fun e => h2 (by cases e; exact ⟨rfl, rfl⟩))]
      exact h.want b o v h1
  · rw [e3]
    rcases hp i j p (by omega) (by omega) (by omega) with ⟨h1, h2⟩ | h1
    · rw [h1]
      have := h.rows i j p (by omega) (by omega) (by omega)
      cases hpg : S.page i j p with
      | none =>
        rw [hpg] at this
        show World.cell? _ _ = _
        rw [World.cell?_setCell_other w _ _ _ (fun e => h2 (by cases e; exact ⟨rfl, rfl⟩))]; exact this
      | some bs =>
        rw [hpg] at this
        obtain ⟨g, off, cap, k1, k2, k3, k4⟩ := this
        refine ⟨g, off, cap, ?_, k2, row_same k3 (fun _ x hx => by cases hx; exact hoth g (hrow g k2)), k4⟩
        rw [World.cell?_setCell_other w _ _ _ (fun e => h2 (by cases e; exact ⟨rfl, rfl⟩))]; exact k1
    · exact h1
  · rw [he]
    refine h.evs n hn2 w2 (h2.trans (hoth _ fun e => ?_))
    have := h.tmb
    rw [e, ht0] at this
    cases this; exact hh
  · rw [he]
    obtain ⟨a, len, cap, h1, h2, h3, h4, h5, h6⟩ := h.left n
    exact ⟨a, len, cap, h1, row_same h2 (fun _ x hx => hoth _ (hrow _ (h6 x hx))), h3, h4, h5, h6⟩
/-- More blocks are the chips' ownT. -/
theorem NA.tags {B : Nat} {tag tag' : Nat → Option Tag} {L : NL} {S : NS} {w : World} (h : NA B tag L S w) (hm : ∀ k t, tag k = some t → tag' k = some t) (hn : ∀ k t, tag' k = some t → tag k = some t ∨ (B ≤ k ∧ k < w.heap.size ∧ t = .row)) : NA B tag' L S w := by
  refine ⟨fun k t ht => ?_, hm _ _ h.tpa, hm _ _ h.tcb, hm _ _ h.tmb, fun i hi => hm _ _ (h.tbb i hi), fun i j hi hj => hm _ _ (h.tpb i j hi hj), h.shape, h.nxt, h.caps, h.want, fun k t o ht hh => ?_, fun i j p hi hj hp => ?_, h.evs, fun n => ?_⟩
  · rcases hn k t ht with h1 | h1
    · exact h.range k t h1
    · exact ⟨h1.1, h1.2.1⟩
  · rcases hn k t ht with h1 | ⟨_, _, rfl⟩
    · exact h.free k t o h1 hh
    · cases hh
  · have := h.rows i j p hi hj hp
    cases hpg : S.page i j p with
    | none => rw [hpg] at this; exact this
    | some bs =>
      rw [hpg] at this
      obtain ⟨g, off, cap, k1, k2, k3⟩ := this
      exact ⟨g, off, cap, k1, hm _ _ k2, k3⟩
  · obtain ⟨a, len, cap, h1, h2, h3, h4, h5, h6⟩ := h.left n
    exact ⟨a, len, cap, h1, h2, h3, h4, h5, fun x hx => hm _ _ (h6 x hx)⟩

/-- Nothing is written but in the chips' ownT blocks. -/
structure Kept (F : Nat → Prop) (w w' : World) : Prop where
  os : w'.os = w.os
  tape : w'.tape = w.tape
  output : w'.output = w.output
  size : w.heap.size ≤ w'.heap.size
  block : ∀ k, k < w.heap.size → ¬ F k → w'.heap[k]? = w.heap[k]?
theorem Kept.refl (F : Nat → Prop) (w : World) : Kept F w w := ⟨rfl, rfl, rfl, Nat.le_refl _, fun _ _ _ => rfl⟩
theorem Kept.of_below {F : Nat → Prop} {w w' : World} (h : Below w.heap.size w w') : Kept F w w' := ⟨h.os, h.tape, h.output, h.size, fun k hk _ => h.block k hk⟩
theorem Kept.trans {F G : Nat → Prop} {w w1 w2 : World} (h : Kept F w w1) (k : Kept G w1 w2) (hF : ∀ x, x < w.heap.size → G x → F x) : Kept F w w2 :=
  ⟨k.os.trans h.os, k.tape.trans h.tape, k.output.trans h.output, Nat.le_trans h.size k.size, fun j hj hn => by rw [k.block j (Nat.lt_of_lt_of_le hj h.size) (fun g => hn (hF j hj g)), h.block j hj hn]⟩
theorem Kept.set {F : Nat → Prop} {w w' : World} (h : Kept F w w') (a : Addr) (v : Value) (ha : F a.block ∨ w.heap.size ≤ a.block) : Kept F w (w'.setCell a v) :=
  ⟨h.os, h.tape, h.output, by simpa using h.size, fun k hk hn => by rw [heap_setCell_other w' a k v (fun e => by subst e; rcases ha with ha | ha; exact hn ha; omega)]; exact h.block k hk hn⟩
theorem Kept.toBelow {F : Nat → Prop} {B : Nat} {w w' : World} (h : Kept F w w') (hB : B ≤ w.heap.size) (hF : ∀ k, F k → B ≤ k) : Below B w w' :=
  ⟨h.os, h.tape, h.output, h.size, fun k hk => h.block k (by omega) (fun f => by have := hF k f; omega)⟩
def ownT (tag : Nat → Option Tag) (k : Nat) : Prop := tag k ≠ none

end Go.Proofs.Ytbfmpcomjmcfjaa
