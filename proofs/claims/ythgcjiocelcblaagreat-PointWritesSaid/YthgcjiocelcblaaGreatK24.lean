/- Parts of the proof: ParOfHdr, CaseS. -/
import Derived.Test.YthgcjiocelcblaaGreatK22
import Derived.Test.YthgcjiocelcblaaGreatK23
namespace Go.Proofs.YthgcjiocelcblaaGreat
open Go.RowKit

/-- A header with another kind. -/
def RH.withKind (h : RH) (k : Nat) : RH := ⟨k, h.ep, h.ba, h.ix, h.ct, h.bl, h.mo⟩
theorem withKind_fits {h : RH} (hf : h.Fits) {k : Nat} (hk : k < 256) : (h.withKind k).Fits := ⟨hk, hf.ep, hf.ba, hf.ix, hf.ct, hf.bl, hf.mo⟩
theorem refSeal_parts (h : RH) (hf : h.Fits) (D : PS) (hD : D.n ≤ 1000) : Hid (∀ x : World, PartOk x D →
    Calls Tryz.prog 64 #[.agg h.wide, .slice D.a D.n D.c, .slice none 0 0] x (RetOwn x (sealB h D.l []))) :=
  Lib.hid fun x hd => refSeal_any h hf D.a D.n D.c D.l none 0 0 [] x hd.1 hD hd.2.2.2 ⟨rfl, (fun x hx => by cases hx), fun h => by omega⟩ (Nat.le_refl _) (Nat.zero_le _) (fun _ => rfl) (by omega)
theorem kind_wrap (k : Nat) (_ : k < 256) : IntKind.u8.wrap (1 + ((k : Int) % 6)) = ((1 + k % 6 : Nat) : Int) := by
  rw [IntKind.wrap_u8]; omega

end Go.Proofs.YthgcjiocelcblaaGreat

namespace Go.Proofs.YthgcjiocelcblaaGreat
open Go.RowKit

theorem info_pager : (Tryz.prog.info? 137).map (fun i => (i.zero, i.size, i.bytes)) = some (some (.agg #[.slice none 0 0, .slice none 0 0]), 2, 48) := by kernel_rfl
def PG.has (g : PG) (x : Addr) : Prop := g.d.a = some x ∨ g.o.a = some x
/-- Two slices of pages of the call's own, and the pages that are made. -/
structure CaseS (B : Nat) (u v : Value) (GU GV GA : List PG) (x : World) : Prop where
  own1 : OwnG 137 B x u GU
  own2 : OwnG 137 B x v GV
  ns : NoSh u v
  pages : ∀ g ∈ GA, PageOk x g
  apart : ∀ g ∈ GA, ∀ a, g.has a → B ≤ a.block ∧ a.block < x.heap.size ∧ u.ownBlock ≠ some a.block ∧ v.ownBlock ≠ some a.block
theorem CaseS.start (B : Nat) (x : World) : CaseS B (.slice none 0 0) (.slice none 0 0) [] [] [] x :=
  ⟨ownG_nil _ _ _, ownG_nil _ _ _, (fun q hq => by simp [Value.ownBlock] at hq), (fun g hg => by cases hg), fun g hg => by cases hg⟩
theorem OwnG.lt' {T : TypeId} {B : Nat} {w : World} {sv : Value} {G : List PG} (h : OwnG T B w sv G) : ∀ q, sv.ownBlock = some q → B ≤ q ∧ q < w.heap.size := h.lt
theorem CaseS.step {B : Nat} {u v : Value} {GU GV GA : List PG} {x y : World} (h : CaseS B u v GU GV GA x) (hb : Below x.heap.size x y) : CaseS B u v GU GV GA y :=
  ⟨h.own1.below hb, h.own2.below hb, h.ns, fun g hg => (h.pages g hg).keep hb (Nat.le_refl _), fun g hg a ha => by
    obtain ⟨h1, h2, h3⟩ := h.apart g hg a ha
    exact ⟨h1, Nat.lt_of_lt_of_le h2 hb.size, h3⟩⟩
/-- One more page, all in memory later than z. -/
theorem CaseS.more {B : Nat} {u v : Value} {GU GV GA : List PG} {x y : World} (h : CaseS B u v GU GV GA x) (hb : Below x.heap.size x y) (hB : B ≤ x.heap.size) {g : PG} (hg : PageOk y g) (hf : ∀ a, g.has a → x.heap.size ≤ a.block ∧ a.block < y.heap.size) : CaseS B u v GU GV (GA ++ [g]) y := by
  have h' := h.step hb
  refine ⟨h'.own1, h'.own2, h.ns, fun q hq => ?_, fun q hq a ha => ?_⟩
  · rcases List.mem_append.1 hq with hq | hq
    · exact h'.pages q hq
    · rw [List.mem_singleton.1 hq]; exact hg
  · rcases List.mem_append.1 hq with hq | hq
    · exact h'.apart q hq a ha
    · rw [List.mem_singleton.1 hq] at ha
      obtain ⟨h1, h2⟩ := hf a ha
      exact ⟨Nat.le_trans hB h1, h2, fun e => by have := (h.own1.lt' _ e).2; omega, fun e => by have := (h.own2.lt' _ e).2; omega⟩
theorem PageOk.grown {w w' : World} {g : PG} {row : Option Nat} (h : PageOk w g) (hg : w.grownBy w' row) (hne : ∀ a, g.has a → some a.block ≠ row) : PageOk w' g :=
  ⟨h.1.grown hg fun x hx => hne x (.inl hx), h.2.grown hg fun x hx => hne x (.inr hx)⟩
theorem CaseS.push1 {B : Nat} {u v u' : Value} {GU GV GA : List PG} {x y : World} {g : PG} (h : CaseS B u v GU GV GA x) (hap : ApdG 137 B x u (GU ++ [g]) u' y) : CaseS B u' v (GU ++ [g]) GV GA y := by
  refine ⟨hap.own, h.own2.kept hap.grown h.ns.ne, h.ns.step hap.where_ fun q hq => (h.own2.lt' q hq).2, fun q hq => (h.pages q hq).grown hap.grown fun a ha e => (h.apart q hq a ha).2.2.1 e.symm, fun q hq a ha => ?_⟩
  obtain ⟨h1, h2, h3, h4⟩ := h.apart q hq a ha
  refine ⟨h1, Nat.lt_of_lt_of_le h2 hap.grown.size, ?_, h4⟩
  rcases hap.where_ with e | e
  · rw [e]; exact h3
  · rw [e]; intro e'; simp only [Option.some.injEq] at e'; omega
theorem CaseS.push2 {B : Nat} {u v v' : Value} {GU GV GA : List PG} {x y : World} {g : PG} (h : CaseS B u v GU GV GA x) (hap : ApdG 137 B x v (GV ++ [g]) v' y) : CaseS B u v' GU (GV ++ [g]) GA y := by
  refine ⟨h.own1.kept hap.grown h.ns.symm.ne, hap.own, (h.ns.symm.step hap.where_ fun q hq => (h.own1.lt' q hq).2).symm, fun q hq => (h.pages q hq).grown hap.grown fun a ha e => (h.apart q hq a ha).2.2.2 e.symm, fun q hq a ha => ?_⟩
  obtain ⟨h1, h2, h3, h4⟩ := h.apart q hq a ha
  refine ⟨h1, Nat.lt_of_lt_of_le h2 hap.grown.size, h3, ?_⟩
  rcases hap.where_ with e | e
  · rw [e]; exact h4
  · rw [e]; intro e'; simp only [Option.some.injEq] at e'; omega
/-- Headers in memory. -/
def HdrC (h : RH) (b o : Nat) (w : World) : Prop := w.cell? ⟨b, o, none⟩ = some (.int .u8 (h.ki : Int)) ∧ w.cell? ⟨b, o + 1, none⟩ = some (.int .u32 (h.ep : Int)) ∧ w.cell? ⟨b, o + 2, none⟩ = some (.int .u32 (h.ba : Int)) ∧ w.cell? ⟨b, o + 3, none⟩ = some (.int .u16 (h.ix : Int)) ∧ w.cell? ⟨b, o + 4, none⟩ = some (.int .u16 (h.ct : Int)) ∧ w.cell? ⟨b, o + 5, none⟩ = some (.int .u32 (h.bl : Int)) ∧ w.cell? ⟨b, o + 6, none⟩ = some (.int .u32 (h.mo : Int))
def CellsH (w : World) (a : Option Addr) (H : List RH) : Prop := 0 < H.length → ∃ b off, a = some ⟨b, off, none⟩ ∧ ∀ i, i < H.length → HdrC (H.getD i RH.zero) b (off + i * 7) w
theorem cell_keep {W W' : World} {B b o : Nat} {v : Value} (h : W.cell? ⟨b, o, none⟩ = some v) (hb : Below B W W') (hB : W.heap.size ≤ B) : W'.cell? ⟨b, o, none⟩ = some v :=
  (hb.cell (p := ⟨b, o, none⟩) (Nat.lt_of_lt_of_le (World.block_lt_of_cell? W _ h) hB)).trans h
theorem CellsH.keep {W W' : World} {a : Option Addr} {H : List RH} {B : Nat} (h : CellsH W a H) (hb : Below B W W') (hB : W.heap.size ≤ B) : CellsH W' a H := fun h0 => by
  obtain ⟨b, off, e, hc⟩ := h h0
  refine ⟨b, off, e, fun i hi => ?_⟩
  obtain ⟨h0, h1, h2, h3, h4, h5, h6⟩ := hc i hi
  exact ⟨cell_keep h0 hb hB, cell_keep h1 hb hB, cell_keep h2 hb hB, cell_keep h3 hb hB, cell_keep h4 hb hB, cell_keep h5 hb hB, cell_keep h6 hb hB⟩
theorem CellsH.cell {W : World} {a : Option Addr} {H : List RH} (h : CellsH W a H) {k : Nat} (hk : k < H.length) : ∃ b off, a = some ⟨b, off, none⟩ ∧ HdrC (H.getD k RH.zero) b (off + k * 7) W := by
  obtain ⟨b, off, e, hc⟩ := h (by omega)
  exact ⟨b, off, e, hc k hk⟩
theorem own_parts {w w' : World} {bs : List Nat} {e : Ending} (h : RetOwn w bs e w') : ∃ p : PS, e = .returned (.slice p.a p.n p.c) ∧ p.l = bs ∧ p.n = bs.length ∧ PartOk w' p ∧ Below w.heap.size w w' ∧ ∀ x, p.a = some x → w.heap.size ≤ x.block ∧ x.block < w'.heap.size := by
  have h' := h
  obtain ⟨sv, e1, ho, _⟩ := h'
  obtain ⟨p, e2, h2, h3, h4, h5⟩ := part_ret h
  refine ⟨p, e2, h2, h3, h4, h5, fun x hx => ?_⟩
  have e3 : sv = .slice p.a p.n p.c := by
    rw [e1] at e2
    simpa using e2
  exact own_base ho x.block (by rw [e3, hx]; rfl)
/-- A part cut to its first m bytes. -/
def PS.cut (p : PS) (m : Nat) : PS := ⟨p.a, m, p.c, p.l.take m⟩
theorem cut_ok {W : World} {p : PS} (h : PartOk W p) {m : Nat} (hm : m ≤ p.n) : PartOk W (p.cut m) := by
  obtain ⟨⟨h1, h2, h3⟩, h4, h5, h6⟩ := h
  refine ⟨⟨?_, fun x hx => h2 x (List.mem_of_mem_take hx), fun h0 => ?_⟩, ?_, h5, h6⟩
  · simp only [PS.cut, List.length_take, h1]; omega
  · simp only [PS.cut] at h0 ⊢
    obtain ⟨b, off, e, hc⟩ := h3 (by omega)
    refine ⟨b, off, e, fun i hi => ?_⟩
    rw [hc i (by omega)]
    simp [List.getD, hi]
  · simp only [PS.cut]; omega
theorem pad_len {bs : List Nat} {m : Nat} : m ≤ (padTo bs (m : Int)).length := by
  unfold padTo; simp; omega
theorem sealed_more {G : List PG} {g : PG} {size : Nat} (hG : Sealed G size) (hl : g.d.l.length = size) {h : RH} (hf : h.Fits) (hk : 1 ≤ h.ki ∧ h.ki ≤ 6) (ho : g.o.l = sealB h g.d.l []) : Sealed (G ++ [g]) size := by
  refine ⟨fun q hq => ?_, fun q hq => ?_⟩
  · rcases List.mem_append.1 hq with hq | hq
    · exact hG.len q hq
    · rw [List.mem_singleton.1 hq]; exact hl
  · rcases List.mem_append.1 hq with hq | hq
    · exact hG.sealed q hq
    · rw [List.mem_singleton.1 hq]; exact ⟨h, hf, hk, ho⟩
theorem sealed_nil (size : Nat) : Sealed [] size := ⟨(fun q hq => by cases hq), fun q hq => by cases hq⟩

end Go.Proofs.YthgcjiocelcblaaGreat
