/- Members that hold pages in memory (gabionref10): where they stand, what a step leaves of them. -/
import Derived.Test.YthgcjiocelcblaaGreatK10
import Derived.Test.YthgcjiocelcblaaGreatK11
import Derived.Test.YthgcjiocelcblaaGreatK12
import Derived.Test.YthgcjiocelcblaaGreatK18
import Derived.Deep.RegionHeld3
import Derived.Deep.AppendLies
namespace Go.Proofs.YthgcjiocelcblaaGreat
open Go.RowKit Go.Deep

theorem ownsRow_at {B : Nat} {w w' : World} {e : TypeId} {size : Nat} {v : Value} {n : Nat} {xs : List Value} (h : w.ownsRow B e size v n xs) (he : ∀ k, v.ownBlock = some k → w'.heap[k]? = w.heap[k]?) : w'.ownsRow B e size v n xs := by
  obtain ⟨h0, h1⟩ := h
  refine ⟨h0, ?_⟩
  rcases h1 with h1 | ⟨g, cap, cur, rfl, h2, h3, h4⟩
  · exact Or.inl h1
  · exact Or.inr ⟨g, cap, cur, rfl, h2, (he g rfl).trans h3, h4⟩
/-- What the members hold, and where. -/
structure RS where
  rb : Nat
  pb : Nat
  gb : Nat
  n : Nat
  bl : Nat
  pg : Nat
  sz : Nat
  F : Nat × Nat × Nat → Option PS
  gone : Nat → Nat
  first : Int
  ord : Value
  ol : List Nat
/-- The blocks that a step may write. -/
def RS.ob (s : RS) (k : Nat) : Prop := k = s.rb ∨ k = s.pb ∨ k = s.gb ∨ some k = s.ord.ownBlock
def RS.pageV (s : RS) (k : Nat × Nat × Nat) : Option Value := (s.F k).map PS.v
def RS.goneV (s : RS) (m : Nat) : Option Value := if s.gone m = 0 then none else some (.int .i64 (s.gone m : Int))
structure Ram (B : Nat) (s : RS) (w : World) : Prop where
  box : w.heap[s.rb]? = some (.cells #[.int .i64 (s.n : Int), .int .i64 (s.bl : Int), .int .i64 (s.pg : Int), .int .i64 (s.sz : Int), .map (some s.pb), .map (some s.gb), .int .i64 s.first, s.ord] 58 (0, 0))
  low : B ≤ s.rb ∧ B ≤ s.pb ∧ B ≤ s.gb
  pages : MapF ok3 kv3 s.pb s.pageV w
  goneF : MapF ok1 kv1 s.gb s.goneV w
  parts : ∀ k p, ok3 k → s.F k = some p → PartOk w p ∧ p.n = s.sz + 64 ∧ Far B p ∧ ∀ x, p.a = some x → ¬ s.ob x.block
  ordF : w.ownsRow B 3 1 s.ord s.ol.length (vals s.ol)
  sep : s.rb ≠ s.pb ∧ s.rb ≠ s.gb ∧ s.pb ≠ s.gb ∧ s.ord.ownBlock ≠ some s.rb ∧ s.ord.ownBlock ≠ some s.pb ∧ s.ord.ownBlock ≠ some s.gb
  geo : GoodG s.n s.bl s.pg s.sz
/-- What a step leaves: all blocks that aren't the members' own are as they were, and aren't the members' own now. -/
structure RStep (s : RS) (w : World) (s' : RS) (w' : World) : Prop where
  os : w'.os = w.os
  tape : w'.tape = w.tape
  output : w'.output = w.output
  size : w.heap.size ≤ w'.heap.size
  block : ∀ k, k < w.heap.size → ¬ s.ob k → ¬ s'.ob k ∧ w'.heap[k]? = w.heap[k]?
  same : s'.rb = s.rb ∧ s'.pb = s.pb ∧ s'.gb = s.gb ∧ s'.n = s.n ∧ s'.bl = s.bl ∧ s'.pg = s.pg ∧ s'.sz = s.sz ∧ s'.first = s.first
theorem goneV_get (s : RS) (m : Nat) : (s.goneV m).getD (.int .i64 0) = .int .i64 (s.gone m : Int) := by
  unfold RS.goneV
  split
  · rename_i h; simp [h]
  · rfl
theorem RStep.refl (s : RS) (w : World) : RStep s w s w := ⟨rfl, rfl, rfl, Nat.le_refl _, fun _ _ h => ⟨h, rfl⟩, rfl, rfl, rfl, rfl, rfl, rfl, rfl, rfl⟩
theorem RStep.trans {s s1 s2 : RS} {w w1 w2 : World} (h : RStep s w s1 w1) (k : RStep s1 w1 s2 w2) : RStep s w s2 w2 := by
  obtain ⟨a1, a2, a3, a4, a5, a6, a7, a8⟩ := h.same
  obtain ⟨b1, b2, b3, b4, b5, b6, b7, b8⟩ := k.same
  refine ⟨k.os.trans h.os, k.tape.trans h.tape, k.output.trans h.output, Nat.le_trans h.size k.size, fun j hj hn => ?_, b1.trans a1, b2.trans a2, b3.trans a3, b4.trans a4, b5.trans a5, b6.trans a6, b7.trans a7, b8.trans a8⟩
  obtain ⟨h1, h2⟩ := h.block j hj hn
  obtain ⟨k1, k2⟩ := k.block j (Nat.lt_of_lt_of_le hj h.size) h1
  exact ⟨k1, k2.trans h2⟩
theorem RStep.of_below {s : RS} {w w' : World} (h : Below w.heap.size w w') : RStep s w s w' := ⟨h.os, h.tape, h.output, h.size, fun k hk hn => ⟨hn, h.block k hk⟩, rfl, rfl, rfl, rfl, rfl, rfl, rfl, rfl⟩
/-- Below the members' own blocks nothing is changed. -/
theorem RStep.below {B : Nat} {s s' : RS} {w w' : World} (h : RStep s w s' w') (hr : Ram B s w) (hB : B ≤ w.heap.size) : Below B w w' :=
  ⟨h.os, h.tape, h.output, h.size, fun k hk => (h.block k (Nat.lt_of_lt_of_le hk hB) (by
    rintro (e | e | e | e)
    · have := hr.low.1; omega
    · have := hr.low.2.1; omega
    · have := hr.low.2.2; omega
    · have := (hr.ordF.lt k e.symm).1; omega)).2⟩
section
variable {B : Nat} {s : RS} {w w' : World}
theorem Ram.rlt (h : Ram B s w) : s.rb < w.heap.size := (Array.getElem?_eq_some_iff.1 h.box).1
/-- The members' blocks, and those of their pages, are as they were. -/
theorem Ram.keep (h : Ram B s w) (he : ∀ k, k < w.heap.size → s.ob k → w'.heap[k]? = w.heap[k]?) (hp : ∀ k p, ok3 k → s.F k = some p → ∀ x, p.a = some x → w'.heap[x.block]? = w.heap[x.block]?) : Ram B s w' := by
  refine ⟨(he _ h.rlt (Or.inl rfl)).trans h.box, h.low, h.pages.same (he _ h.pages.lt (Or.inr (Or.inl rfl))), h.goneF.same (he _ h.goneF.lt (Or.inr (Or.inr (Or.inl rfl)))), fun k p hk hF => ?_, ?_, h.sep, h.geo⟩
  · obtain ⟨q1, q2, q3, q4⟩ := h.parts k p hk hF
    refine ⟨⟨?_, q1.2⟩, q2, q3, q4⟩
    obtain ⟨r1, r2, r3⟩ := q1.1
    refine ⟨r1, r2, fun h0 => ?_⟩
    obtain ⟨b, off, e, hc⟩ := r3 h0
    exact ⟨b, off, e, fun i hi => (World.cell?_of_block (w := w) (a := ⟨b, off + i, none⟩) (hp k p hk hF ⟨b, off, none⟩ e)).trans (hc i hi)⟩
  · exact ownsRow_at h.ordF fun k hk => he k (h.ordF.lt k hk).2 (Or.inr (Or.inr (Or.inr hk.symm)))
theorem PartOk.at_ {p : PS} (h : PartOk w p) (he : 0 < p.n → ∀ x, p.a = some x → w'.heap[x.block]? = w.heap[x.block]?) : PartOk w' p := by
  refine ⟨?_, h.2⟩
  obtain ⟨r1, r2, r3⟩ := h.1
  refine ⟨r1, r2, fun h0 => ?_⟩
  obtain ⟨b, off, e, hc⟩ := r3 h0
  exact ⟨b, off, e, fun i hi => (World.cell?_of_block (w := w) (a := ⟨b, off + i, none⟩) (he h0 ⟨b, off, none⟩ e)).trans (hc i hi)⟩
theorem PartOk.lt {p : PS} (h : PartOk w p) (h0 : 0 < p.n) : ∀ x, p.a = some x → x.block < w.heap.size := row_lt h.1 h0
theorem Ram.step (h : Ram B s w) (hb : Below w.heap.size w w') : Ram B s w' :=
  h.keep (fun k hk _ => hb.block k hk) fun k p hk hF x hx => by
    obtain ⟨q1, q2, _⟩ := h.parts k p hk hF
    exact hb.block _ (q1.lt (by omega) x hx)
/-- The cells of the members' box. -/
theorem Ram.c (h : Ram B s w) : w.cell? ⟨s.rb, 0, none⟩ = some (.int .i64 (s.n : Int)) ∧ w.cell? ⟨s.rb, 1, none⟩ = some (.int .i64 (s.bl : Int)) ∧ w.cell? ⟨s.rb, 2, none⟩ = some (.int .i64 (s.pg : Int)) ∧ w.cell? ⟨s.rb, 3, none⟩ = some (.int .i64 (s.sz : Int)) ∧
    w.cell? ⟨s.rb, 4, none⟩ = some (.map (some s.pb)) ∧ w.cell? ⟨s.rb, 5, none⟩ = some (.map (some s.gb)) ∧ w.cell? ⟨s.rb, 6, none⟩ = some (.int .i64 s.first) ∧ w.cell? ⟨s.rb, 7, none⟩ = some s.ord := by
  refine ⟨?_, ?_, ?_, ?_, ?_, ?_, ?_, ?_⟩ <;> (unfold World.cell?; simp only [h.box]; rfl)
theorem Ram.free (h : Ram B s w) (o : Nat) : w.frozen? ⟨s.rb, o, none⟩ = false := by
  unfold World.frozen?
  rw [h.box]
  simp
theorem ramGeo (h : Ram B s w) : Calls Tryz.prog 135 #[.pointer (some ⟨s.rb, 0, none⟩)] w fun e w' => e = .returned (.agg #[.int .i64 (s.n : Int), .int .i64 (s.bl : Int), .int .i64 (s.pg : Int), .int .i64 (s.sz : Int)]) ∧ Below w.heap.size w w' := by
  obtain ⟨c0, c1, c2, c3, c4, c5, c6, c7⟩ := h.c
  have hlt := h.rlt
  have hne : s.rb ≠ w.heap.size := by omega
  clear h c4 c5 c6 c7
  go_enter Tryz.func135, Tryz.ntmps135
  go_wp2
  exact bodyPost_ret (v := .agg #[.int .i64 (s.n : Int), .int .i64 (s.bl : Int), .int .i64 (s.pg : Int), .int .i64 (s.sz : Int)]) (by simp [results, Tryz.results135, go_sem]) rfl ⟨rfl, (Below.refl _ _).alloc (Nat.le_refl _) _⟩
theorem ramAhead (h : Ram B s w) : Calls Tryz.prog 133 #[.pointer (some ⟨s.rb, 0, none⟩)] w fun e w' => e = .returned (.int .i64 s.first) ∧ w' = w := by
  obtain ⟨c0, c1, c2, c3, c4, c5, c6, c7⟩ := h.c
  clear h c0 c1 c2 c3 c4 c5 c7
  go_enter Tryz.func133, Tryz.ntmps133
  go_wp2
  go_ret
  exact ⟨rfl, rfl⟩
end
end Go.Proofs.YthgcjiocelcblaaGreat

namespace Go.Proofs.YthgcjiocelcblaaGreat
open Go.RowKit Go.Deep

theorem row_mid {w : World} {b off n : Nat} {bs : List Nat} (h : Row w (some ⟨b, off, none⟩) n bs) (k m : Nat) (hk : k + m ≤ n) : Row w (some ⟨b, off + k, none⟩) m ((bs.drop k).take m) := by
  obtain ⟨h1, h2, h3⟩ := h
  refine ⟨by simp; omega, fun x hx => h2 x (List.mem_of_mem_drop (List.mem_of_mem_take hx)), fun h0 => ⟨b, off + k, rfl, fun i hi => ?_⟩⟩
  obtain ⟨b', off', e, hc⟩ := h3 (by omega)
  cases e
  have := hc (k + i) (by omega)
  rw [Nat.add_assoc, this]
  simp [List.getD, hi]
theorem part_at (p : PS) (lo m : Nat) (w : World) (hp : PartOk w p) (hm : 0 < m) (h : lo + m ≤ p.n) (hn : p.n ≤ 100000) :
    Calls Tryz.prog 105 #[.slice p.a p.n p.c, .int .i64 (lo : Int), .int .i64 (m : Int)] w (RetOwn w ((p.l.drop lo).take m)) := by
  obtain ⟨hr, hlc, hcm, hnn⟩ := hp
  obtain ⟨pa, pn, pc, pl⟩ := p
  simp only at *
  unfold maxLen at hcm
  cases pa with
  | none => have := hnn rfl; omega
  | some x =>
    obtain ⟨b, off, spot⟩ := x
    obtain ⟨b', off', e, _⟩ := hr.2.2 (by omega)
    cases e
    have hmid := row_mid hr lo m h
    have hu : IntKind.i64.wrap ((lo : Int) + (m : Int)) = ((lo + m : Nat) : Int) := by rw [IntWalk.i64_in _ (by omega)]; omega
    have hne : ¬ pc = lo := by omega
    have HM := Lib.hid hmid
    clear hmid hnn hr
    go_enter Tryz.func105, Tryz.ntmps105
    go_wp2_with (at_builtin; refine wpList_app rfl _ _ rfl w.heap.size _ _ rfl (own_nil _ _) _ _ _ ((pl.drop lo).take m) rfl ?c1 ?c2 (Nat.le_refl _) (by simp; omega) ?_)
    case c1 => rw [Nat.add_sub_cancel_left]; exact HM.out
    case c2 => exact fun h => by cases h
    intro v1 w1 hap
    go_wp2
    go_ret
    exact ⟨_, rfl, hap.own, hap.below⟩

theorem bel_drewN' {w x : World} (h : Below w.heap.size w x) : Below w.heap.size w x.drew := h.drew
/-- A page's bytes, and those beside it. -/
def RS.page (s : RS) (k : Nat × Nat × Nat) : List Nat := match s.F k with | none => List.replicate (s.sz + 64) 255 | some p => p.l
def ReadRet (s : RS) (k : Nat × Nat × Nat) (w : World) (e : Ending) (w' : World) : Prop :=
  ∃ D O : PS, e = .returned (.tuple #[.slice D.a D.n D.c, .slice O.a O.n O.c, .int .i64 0]) ∧ D.l = (s.page k).take s.sz ∧ O.l = (s.page k).drop s.sz ∧ D.n = s.sz ∧ O.n = 64 ∧ PartOk w' D ∧ PartOk w' O ∧ Far w.heap.size D ∧ Far w.heap.size O ∧ Below w.heap.size w w'
section
variable {B : Nat} {s : RS} {w : World}
theorem zeroI (w : World) : (zeroValue 3).run Tryz.prog w = .ok (.int .i64 0) w := by kernel_rfl
theorem zeroB (w : World) : (zeroValue 28).run Tryz.prog w = .ok (.slice none 0 0) w := by kernel_rfl
set_option maxRecDepth 100000 in
theorem ramRead_dead (h : Ram B s w) (m b p : Nat) (hm : m < s.n) (hb : b + 5 < s.bl) (hp : p < s.pg) (hg : s.gone m ≠ 0) :
    Calls Tryz.prog 137 #[.pointer (some ⟨s.rb, 0, none⟩), .int .i64 (m : Int), .int .i64 (b : Int), .int .i64 (p : Int)] w fun e w' => e = .returned (.tuple #[.slice none 0 0, .slice none 0 0, .int .i64 71]) ∧ Below w.heap.size w w' := by
  have hgeo := h.geo
  have HV := Lib.hid fun x : World => virtual_any (s.n : Int) (s.bl : Int) (s.pg : Int) (s.sz : Int) x (by omega) (by have := hgeo.2.2.2.1; omega)
  have HC := Lib.hid fun (x : World) (hx : Below w.heap.size w x) => (h.step hx).c
  have HG := Lib.hid fun (x : World) (hx : Below w.heap.size w x) => (h.step hx).goneF
  obtain ⟨c0, c1, c2, c3, c4, c5, c6, c7⟩ := h.c
  have q0 : ∀ x : Nat, decide ((x : Int) < 0) = false := fun x => by simp
  have q0m := q0 m
  have q0b := q0 b
  have q0p := q0 p
  clear q0
  have q1 : decide ((s.n : Int) ≤ (m : Int)) = false := by simp; omega
  have q1' : decide (s.n ≤ m) = false := by simp; omega
  have q2 : decide ((s.bl : Int) - 5 ≤ (b : Int)) = false := by simp; omega
  have q3 : decide (s.pg ≤ p) = false := by simp; omega
  have q4 : decide ((0 : Int) < (s.gone m : Int)) = true := by simp; omega
  have q4' : decide (0 < s.gone m) = true := by simp; omega
  have hok : ok1 m := by unfold ok1; have := hgeo.2.1; omega
  clear c4 c6 c7 hgeo h hm hb hp hg
  go_enter Tryz.func137, Tryz.ntmps137
  go_wp2_with fail
  ((with_reducible refine (HV.out _).mono ?_))
  rintro e w1 ⟨rfl, hb1⟩
  obtain ⟨d0, d1, d2, d3, d4, d5, d6, d7⟩ := HC.out w1 hb1
  have hg1 := HG.out w1 hb1
  have HB := Lib.hid hb1
  clear hb1 d4 d6 d7
  go_wp2_with (at_lookup; refine wpList_lookupF rfl _ _ _ rfl 3 keyF1 Tryz.underlying55 (.int .i64 0) (zeroI _) m hok rfl hg1 rfl _ (goneV_get s m) ?_)
  go_wp2
  go_ret3
  exact ⟨rfl, HB.out⟩
theorem row_page_none {k : Nat × Nat × Nat} (h : s.F k = none) : s.page k = List.replicate (s.sz + 64) 255 := by simp [RS.page, h]
theorem row_page_some {k : Nat × Nat × Nat} {p : PS} (h : s.F k = some p) : s.page k = p.l := by simp [RS.page, h]
set_option maxRecDepth 100000 in
set_option maxHeartbeats 1000000 in
theorem ramRead_some (h : Ram B s w) (m b p : Nat) (hm : m < s.n) (hb : b + 5 < s.bl) (hp : p < s.pg) (hg : s.gone m = 0) (p0 : PS) (hF : s.F (m, b, p) = some p0) :
    Calls Tryz.prog 137 #[.pointer (some ⟨s.rb, 0, none⟩), .int .i64 (m : Int), .int .i64 (b : Int), .int .i64 (p : Int)] w (ReadRet s (m, b, p) w) := by
  have hgeo := h.geo
  have HV := Lib.hid fun x : World => virtual_any (s.n : Int) (s.bl : Int) (s.pg : Int) (s.sz : Int) x (by omega) (by have := hgeo.2.2.2.1; omega)
  have HC := Lib.hid fun (x : World) (hx : Below w.heap.size w x) => (h.step hx).c
  have HG := Lib.hid fun (x : World) (hx : Below w.heap.size w x) => (h.step hx).goneF
  have HQ := Lib.hid fun (x : World) (hx : Below w.heap.size w x) => (h.step hx).pages
  have hb64 : s.bl ≤ 64 := by have := hgeo.2.2.2.1; omega
  have hp32 : s.pg ≤ 32 := by have := hgeo.2.2.2.2.2.1; omega
  have hs1 : 256 ≤ s.sz := by have := hgeo.2.2.2.2.2.2.1; omega
  have hs2 : s.sz ≤ 1024 := by have := hgeo.2.2.2.2.2.2.2.1; omega
  have hok3 : ok3 (m, b, p) := ⟨by have := hgeo.2.1; show m ≤ _; omega, by show b ≤ _; omega, by show p ≤ _; omega⟩
  obtain ⟨k1, k2, k3, _⟩ := h.parts _ _ hok3 hF
  have HP0 := Lib.hid fun (x : World) (hx : Below w.heap.size w x) => k1.keep hx (Nat.le_refl _)
  have HT1 := Lib.hid fun (x : World) (hx : Below w.heap.size w x) => part_at p0 0 s.sz x (k1.keep hx (Nat.le_refl _)) (by omega) (by omega) (by omega)
  rw [show ((0 : Nat) : Int) = 0 from rfl] at HT1
  have HT2 := Lib.hid fun (x : World) (hx : Below w.heap.size w x) => part_at p0 s.sz 64 x (k1.keep hx (Nat.le_refl _)) (by omega) (by omega) (by omega)
  rw [show ((64 : Nat) : Int) = 64 from rfl] at HT2
  have HL1 := Lib.hid (show (p0.l.drop 0).take s.sz = (s.page (m, b, p)).take s.sz ∧ ((p0.l.drop 0).take s.sz).length = s.sz by rw [row_page_some hF]; exact ⟨rfl, by have := k1.1.1; simp; omega⟩)
  have HL2 := Lib.hid (show (p0.l.drop s.sz).take 64 = (s.page (m, b, p)).drop s.sz ∧ ((p0.l.drop s.sz).take 64).length = 64 by rw [row_page_some hF]; exact ⟨List.take_of_length_le (by have := k1.1.1; simp; omega), by have := k1.1.1; simp; omega⟩)
  have HPV : Hid ((s.pageV (m, b, p)).getD (.slice none 0 0) = .slice p0.a p0.n p0.c) := Lib.hid (by simp [RS.pageV, hF, PS.v])
  obtain ⟨pn, hpn⟩ : ∃ x, x = p0.n := ⟨_, rfl⟩
  have hpn1 : 0 < pn := by omega
  have hpn2 : ((pn : Int) == 0) = false := by simp; omega
  have hpn3 : (pn == 0) = false := by simp; omega
  obtain ⟨c0, c1, c2, c3, c4, c5, c6, c7⟩ := h.c
  have q0 : ∀ x : Nat, decide ((x : Int) < 0) = false := fun x => by simp
  have q0m := q0 m
  have q0b := q0 b
  have q0p := q0 p
  have q1 : decide ((s.n : Int) ≤ (m : Int)) = false := by simp; omega
  have q1' : decide (s.n ≤ m) = false := by simp; omega
  have q2 : decide ((s.bl : Int) - 5 ≤ (b : Int)) = false := by simp; omega
  have q3 : decide (s.pg ≤ p) = false := by simp; omega
  have hok : ok1 m := by unfold ok1; have := hgeo.2.1; omega
  have HGV : Hid ((s.goneV m).getD (.int .i64 0) = .int .i64 0) := Lib.hid (by rw [goneV_get, hg]; rfl)
  rw [← hpn] at HPV HT1 HT2
  have HPN := Lib.hid hpn
  clear q0 c4 c6 c7 hgeo h hm hb hp hg hF k1 k2 k3 hpn
  go_enter Tryz.func137, Tryz.ntmps137
  go_wp2_with fail
  ((with_reducible refine (HV.out _).mono ?_))
  rintro e w1 ⟨rfl, hb1⟩
  obtain ⟨d0, d1, d2, d3, d4, d5, d6, d7⟩ := HC.out w1 hb1
  have hg1 := HG.out w1 hb1
  have hp1 := HQ.out w1 hb1
  have HB := Lib.hid hb1
  clear hb1 d6 d7 c0 c1 c2 c3 c5
  go_wp2_with (first
    | (at_lookup; refine wpList_lookupF rfl _ _ _ rfl 3 keyF1 Tryz.underlying55 (.int .i64 0) (zeroI _) m hok rfl hg1 rfl _ HGV.out ?_)
    | (at_lookup; refine wpList_lookupF rfl _ _ _ rfl 28 keyF3 Tryz.underlying54 (.slice none 0 0) (zeroB _) (m, b, p) hok3 rfl hp1 rfl _ HPV.out ?_))
  have HB0 := Lib.hid (bel_drewN' HB.out)
  have hS0 : w1.drew.cell? ⟨s.rb, 3, none⟩ = some (.int .i64 (s.sz : Int)) := d3
  clear hg1 hp1 d0 d1 d2 d4 d5
  go_region_held3 (fun x => x.cell? ⟨s.rb, 3, none⟩ = some (.int .i64 (s.sz : Int))) (first | exact hS0 | exact hSa | exact hSb | go_keep)
    (first
      | (go_simp; go_at_call 105; ((with_reducible refine (HT1.out _ (by first | exact HB0.out | exact HBb.out)).mono ?_)); (intro e wa hr; obtain ⟨D, rfl, hDl, hDn, hDk, hba, hfar⟩ := part_ret' hr; have HD := Lib.hid (And.intro hDl (And.intro hDn (And.intro hDk (And.intro hba hfar)))); have HBa := Lib.hid (bel_trans (by first | exact HB0.out | exact HBb.out) hba); have hSa := (HC.out wa HBa.out).2.2.2.1; clear hr hDl hDn hDk hba hfar))
      | (go_simp; go_at_call 105; ((with_reducible refine (HT2.out _ (by first | exact HB0.out | exact HBa.out)).mono ?_)); (intro e wb hr; obtain ⟨O, rfl, hOl, hOn, hOk, hbb, hfar⟩ := part_ret' hr; have HO := Lib.hid (And.intro hOl (And.intro hOn (And.intro hOk (And.intro hbb hfar)))); have HBb := Lib.hid (bel_trans (by first | exact HB0.out | exact HBa.out) hbb); have hSb := (HC.out wb HBb.out).2.2.2.1; clear hr hOl hOn hOk hbb hfar)))
  all_goals
    go_wp2
    go_ret3
    obtain ⟨d1, d2, d3, d4, d5⟩ := HD.out
    obtain ⟨o1, o2, o3, o4, o5⟩ := HO.out
    first
      | exact ⟨D, O, rfl, d1.trans HL1.out.1, o1.trans HL2.out.1, d2.trans HL1.out.2, o2.trans HL2.out.2, d3.step o4, o3, (fun x hx => Nat.le_trans HB0.out.size (d5 x hx)), (fun x hx => Nat.le_trans HBa.out.size (o5 x hx)), HBb.out⟩
      | exact ⟨D, O, rfl, d1.trans HL1.out.1, o1.trans HL2.out.1, d2.trans HL1.out.2, o2.trans HL2.out.2, d3, o3.step d4, (fun x hx => Nat.le_trans HBb.out.size (d5 x hx)), (fun x hx => Nat.le_trans HB0.out.size (o5 x hx)), HBa.out⟩
set_option maxRecDepth 100000 in
set_option maxHeartbeats 1000000 in
theorem ramRead_none (h : Ram B s w) (m b p : Nat) (hm : m < s.n) (hb : b + 5 < s.bl) (hp : p < s.pg) (hg : s.gone m = 0) (hF : s.F (m, b, p) = none) :
    Calls Tryz.prog 137 #[.pointer (some ⟨s.rb, 0, none⟩), .int .i64 (m : Int), .int .i64 (b : Int), .int .i64 (p : Int)] w (ReadRet s (m, b, p) w) := by
  have hgeo := h.geo
  have HV := Lib.hid fun x : World => virtual_any (s.n : Int) (s.bl : Int) (s.pg : Int) (s.sz : Int) x (by omega) (by have := hgeo.2.2.2.1; omega)
  have HC := Lib.hid fun (x : World) (hx : Below w.heap.size w x) => (h.step hx).c
  have HG := Lib.hid fun (x : World) (hx : Below w.heap.size w x) => (h.step hx).goneF
  have HQ := Lib.hid fun (x : World) (hx : Below w.heap.size w x) => (h.step hx).pages
  have hb64 : s.bl ≤ 64 := by have := hgeo.2.2.2.1; omega
  have hp32 : s.pg ≤ 32 := by have := hgeo.2.2.2.2.2.1; omega
  have hs1 : 256 ≤ s.sz := by have := hgeo.2.2.2.2.2.2.1; omega
  have hs2 : s.sz ≤ 1024 := by have := hgeo.2.2.2.2.2.2.2.1; omega
  have hok3 : ok3 (m, b, p) := ⟨by have := hgeo.2.1; show m ≤ _; omega, by show b ≤ _; omega, by show p ≤ _; omega⟩
  have HP := Lib.hid (row_page_none hF)
  have HPV : Hid ((s.pageV (m, b, p)).getD (.slice none 0 0) = .slice none 0 0) := Lib.hid (by simp [RS.pageV, hF])
  obtain ⟨c0, c1, c2, c3, c4, c5, c6, c7⟩ := h.c
  have q0 : ∀ x : Nat, decide ((x : Int) < 0) = false := fun x => by simp
  have q0m := q0 m
  have q0b := q0 b
  have q0p := q0 p
  have q1 : decide ((s.n : Int) ≤ (m : Int)) = false := by simp; omega
  have q1' : decide (s.n ≤ m) = false := by simp; omega
  have q2 : decide ((s.bl : Int) - 5 ≤ (b : Int)) = false := by simp; omega
  have q3 : decide (s.pg ≤ p) = false := by simp; omega
  have hok : ok1 m := by unfold ok1; have := hgeo.2.1; omega
  have HGV : Hid ((s.goneV m).getD (.int .i64 0) = .int .i64 0) := Lib.hid (by rw [goneV_get, hg]; rfl)
  clear q0 c4 c6 c7 hgeo h hm hb hp hg hF
  go_enter Tryz.func137, Tryz.ntmps137
  go_wp2_with fail
  ((with_reducible refine (HV.out _).mono ?_))
  rintro e w1 ⟨rfl, hb1⟩
  obtain ⟨d0, d1, d2, d3, d4, d5, d6, d7⟩ := HC.out w1 hb1
  have hg1 := HG.out w1 hb1
  have hp1 := HQ.out w1 hb1
  have HB := Lib.hid hb1
  clear hb1 d6 d7 c0 c1 c2 c3 c5
  go_wp2_with (first
    | (at_lookup; refine wpList_lookupF rfl _ _ _ rfl 3 keyF1 Tryz.underlying55 (.int .i64 0) (zeroI _) m hok rfl hg1 rfl _ HGV.out ?_)
    | (at_lookup; refine wpList_lookupF rfl _ _ _ rfl 28 keyF3 Tryz.underlying54 (.slice none 0 0) (zeroB _) (m, b, p) hok3 rfl hp1 rfl _ HPV.out ?_))
  clear hg1 hp1 d0 d1 d2 d3 d4 d5
  obtain ⟨N, hN⟩ : ∃ N, N = s.sz + 64 := ⟨_, rfl⟩
  have HN := Lib.hid hN
  have hN1 : N ≤ 1088 := by omega
  clear hN
  go_loopw [11, 12] (fun v i wr => ∃ k : Nat, k ≤ N ∧ i = .int .i64 (k : Int) ∧ Own w.heap.size wr v (List.replicate k 255) ∧ Below w.heap.size w wr) (fun _ i _ => (N - intOf i).toNat)
  case atStart => exact ⟨0, Nat.zero_le _, rfl, own_nil _ _, HB.out⟩
  case round =>
    obtain ⟨k, hk, rfl, ho, hb⟩ := hrel
    obtain ⟨c0, c1, c2, c3, c4, c5, c6, c7⟩ := HC.out _ hb
    clear c0 c1 c2 c4 c5 c6 c7
    have hz := hb.size
    have hw : IntKind.i64.wrap ((s.sz : Int) + 64) = (N : Int) := by have := HN.out; rw [IntWalk.i64_in _ (by omega)]; omega
    by_cases hlt : k < N
    · have HO := Lib.hid ho
      have HBk := Lib.hid hb
      clear ho hb
      have hlt' : decide (k < N) = true := by simpa using hlt
      go_wp2_with (at_builtin; refine wpList_app rfl _ _ rfl w.heap.size _ (List.replicate k 255) rfl (own_alloc HO.out _) _ _ _ [255] rfl (row_one _ 255 (by decide)) (fun h => by cases h) (by simp; omega) (by simp; omega) ?_)
      intro v1 w2 hap
      have HR := Lib.hid (And.intro (show Own w.heap.size w2 v1 (List.replicate (k + 1) 255) by have := hap.own; rwa [List.replicate_succ']) ((bel_alloc HBk.out _).trans hap.below))
      clear hap hlt'
      go_wp2
      go_roundw
      case rel => exact ⟨k + 1, by omega, by go_num, HR.out.1, HR.out.2⟩
      case measure => simp [intOf]; omega
    · obtain rfl : k = N := by omega
      have hlt' : decide (k < k) = false := by simp
      obtain ⟨p0, hpv, hpl, hpn, hpk, hpf⟩ := part_own ho
      subst hpv
      have HB := Lib.hid hb
      have HPk := Lib.hid (And.intro hpl (And.intro hpn hpk))
      clear ho hb
      have hpn' : p0.n = s.sz + 64 := by rw [hpn]; simp; exact HN.out
      have HT1 := Lib.hid fun (x : World) (hx : Below wr.heap.size wr x) => part_at p0 0 s.sz x (hpk.keep hx (Nat.le_refl _)) (by omega) (by omega) (by omega)
      rw [show ((0 : Nat) : Int) = 0 from rfl] at HT1
      have HT2 := Lib.hid fun (x : World) (hx : Below wr.heap.size wr x) => part_at p0 s.sz 64 x (hpk.keep hx (Nat.le_refl _)) (by omega) (by omega) (by omega)
      rw [show ((64 : Nat) : Int) = 64 from rfl] at HT2
      have HL1 := Lib.hid (show (p0.l.drop 0).take s.sz = (s.page (m, b, p)).take s.sz ∧ ((p0.l.drop 0).take s.sz).length = s.sz by rw [HP.out, hpl, HN.out]; exact ⟨rfl, by simp⟩)
      have HL2 := Lib.hid (show (p0.l.drop s.sz).take 64 = (s.page (m, b, p)).drop s.sz ∧ ((p0.l.drop s.sz).take 64).length = 64 by rw [HP.out, hpl, HN.out]; exact ⟨List.take_of_length_le (by simp), by simp⟩)
      clear hpl hpn hpk hpf hpn'
      go_wp2_with fail
      have HB0 : Hid (Below wr.heap.size wr wr.drew) := Lib.hid (Below.refl _ _).drew
      have hS0 : wr.drew.cell? ⟨s.rb, 3, none⟩ = some (.int .i64 (s.sz : Int)) := c3
      go_region_held3 (fun x => x.cell? ⟨s.rb, 3, none⟩ = some (.int .i64 (s.sz : Int))) (first | exact hS0 | exact hSa | exact hSb | go_keep)
        (first
          | (go_simp; go_at_call 105; ((with_reducible refine (HT1.out _ (by first | exact HB0.out | exact HBb.out)).mono ?_)); (intro e wa hr; obtain ⟨D, rfl, hDl, hDn, hDk, hba, hfar⟩ := part_ret' hr; have HD := Lib.hid (And.intro hDl (And.intro hDn (And.intro hDk (And.intro hba hfar)))); have HBa := Lib.hid (bel_trans (by first | exact HB0.out | exact HBb.out) hba); have hSa := (HC.out wa (bel_trans HB.out HBa.out)).2.2.2.1; clear hr hDl hDn hDk hba hfar))
          | (go_simp; go_at_call 105; ((with_reducible refine (HT2.out _ (by first | exact HB0.out | exact HBa.out)).mono ?_)); (intro e wb hr; obtain ⟨O, rfl, hOl, hOn, hOk, hbb, hfar⟩ := part_ret' hr; have HO := Lib.hid (And.intro hOl (And.intro hOn (And.intro hOk (And.intro hbb hfar)))); have HBb := Lib.hid (bel_trans (by first | exact HB0.out | exact HBa.out) hbb); have hSb := (HC.out wb (bel_trans HB.out HBb.out)).2.2.2.1; clear hr hOl hOn hOk hbb hfar)))
      all_goals
        go_wp2
        go_ret3
        obtain ⟨d1, d2, d3, d4, d5⟩ := HD.out
        obtain ⟨o1, o2, o3, o4, o5⟩ := HO.out
        first
          | exact ⟨D, O, rfl, d1.trans HL1.out.1, o1.trans HL2.out.1, d2.trans HL1.out.2, o2.trans HL2.out.2, d3.step o4, o3, (fun x hx => Nat.le_trans (Nat.le_trans HB.out.size HB0.out.size) (d5 x hx)), (fun x hx => Nat.le_trans (Nat.le_trans HB.out.size HBa.out.size) (o5 x hx)), bel_trans HB.out HBb.out⟩
          | exact ⟨D, O, rfl, d1.trans HL1.out.1, o1.trans HL2.out.1, d2.trans HL1.out.2, o2.trans HL2.out.2, d3, o3.step d4, (fun x hx => Nat.le_trans (Nat.le_trans HB.out.size HBb.out.size) (d5 x hx)), (fun x hx => Nat.le_trans (Nat.le_trans HB.out.size HB0.out.size) (o5 x hx)), bel_trans HB.out HBa.out⟩
end
end Go.Proofs.YthgcjiocelcblaaGreat

namespace Go.Proofs.YthgcjiocelcblaaGreat
open Go.RowKit Go.Deep

theorem news_row' {w : World} {b off n : Nat} {bs : List Nat} (h : Row w (some ⟨b, off, none⟩) n bs) {m : Nat} (hm : m = n) (j : Nat) (u : Value) (hj : (bs.map u8v)[j]? = some u) : w.cell? ((⟨b, off, none⟩ : Addr).add j) = some u := by
  subst hm
  have hjm : j < bs.length := by
    rcases Nat.lt_or_ge j bs.length with q | q
    · exact q
    · rw [List.getElem?_eq_none (by simpa using q)] at hj; cases hj
  obtain ⟨b', off', e, hc⟩ := h.2.2 (by rw [← h.1]; omega)
  cases e
  have h3 := hc j (by rw [← h.1]; exact hjm)
  rw [List.getElem?_map, List.getElem?_eq_getElem hjm] at hj
  simp only [Option.map_some, Option.some.injEq] at hj
  rw [getD_in _ _ hjm] at h3
  rw [← hj]
  unfold Addr.add
  split
  · rename_i q; subst q; exact h3
  · exact h3
theorem heap_alloc_old' {w : World} {k : Nat} (h : k < w.heap.size) (o : Obj) : (w.alloc o).heap[k]? = w.heap[k]? := ((Below.refl w.heap.size w).alloc (Nat.le_refl _) o).block k h
theorem ownBlock_none {v : Value} (h : v.ownBlock = none) (k : Nat) : v.ownBlock ≠ some k := by rw [h]; simp
section
variable {B : Nat} {s : RS} {w : World}
/-- The members' order has grown. -/
def RS.more (s : RS) (v : Value) (m : Nat) : RS := { s with ord := v, ol := s.ol ++ [m] }
theorem ram_more (h : Ram B s w) (o : Obj) (w2 : World) (v : Value) (m : Nat) (own : w2.ownsRow B 3 1 v (s.ol ++ [m]).length (vals (s.ol ++ [m]))) (grow : (w.alloc o).grownBy w2 s.ord.ownBlock)
    (wh : v.ownBlock = s.ord.ownBlock ∨ v.ownBlock = some (w.alloc o).heap.size) : Ram B (s.more v m) (w2.setCell ⟨s.rb, 7, none⟩ v) ∧ RStep s w (s.more v m) (w2.setCell ⟨s.rb, 7, none⟩ v) ∧ w2.cell? ⟨s.rb, 7, none⟩ = some s.ord ∧ w2.frozen? ⟨s.rb, 7, none⟩ = false := by
  have hsz : w.heap.size ≤ w2.heap.size := Nat.le_trans (by simp) grow.size
  have hblk : ∀ k, k < w.heap.size → s.ord.ownBlock ≠ some k → w2.heap[k]? = w.heap[k]? := fun k hk hn => (grow.block k (by simp; omega) (fun e => hn e.symm)).trans (heap_alloc_old' hk o)
  have hbox : w2.heap[s.rb]? = w.heap[s.rb]? := hblk _ h.rlt h.sep.2.2.2.1
  have hob : ∀ k, k < w.heap.size → ¬ s.ob k → ¬ (s.more v m).ob k := by
    rintro k hk hn (e | e | e | e)
    · exact hn (Or.inl e)
    · exact hn (Or.inr (Or.inl e))
    · exact hn (Or.inr (Or.inr (Or.inl e)))
    · have e' : some k = v.ownBlock := e
      rcases wh with q | q
      · exact hn (Or.inr (Or.inr (Or.inr (e'.trans q))))
      · rw [q] at e'; simp at e'; omega
  have hkeep : ∀ k, k < w.heap.size → ¬ s.ob k → (w2.setCell ⟨s.rb, 7, none⟩ v).heap[k]? = w.heap[k]? := fun k hk hn =>
    (heap_setCell_other w2 ⟨s.rb, 7, none⟩ k v (fun e => hn (Or.inl e))).trans (hblk k hk (fun e => hn (Or.inr (Or.inr (Or.inr e.symm)))))
  have hvr : v.ownBlock ≠ some s.rb := by
    rcases wh with q | q
    · rw [q]; exact h.sep.2.2.2.1
    · rw [q]; have := h.rlt; simp; omega
  refine ⟨⟨?_, h.low, h.pages.same ?_, h.goneF.same ?_, fun k p hk hF => ?_, ownsRow_at own fun k hk => heap_setCell_other w2 _ k v (fun e => hvr ((show v.ownBlock = some k from hk).trans (congrArg some e))), ⟨h.sep.1, h.sep.2.1, h.sep.2.2.1, hvr, ?_, ?_⟩, h.geo⟩, ⟨grow.os, grow.tape, grow.output, by simpa using hsz, fun k hk hn => ⟨hob k hk hn, hkeep k hk hn⟩, rfl, rfl, rfl, rfl, rfl, rfl, rfl, rfl⟩, ?_, ?_⟩
  · exact heap_setCell_same w2 s.rb 7 _ _ v (hbox.trans h.box)
  · exact (heap_setCell_other w2 _ s.pb v (fun e => h.sep.1 e.symm)).trans (hblk _ h.pages.lt h.sep.2.2.2.2.1)
  · exact (heap_setCell_other w2 _ s.gb v (fun e => h.sep.2.1 e.symm)).trans (hblk _ h.goneF.lt h.sep.2.2.2.2.2)
  · obtain ⟨q1, q2, q3, q4⟩ := h.parts k p hk hF
    exact ⟨q1.at_ fun h0 x hx => hkeep _ (q1.lt h0 x hx) (q4 x hx), q2, q3, fun x hx => hob _ (q1.lt (by omega) x hx) (q4 x hx)⟩
  · rcases wh with q | q
    · show v.ownBlock ≠ some s.pb; rw [q]; exact h.sep.2.2.2.2.1
    · show v.ownBlock ≠ some s.pb; rw [q]; have := h.pages.lt; simp; omega
  · rcases wh with q | q
    · show v.ownBlock ≠ some s.gb; rw [q]; exact h.sep.2.2.2.2.2
    · show v.ownBlock ≠ some s.gb; rw [q]; have := h.goneF.lt; simp; omega
  · unfold World.cell?; simp only [hbox, h.box]; rfl
  · unfold World.frozen?; rw [hbox, h.box]; simp
/-- A page is there. -/
def RS.put (s : RS) (k : Nat × Nat × Nat) (p : PS) : RS := { s with F := fun j => if j = k then some p else s.F j }
theorem put_pageV (s : RS) (k : Nat × Nat × Nat) (p : PS) : (s.put k p).pageV = fun j => if j = k then some p.v else s.pageV j := by
  funext j
  unfold RS.pageV RS.put
  simp only
  split <;> rfl
theorem ram_put (h : Ram B s w) (w2 : World) (k : Nat × Nat × Nat) (p : PS) (hm : MapF ok3 kv3 s.pb (fun j => if j = k then some p.v else s.pageV j) w2) (grow : w.grownBy w2 (some s.pb)) (hp : PartOk w p) (hn : p.n = s.sz + 64) (hf : Far B p) (ho : ∀ x, p.a = some x → ¬ s.ob x.block) :
    Ram B (s.put k p) w2 ∧ RStep s w (s.put k p) w2 := by
  have hblk : ∀ j, j < w.heap.size → j ≠ s.pb → w2.heap[j]? = w.heap[j]? := fun j hj hn => grow.block j hj (fun e => hn (Option.some.inj e))
  refine ⟨⟨(hblk _ h.rlt h.sep.1).trans h.box, h.low, by rw [put_pageV]; exact hm, h.goneF.same (hblk _ h.goneF.lt (fun e => h.sep.2.2.1 e.symm)), fun j q hj hF => ?_, ownsRow_at h.ordF fun j hj => hblk j (h.ordF.lt j hj).2 (fun e => h.sep.2.2.2.2.1 ((show s.ord.ownBlock = some j from hj).trans (congrArg some e))), h.sep, h.geo⟩, grow.os, grow.tape, grow.output, grow.size, fun j hj hn => ⟨hn, hblk j hj (fun e => hn (Or.inr (Or.inl e)))⟩, rfl, rfl, rfl, rfl, rfl, rfl, rfl, rfl⟩
  have key : ∀ q : PS, PartOk w q → (∀ x, q.a = some x → ¬ s.ob x.block) → PartOk w2 q := fun q q1 q4 => q1.at_ fun h0 x hx => hblk _ (q1.lt h0 x hx) (fun e => q4 x hx (Or.inr (Or.inl e)))
  simp only [RS.put] at hF
  split at hF
  · obtain rfl := Option.some.inj hF
    exact ⟨key p hp ho, hn, hf, ho⟩
  · obtain ⟨q1, q2, q3, q4⟩ := h.parts j q hj hF
    exact ⟨key q q1 q4, q2, q3, q4⟩
def ProgRet (B : Nat) (s : RS) (m b p : Nat) (bs : List Nat) (w : World) (e : Ending) (w' : World) : Prop :=
  ∃ s', e = .returned (.int .i64 0) ∧ Ram B s' w' ∧ RStep s w s' w' ∧ s'.ol = s.ol ++ [m] ∧ s'.gone = s.gone ∧ (∀ j, j ≠ (m, b, p) → s'.F j = s.F j) ∧ ∃ q, s'.F (m, b, p) = some q ∧ q.l = bs
def DeadRet (B : Nat) (s : RS) (m : Nat) (w : World) (e : Ending) (w' : World) : Prop :=
  ∃ s', e = .returned (.int .i64 71) ∧ Ram B s' w' ∧ RStep s w s' w' ∧ s'.ol = s.ol ++ [m] ∧ s'.gone = s.gone ∧ s'.F = s.F
set_option maxRecDepth 100000 in
set_option maxHeartbeats 1000000 in
theorem ramProg_dead (h : Ram B s w) (hB : B ≤ w.heap.size) (m b p : Nat) (hm : m < s.n) (hb : b + 5 < s.bl) (hp : p < s.pg) (hg : s.gone m ≠ 0) (hol : s.ol.length ≤ 100000) (D O : PS) (hD : PartOk w D) (hO : PartOk w O) (hDn : D.n = s.sz) (hOn : O.n = 64) (hDo : ∀ x, D.a = some x → ¬ s.ob x.block) (hOo : ∀ x, O.a = some x → ¬ s.ob x.block) :
    Calls Tryz.prog 136 #[.pointer (some ⟨s.rb, 0, none⟩), .int .i64 (m : Int), .int .i64 (b : Int), .int .i64 (p : Int), .slice D.a s.sz D.c, .slice O.a 64 O.c] w (DeadRet B s m w) := by
  have hgeo := h.geo
  have HV := Lib.hid fun x : World => virtual_any (s.n : Int) (s.bl : Int) (s.pg : Int) (s.sz : Int) x (by omega) (by have := hgeo.2.2.2.1; omega)
  have HH := Lib.hid fun (x : World) (hx : Below w.heap.size w x) => h.step hx
  have hb64 : s.bl ≤ 64 := by have := hgeo.2.2.2.1; omega
  have hp32 : s.pg ≤ 32 := by have := hgeo.2.2.2.2.2.1; omega
  have hs1 : 256 ≤ s.sz := by have := hgeo.2.2.2.2.2.2.1; omega
  have hs2 : s.sz ≤ 1024 := by have := hgeo.2.2.2.2.2.2.2.1; omega
  have hok3 : ok3 (m, b, p) := ⟨by have := hgeo.2.1; show m ≤ _; omega, by show b ≤ _; omega, by show p ≤ _; omega⟩
  have hok : ok1 m := by unfold ok1; have := hgeo.2.1; omega
  have q0 : ∀ x : Nat, decide ((x : Int) < 0) = false := fun x => by simp
  have q0m := q0 m
  have q0b := q0 b
  have q0p := q0 p
  have q1 : decide ((s.n : Int) ≤ (m : Int)) = false := by simp; omega
  have q1' : decide (s.n ≤ m) = false := by simp; omega
  have q2 : decide ((s.bl : Int) - 5 ≤ (b : Int)) = false := by simp; omega
  have q3 : decide (s.pg ≤ p) = false := by simp; omega
  have q5 : ((s.sz : Int) != (s.sz : Int)) = false := by simp
  have q5' : ((s.sz : Int) == (s.sz : Int)) = true := by simp
  obtain ⟨c0, c1, c2, c3, c4, c5, c6, c7⟩ := h.c
  have HDP := Lib.hid fun (x : World) (hx : Below w.heap.size w x) => hD.keep hx (Nat.le_refl _)
  have HOP := Lib.hid fun (x : World) (hx : Below w.heap.size w x) => hO.keep hx (Nat.le_refl _)
  have HDO := Lib.hid (And.intro hDo hOo)
  have HDW := Lib.hid (And.intro hD hO)
  have HDN := Lib.hid (And.intro hDn hOn)
  have HG := Lib.hid hg
  have HOL := Lib.hid hol
  have hgp : 0 < s.gone m := by omega
  have q4 : decide ((0 : Int) < (s.gone m : Int)) = true := by simp; omega
  have q4' : decide (0 < s.gone m) = true := by simpa using hgp
  clear q0 c4 c5 c6 c7 hgeo h hm hb hp hg hol hD hO hDn hOn hDo hOo hgp
  go_enter Tryz.func136, Tryz.ntmps136
  go_wp2_with fail
  ((with_reducible refine (HV.out _).mono ?_))
  rintro e w1 ⟨rfl, hb1⟩
  have HH1 := Lib.hid (HH.out w1 hb1)
  obtain ⟨d0, d1, d2, d3, d4, d5, d6, d7⟩ := HH1.out.c
  have HB := Lib.hid hb1
  have hB1 : B ≤ w1.heap.size := Nat.le_trans hB hb1.size
  have hlt := HH1.out.rlt
  clear hb1 c0 c1 c2 c3
  go_wp2_with (at_builtin; refine wpList_appI rfl _ _ rfl B s.ord s.ol rfl (HH1.out.ordF.alloc _) ⟨w1.heap.size, 0, none⟩ m 1 rfl (cell_new1 _ _ _) (by simp; omega) (by have := HOL.out; omega) ?_)
  intro nv w2 own grow wh
  obtain ⟨gv, cv, rfl⟩ : ∃ gv cv, nv = .slice (some ⟨gv, 0, none⟩) (s.ol.length + 1) cv := by
    rcases own.2 with ⟨_, h0⟩ | ⟨g, cap, cur, e, _⟩
    · exact absurd h0 (by omega)
    · exact ⟨g, cap, e⟩
  obtain ⟨hr2, hs2, hc2, hf2⟩ := ram_more HH1.out _ w2 _ m (by rw [List.length_append, List.length_singleton]; exact own) grow (by simpa using wh)
  have HR2 := Lib.hid hr2
  have HS2 := Lib.hid hs2
  obtain ⟨e0, e1, e2, e3, e4, e5, e6, e7⟩ := hr2.c
  have hg2 := hr2.goneF
  clear own grow wh hr2 hs2 d0 d1 d2 d3 d4 d5 d6 d7 e0 e1 e2 e3 e4 e6 e7
  go_upto_region 4 with fail
  obtain ⟨w3, hw3⟩ : ∃ x, x = w2.setCell ⟨s.rb, 7, none⟩ (.slice (some ⟨gv, 0, none⟩) (s.ol.length + 1) cv) := ⟨_, rfl⟩
  rw [← hw3] at e5 hg2 HR2 HS2 ⊢
  clear hw3 hc2 hf2
  have e5 : w3.cell? ⟨s.rb, 5, none⟩ = some (.map (some s.gb)) := e5
  have hg2 : MapF ok1 kv1 s.gb s.goneV w3 := hg2
  go_wp2_with (at_lookup; refine wpList_lookupF rfl _ _ _ rfl 3 keyF1 Tryz.underlying55 (.int .i64 0) (zeroI _) m hok rfl hg2 rfl _ (goneV_get s m) ?_)
  go_wp2
  go_ret
  exact ⟨s.more (.slice (some ⟨gv, 0, none⟩) (s.ol.length + 1) cv) m, rfl, HR2.out, (RStep.of_below HB.out).trans HS2.out, rfl, rfl, rfl⟩
set_option maxRecDepth 100000 in
set_option maxHeartbeats 1000000 in
theorem ramProg_live (h : Ram B s w) (hB : B ≤ w.heap.size) (m b p : Nat) (hm : m < s.n) (hb : b + 5 < s.bl) (hp : p < s.pg) (hg : s.gone m = 0) (hol : s.ol.length ≤ 100000) (D O : PS) (hD : PartOk w D) (hO : PartOk w O) (hDn : D.n = s.sz) (hOn : O.n = 64) (hDo : ∀ x, D.a = some x → ¬ s.ob x.block) (hOo : ∀ x, O.a = some x → ¬ s.ob x.block) :
    Calls Tryz.prog 136 #[.pointer (some ⟨s.rb, 0, none⟩), .int .i64 (m : Int), .int .i64 (b : Int), .int .i64 (p : Int), .slice D.a s.sz D.c, .slice O.a 64 O.c] w (ProgRet B s m b p (D.l ++ O.l) w) := by
  have hgeo := h.geo
  have HV := Lib.hid fun x : World => virtual_any (s.n : Int) (s.bl : Int) (s.pg : Int) (s.sz : Int) x (by omega) (by have := hgeo.2.2.2.1; omega)
  have HH := Lib.hid fun (x : World) (hx : Below w.heap.size w x) => h.step hx
  have hb64 : s.bl ≤ 64 := by have := hgeo.2.2.2.1; omega
  have hp32 : s.pg ≤ 32 := by have := hgeo.2.2.2.2.2.1; omega
  have hs1 : 256 ≤ s.sz := by have := hgeo.2.2.2.2.2.2.1; omega
  have hs2 : s.sz ≤ 1024 := by have := hgeo.2.2.2.2.2.2.2.1; omega
  have hok3 : ok3 (m, b, p) := ⟨by have := hgeo.2.1; show m ≤ _; omega, by show b ≤ _; omega, by show p ≤ _; omega⟩
  have hok : ok1 m := by unfold ok1; have := hgeo.2.1; omega
  have q0 : ∀ x : Nat, decide ((x : Int) < 0) = false := fun x => by simp
  have q0m := q0 m
  have q0b := q0 b
  have q0p := q0 p
  have q1 : decide ((s.n : Int) ≤ (m : Int)) = false := by simp; omega
  have q1' : decide (s.n ≤ m) = false := by simp; omega
  have q2 : decide ((s.bl : Int) - 5 ≤ (b : Int)) = false := by simp; omega
  have q3 : decide (s.pg ≤ p) = false := by simp; omega
  have q5 : ((s.sz : Int) != (s.sz : Int)) = false := by simp
  have q5' : ((s.sz : Int) == (s.sz : Int)) = true := by simp
  obtain ⟨c0, c1, c2, c3, c4, c5, c6, c7⟩ := h.c
  have HDP := Lib.hid fun (x : World) (hx : Below w.heap.size w x) => hD.keep hx (Nat.le_refl _)
  have HOP := Lib.hid fun (x : World) (hx : Below w.heap.size w x) => hO.keep hx (Nat.le_refl _)
  have HDO := Lib.hid (And.intro hDo hOo)
  have HDW := Lib.hid (And.intro hD hO)
  have HDN := Lib.hid (And.intro hDn hOn)
  have HG := Lib.hid hg
  have HOL := Lib.hid hol
  have HGV : Hid ((s.goneV m).getD (.int .i64 0) = .int .i64 0) := Lib.hid (by rw [goneV_get, hg]; rfl)
  clear q0 c4 c5 c6 c7 hgeo h hm hb hp hg hol hD hO hDn hOn hDo hOo
  go_enter Tryz.func136, Tryz.ntmps136
  go_wp2_with fail
  ((with_reducible refine (HV.out _).mono ?_))
  rintro e w1 ⟨rfl, hb1⟩
  have HH1 := Lib.hid (HH.out w1 hb1)
  obtain ⟨d0, d1, d2, d3, d4, d5, d6, d7⟩ := HH1.out.c
  have HB := Lib.hid hb1
  have hB1 : B ≤ w1.heap.size := Nat.le_trans hB hb1.size
  have hlt := HH1.out.rlt
  clear hb1 c0 c1 c2 c3
  go_wp2_with (at_builtin; refine wpList_appI rfl _ _ rfl B s.ord s.ol rfl (HH1.out.ordF.alloc _) ⟨w1.heap.size, 0, none⟩ m 1 rfl (cell_new1 _ _ _) (by simp; omega) (by have := HOL.out; omega) ?_)
  intro nv w2 own grow wh
  obtain ⟨gv, cv, rfl⟩ : ∃ gv cv, nv = .slice (some ⟨gv, 0, none⟩) (s.ol.length + 1) cv := by
    rcases own.2 with ⟨_, h0⟩ | ⟨g, cap, cur, e, _⟩
    · exact absurd h0 (by omega)
    · exact ⟨g, cap, e⟩
  obtain ⟨hr2, hs2, hc2, hf2⟩ := ram_more HH1.out _ w2 _ m (by rw [List.length_append, List.length_singleton]; exact own) grow (by simpa using wh)
  have HR2 := Lib.hid hr2
  have HS2 := Lib.hid hs2
  obtain ⟨e0, e1, e2, e3, e4, e5, e6, e7⟩ := hr2.c
  have hg2 := hr2.goneF
  have hp2 := hr2.pages
  clear own grow wh hr2 hs2 d0 d1 d2 d3 d4 d5 d6 d7 e0 e1 e2 e3 e6 e7
  go_upto_region 4 with fail
  obtain ⟨w3, hw3⟩ : ∃ x, x = w2.setCell ⟨s.rb, 7, none⟩ (.slice (some ⟨gv, 0, none⟩) (s.ol.length + 1) cv) := ⟨_, rfl⟩
  rw [← hw3] at e4 e5 hg2 hp2 HR2 HS2 ⊢
  clear hw3 hc2 hf2
  have e4 : w3.cell? ⟨s.rb, 4, none⟩ = some (.map (some s.pb)) := e4
  have e5 : w3.cell? ⟨s.rb, 5, none⟩ = some (.map (some s.gb)) := e5
  have hg2 : MapF ok1 kv1 s.gb s.goneV w3 := hg2
  have hp2 : MapF ok3 kv3 s.pb s.pageV w3 := hp2
  have hst : RStep s w (s.more (.slice (some ⟨gv, 0, none⟩) (s.ol.length + 1) cv) m) w3 := (RStep.of_below HB.out).trans HS2.out
  have HST := Lib.hid hst
  have key : ∀ q : PS, PartOk w q → 0 < q.n → (∀ x, q.a = some x → ¬ s.ob x.block) → PartOk w3 q ∧ ∀ x, q.a = some x → ¬ (s.more (.slice (some ⟨gv, 0, none⟩) (s.ol.length + 1) cv) m).ob x.block := fun q q1 q2 q3 =>
    ⟨q1.at_ fun h0 x hx => (HST.out.block _ (q1.lt h0 x hx) (q3 x hx)).2, fun x hx => (HST.out.block _ (q1.lt q2 x hx) (q3 x hx)).1⟩
  obtain ⟨kd1, kd2⟩ := key D HDW.out.1 (by rw [HDN.out.1]; omega) HDO.out.1
  obtain ⟨ko1, ko2⟩ := key O HDW.out.2 (by rw [HDN.out.2]; omega) HDO.out.2
  have hT := part_at D 0 s.sz
  have HT : Hid (∀ x : World, Below w3.heap.size w3 x → Calls Tryz.prog 105 #[.slice D.a s.sz D.c, .int .i64 0, .int .i64 (s.sz : Int)] x (RetOwn x D.l)) := Lib.hid fun x hx => by
    have := part_at D 0 s.sz x (kd1.keep hx (Nat.le_refl _)) (by omega) (by have := HDN.out.1; omega) (by have := HDN.out.1; omega)
    rw [HDN.out.1, show ((0 : Nat) : Int) = 0 from rfl, List.drop_zero, List.take_of_length_le (by have := kd1.1.1; have := HDN.out.1; omega)] at this
    exact this
  have HDL : Hid (D.l.length = s.sz) := Lib.hid (by rw [kd1.1.1]; exact HDN.out.1)
  have HOLL : Hid (O.l.length = 64) := Lib.hid (by rw [ko1.1.1]; exact HDN.out.2)
  obtain ⟨ob, oo, hOa⟩ : ∃ ob oo, O.a = some ⟨ob, oo, none⟩ := by
    obtain ⟨b', off', e, _⟩ := ko1.1.2.2 (by rw [HDN.out.2]; omega)
    exact ⟨b', off', e⟩
  have HOR : Hid (∀ x : World, Below w3.heap.size w3 x → Row x (some ⟨ob, oo, none⟩) 64 O.l) := Lib.hid fun x hx => by
    have := (ko1.keep hx (Nat.le_refl _)).1
    rwa [hOa, HDN.out.2] at this
  have HBY : Hid ((∀ x ∈ D.l, x < 256) ∧ ∀ x ∈ O.l, x < 256) := Lib.hid ⟨kd1.1.2.1, ko1.1.2.1⟩
  have HLV : Hid (s.pb < w3.heap.size ∧ s.rb < w3.heap.size) := Lib.hid ⟨hp2.lt, HR2.out.rlt⟩
  have HRP : Hid (s.rb ≠ s.pb) := Lib.hid HR2.out.sep.1
  rw [hOa]
  obtain ⟨oc, hoc⟩ : ∃ oc, oc = O.c := ⟨_, rfl⟩
  rw [← hoc]
  clear hst key kd1 kd2 ko1 ko2 hT hoc hOa
  obtain ⟨i0, hi0, hz0, hz1, hz2⟩ := info_parts info_u8
  go_wp2_with (at_lookup; refine wpList_lookupF rfl _ _ _ rfl 3 keyF1 Tryz.underlying55 (.int .i64 0) (zeroI _) m hok rfl hg2 rfl _ HGV.out ?_)
  have hS0 : w3.drew.cell? ⟨s.rb, 4, none⟩ = some (.map (some s.pb)) := e4
  have HB0 : Hid (Below w3.heap.size w3 w3.drew) := Lib.hid (Below.refl _ _).drew
  clear hg2 e4 e5 hlt
  go_region_held3 (fun x => x.cell? ⟨s.rb, 4, none⟩ = some (.map (some s.pb))) (first | exact hS0 | exact hS5 | exact hS6 | exact hS7 | go_keep)
    (first
      | (go_simp; go_at_call 105; ((with_reducible refine (HT.out _ HB0.out).mono ?_)); (intro e w5 hr; obtain ⟨ra, rc, rfl, _, _, ho5, hb5'⟩ := retOwn_len hr; have hb5 := bel_trans HB0.out hb5'; have HB5 := Lib.hid hb5; have hS5 : w5.cell? ⟨s.rb, 4, none⟩ = some (.map (some s.pb)) := (hb5.cell (p := ⟨s.rb, 4, none⟩) HLV.out.2).trans hS0; have ho5' := ho5.1; rw [HDL.out] at ho5' ⊢; have hn5 := news_row' (HOR.out _ hb5) rfl; have HFW := Lib.hid hb5'.size; clear hr hb5 hb5' ho5))
      | (refine step_append_lies _ (by rfl) _ _ _ (by rfl) w3.heap.size 5 i0 _ 1 1 Tryz.underlying28 hi0 hz0 hz1 hz2 rfl (by omega) (.slice ra s.sz rc) s.sz (D.l.map u8v) (by rfl) ho5' ⟨ob, oo, none⟩ 64 oc (O.l.map u8v) (by rfl) (by rw [List.length_map, HOLL.out]) hn5 (by intro v hv; rw [List.mem_map] at hv; obtain ⟨y, _, rfl⟩ := hv; rfl) (by omega) (by unfold maxLen; omega) (by omega) HB5.out.size w5.heap.size rfl ?_; (intro gg gcap w6 ho6 hg6 hat6 hlt6; have hb6 := HB5.out.grown hg6 HB5.out.size (fun x hx => (ho5'.lt x hx).1); have hS6 : w6.cell? ⟨s.rb, 4, none⟩ = some (.map (some s.pb)) := (hb6.cell (p := ⟨s.rb, 4, none⟩) HLV.out.2).trans hS0; have HB6 := Lib.hid hb6; have hp6 := hp2.same (hb6.block _ HLV.out.1); have HO6 := Lib.hid ho6; have HG6 := Lib.hid (And.intro hat6 hlt6); obtain ⟨w7, hrun, hm7, hg7, hz7⟩ := hp6.update keyF3 Tryz.underlying54 hok3 (.slice (some ⟨gg, 0, none⟩) (s.sz + 64) gcap); simp only [kv3] at hrun; have hS7 : w7.cell? ⟨s.rb, 4, none⟩ = some (.map (some s.pb)) := (hg7.cell_far ⟨s.rb, 4, none⟩ (Nat.lt_of_lt_of_le HLV.out.2 HB6.out.size) (fun e => HRP.out (Option.some.inj e))).trans hS6; have HM7 := Lib.hid (And.intro hm7 hg7); clear hm7 hg7 hz7 hb6 ho6 hg6 hat6 hlt6)))
  all_goals
    have hown : Own w3.heap.size w6 (.slice (some ⟨gg, 0, none⟩) (s.sz + 64) gcap) (D.l ++ O.l) := by
      refine ⟨?_, fun x hx => ?_⟩
      · rw [List.length_append, HDL.out, HOLL.out, List.map_append]; exact HO6.out
      · rcases List.mem_append.1 hx with q | q
        · exact HBY.out.1 x q
        · exact HBY.out.2 x q
    obtain ⟨p0, hpv, hpl, hpn, hpk, hpf⟩ := part_own hown
    have hr6 := HR2.out.step HB6.out
    have hpn' : p0.n = s.sz + 64 := by rw [hpn, List.length_append, HDL.out, HOLL.out]
    obtain ⟨hr7, hs7⟩ := ram_put hr6 w7 (m, b, p) p0 (by have := HM7.out.1; rw [hpv] at this; exact this) HM7.out.2 hpk hpn' (fun x hx => Nat.le_trans (by have := HST.out.size; omega) (hpf x hx)) (fun x hx => by
      have h1 := hpf x hx
      rintro (e | e | e | e)
      · have := HLV.out.2; have e' : x.block = s.rb := e; omega
      · have := HLV.out.1; have e' : x.block = s.pb := e; omega
      · have := HR2.out.goneF.lt; have e' : x.block = (s.more (.slice (some ⟨gv, 0, none⟩) (s.ol.length + 1) cv) m).gb := e; omega
      · have := (HR2.out.ordF.lt _ e.symm).2; omega)
    have HF := Lib.hid (And.intro hr7 (And.intro ((HST.out.trans (RStep.of_below HB6.out)).trans hs7) hpl))
    clear hown hpv hpn hpk hpf hr6 hpn' hr7 hs7 hS0 hp2
    go_wp2
    go_ret
    exact ⟨(s.more (.slice (some ⟨gv, 0, none⟩) (s.ol.length + 1) cv) m).put (m, b, p) p0, rfl, HF.out.1, HF.out.2.1, rfl, rfl, fun j hj => by simp only [RS.put]; rw [if_neg hj]; rfl, p0, by simp [RS.put], HF.out.2.2⟩
end
end Go.Proofs.YthgcjiocelcblaaGreat
