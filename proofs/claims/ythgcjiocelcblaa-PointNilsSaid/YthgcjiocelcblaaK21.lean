/- Parts of the proof: ParMath, RRefOpen, ParOfHdr, CaseS. -/
import Derived.Test.YthgcjiocelcblaaK17
import Derived.Test.YthgcjiocelcblaaK12
import Derived.Test.YthgcjiocelcblaaK14
import Derived.Test.YthgcjiocelcblaaK02
import Derived.Deep.DeepCutAuto
import Derived.Test.YthgcjiocelcblaaK03
import Derived.Test.YthgcjiocelcblaaK16
namespace Go.Proofs.Ythgcjiocelcblaa
open Go.RowKit

theorem xor_back {R S : List (List Nat)} {x : List Nat} {m : Nat} (hR : ∀ y ∈ R, y.length ≤ m) (hS : ∀ y ∈ S, y.length ≤ m) (hxS : x ∈ S) (hx : x.length = m) (h : ∀ j, xatL j S = xatL j R ^^^ x.getD j 0) : xorL (R ++ [xorL S]) = x := by
  apply list_ext_getD
  · rw [xorL_len, lgL_append, lgL, lgL, xorL_len, Nat.max_zero, hx]
    have h1 := lgL_le hR
    have h2 := lgL_le hS
    have h3 := lgL_mem hxS
    omega
  · intro j
    rw [xorL_getD, xatL_append, xatL, xatL, xorL_getD, h j, Nat.xor_zero, ← Nat.xor_assoc, Nat.xor_self, Nat.zero_xor]
theorem xat_reverse (j : Nat) (A : List (List Nat)) : xatL j A.reverse = xatL j A := xatL_reverse j A
/-- All but number k, the last first. -/
def restOf (G : List PG) (k : Nat) : List PG := (G.take k ++ G.drop (k + 1)).reverse
theorem split_at (G : List PG) (k : Nat) (hk : k < G.length) : G = G.take k ++ (G.getD k PG.nil :: G.drop (k + 1)) := by
  have h : G.getD k PG.nil = G[k] := by simp [List.getD, hk]
  rw [h, ← List.drop_eq_getElem_cons hk, List.take_append_drop]
theorem rest_mem {G : List PG} {k : Nat} {g : PG} (h : g ∈ restOf G k) : g ∈ G := by
  unfold restOf at h
  rw [List.mem_reverse, List.mem_append] at h
  rcases h with h | h
  · exact List.mem_of_mem_take h
  · exact List.mem_of_mem_drop h
theorem rest_len (G : List PG) (k : Nat) (hk : k < G.length) : (restOf G k).length = G.length - 1 := by
  unfold restOf
  simp; omega
theorem xat_rest (f : PG → List Nat) (G : List PG) (k j : Nat) (hk : k < G.length) : xatL j (G.map f) = xatL j ((restOf G k).map f) ^^^ (f (G.getD k PG.nil)).getD j 0 := by
  have e := split_at G k hk
  generalize G.getD k PG.nil = g at *
  unfold restOf
  rw [List.map_reverse, xat_reverse, List.map_append, xatL_append]
  conv => lhs; rw [e]
  rw [List.map_append, xatL_append, List.map_cons, xatL, Nat.xor_assoc]
  congr 1
  exact Nat.xor_comm _ _
/-- Pages that are sealed, with nothing more beside them, all of one size. -/
structure Sealed (G : List PG) (size : Nat) : Prop where
  len : ∀ g ∈ G, g.d.l.length = size
  sealed : ∀ g ∈ G, ∃ h : RH, h.Fits ∧ (1 ≤ h.ki ∧ h.ki ≤ 6) ∧ g.o.l = sealB h g.d.l []
theorem tailB_nil : tailB [] = List.replicate 32 0 := by decide
theorem seal_halves (h : RH) (d : List Nat) : (sealB h d []).take 32 ++ List.replicate 32 0 = sealB h d [] := by
  rw [← tailB_nil, ← drop_seal h d []]
  exact List.take_append_drop 32 _
theorem hs_len {G : List PG} {size : Nat} (hG : Sealed G size) : ∀ y ∈ hsOf G, y.length = 32 := by
  intro y hy
  unfold hsOf at hy
  rw [List.mem_map] at hy
  obtain ⟨g, hg, rfl⟩ := hy
  obtain ⟨h, _, _, e⟩ := hG.sealed g hg
  rw [e, List.length_take, sealB_len]; rfl
theorem ds_len {G : List PG} {size : Nat} (hG : Sealed G size) : ∀ y ∈ dsOf G, y.length = size := by
  intro y hy
  unfold dsOf at hy
  rw [List.mem_map] at hy
  obtain ⟨g, hg, rfl⟩ := hy
  exact hG.len g hg
theorem getD_mem' (G : List PG) (k : Nat) (hk : k < G.length) : G.getD k PG.nil ∈ G := by simp [List.getD, hk]
theorem sealed_rest {G : List PG} {size : Nat} (hG : Sealed G size) (k : Nat) : Sealed (restOf G k) size := ⟨fun g hg => hG.len g (rest_mem hg), fun g hg => hG.sealed g (rest_mem hg)⟩
theorem len_hs {G : List PG} {size : Nat} (hG : Sealed G size) (h0 : 0 < G.length) : (xorL (hsOf G)).length = 32 := by
  rw [xorL_len]
  have h1 := lgL_le (a := hsOf G) (m := 32) fun x hx => by rw [hs_len hG x hx]; exact Nat.le_refl _
  have h2 : (G.getD 0 PG.nil).o.l.take 32 ∈ hsOf G := by
    unfold hsOf; rw [List.mem_map]; exact ⟨_, getD_mem' G 0 h0, rfl⟩
  have h3 := lgL_mem h2
  rw [hs_len hG _ h2] at h3
  omega
section
variable {G : List PG} {size : Nat} (hG : Sealed G size) {W : RH} (hW : W.Fits) (h5 : W.ki = 5) {k : Nat} (hk : k < G.length) {w : PG} (hd : w.d.l = xorL (dsOf G)) (ho : w.o.l = sealB W (xorL (dsOf G)) (xorL (hsOf G)))
include hG hk hd
theorem back_d : outD w (restOf G k) = (G.getD k PG.nil).d.l := by
  unfold outD
  rw [hd]
  exact xor_back (m := size) (fun y hy => by rw [ds_len (sealed_rest hG k) y hy]; exact Nat.le_refl _) (fun y hy => by rw [ds_len hG y hy]; exact Nat.le_refl _)
    (by unfold dsOf; rw [List.mem_map]; exact ⟨_, getD_mem' G k hk, rfl⟩) (hG.len _ (getD_mem' G k hk)) (fun j => xat_rest (fun g => g.d.l) G k j hk)
omit hd
include ho
theorem back_o : outO w (restOf G k) = (G.getD k PG.nil).o.l := by
  obtain ⟨h, _, _, e⟩ := hG.sealed _ (getD_mem' G k hk)
  unfold outO
  have e1 : w.o.l.drop 32 = xorL (hsOf G) := by
    rw [ho, drop_seal, tailB_id (len_hs hG (by omega))]
  rw [e1]
  have e2 : xorL (hsOf (restOf G k) ++ [xorL (hsOf G)]) = (G.getD k PG.nil).o.l.take 32 :=
    xor_back (m := 32) (fun y hy => by rw [hs_len (sealed_rest hG k) y hy]; exact Nat.le_refl _) (fun y hy => by rw [hs_len hG y hy]; exact Nat.le_refl _)
      (by unfold hsOf; rw [List.mem_map]; exact ⟨_, getD_mem' G k hk, rfl⟩) (by rw [e, List.length_take, sealB_len]; rfl) (fun j => xat_rest (fun g => g.o.l.take 32) G k j hk)
  rw [e2, e]
  exact seal_halves h _
include hd
theorem back_ok : OpenOk (outD w (restOf G k)) (outO w (restOf G k)) := by
  rw [back_d hG hk hd, back_o hG hk ho]
  obtain ⟨h, hf, hki, e⟩ := hG.sealed _ (getD_mem' G k hk)
  rw [e]
  exact (openOk_seal hf _ _).2 hki
omit hG hk
include hW h5
theorem with_ok : OpenOk w.d.l w.o.l ∧ (takeH w.o.l).ki = 5 := by
  rw [hd, ho]
  exact ⟨(openOk_seal hW _ _).2 (by omega), by rw [takeH_seal hW]; exact h5⟩
end

end Go.Proofs.Ythgcjiocelcblaa

namespace Go.Proofs.Ythgcjiocelcblaa
open Go.RowKit

theorem step_odd' {k m S : Nat} (hk : k < 8) (hm : m < 4294967296) (hs : Crc.stps (8 - k) m = S) (h1 : m % 2 = 1) :
    Crc.stps (8 - (k + 1)) (m / 2 ^^^ 2197175160) = S ∧ m / 2 ^^^ 2197175160 < 4294967296 := by
  have h2 : Crc.stp m = m / 2 ^^^ 2197175160 := by unfold Crc.stp; rw [if_pos h1]
  rw [show 8 - k = (8 - (k + 1)) + 1 by omega] at hs
  exact ⟨by rw [← h2]; exact hs, by rw [← h2]; exact Crc.stp_lt hm⟩
theorem step_even' {k m S : Nat} (hk : k < 8) (hs : Crc.stps (8 - k) m = S) (h1 : ¬ m % 2 = 1) (hm : m < 4294967296) :
    Crc.stps (8 - (k + 1)) (m / 2) = S ∧ m / 2 < 4294967296 := by
  have h2 : Crc.stp m = m / 2 := by unfold Crc.stp; rw [if_neg h1]
  rw [show 8 - k = (8 - (k + 1)) + 1 by omega] at hs
  exact ⟨by rw [← h2]; exact hs, by omega⟩

end Go.Proofs.Ythgcjiocelcblaa

namespace Go.Proofs.Ythgcjiocelcblaa
open Go.RowKit

def RH.wide (h : RH) : Array Value := #[.int .i64 (h.ki : Int), .int .i64 (h.ep : Int), .int .i64 (h.ba : Int), .int .i64 (h.ix : Int), .int .i64 (h.ct : Int), .int .i64 (h.bl : Int), .int .i64 (h.mo : Int)]
/-- A header of wide numbers, in memory. -/
def WideAt (h : RH) (B : Nat) (w : World) : Prop := w.cell? ⟨B, 0, none⟩ = some (.int .i64 (h.ki : Int)) ∧ w.cell? ⟨B, 1, none⟩ = some (.int .i64 (h.ep : Int)) ∧ w.cell? ⟨B, 2, none⟩ = some (.int .i64 (h.ba : Int)) ∧ w.cell? ⟨B, 3, none⟩ = some (.int .i64 (h.ix : Int)) ∧ w.cell? ⟨B, 4, none⟩ = some (.int .i64 (h.ct : Int)) ∧ w.cell? ⟨B, 5, none⟩ = some (.int .i64 (h.bl : Int)) ∧ w.cell? ⟨B, 6, none⟩ = some (.int .i64 (h.mo : Int))
theorem WideAt.below {h : RH} {B B' : Nat} {w w' : World} (hh : WideAt h B w) (hb : Below B' w w') (hlt : B < B') : WideAt h B w' := by
  have hc : ∀ k, w'.cell? ⟨B, k, none⟩ = w.cell? ⟨B, k, none⟩ := fun k => hb.cell (p := ⟨B, k, none⟩) hlt
  unfold WideAt
  simp only [hc]
  exact hh
/-- The list that gabionref05.Seal lays ahead of the sum. -/
def refHead (h : RH) : List Nat := ((((((([] ++ Crc.les 2 22356) ++ [h.ki, 0]) ++ Crc.les 4 h.ep) ++ Crc.les 4 h.ba) ++ Crc.les 2 h.ix) ++ Crc.les 2 h.ct) ++ Crc.les 4 h.bl) ++ Crc.les 4 h.mo
theorem refHead_eq (h : RH) : refHead h = headB h := by simp [refHead, headB, List.append_assoc]

end Go.Proofs.Ythgcjiocelcblaa

namespace Go.Proofs.Ythgcjiocelcblaa
open Go.RowKit

theorem num_next (l : List Nat) (k : Nat) (hk : k < l.length) : leVal (l.take (k + 1)) = leVal (l.take k) + l.getD k 0 * 256 ^ k := by
  rw [take_snoc_getD l k hk, leVal_snoc, List.length_take, Nat.min_eq_left (by omega)]
end Go.Proofs.Ythgcjiocelcblaa

namespace Go.Proofs.Ythgcjiocelcblaa
open Go.RowKit

end Go.Proofs.Ythgcjiocelcblaa

namespace Go.Proofs.Ythgcjiocelcblaa
open Go.RowKit

/-- A header with another kind. -/
def RH.withKind (h : RH) (k : Nat) : RH := ⟨k, h.ep, h.ba, h.ix, h.ct, h.bl, h.mo⟩
theorem withKind_fits {h : RH} (hf : h.Fits) {k : Nat} (hk : k < 256) : (h.withKind k).Fits := ⟨hk, hf.ep, hf.ba, hf.ix, hf.ct, hf.bl, hf.mo⟩
theorem kind_wrap (k : Nat) (_ : k < 256) : IntKind.u8.wrap (1 + ((k : Int) % 6)) = ((1 + k % 6 : Nat) : Int) := by
  rw [IntKind.wrap_u8]; omega

end Go.Proofs.Ythgcjiocelcblaa

namespace Go.Proofs.Ythgcjiocelcblaa
open Go.RowKit

theorem info_pager : (Try.prog.info? 97).map (fun i => (i.zero, i.size, i.bytes)) = some (some (.agg #[.slice none 0 0, .slice none 0 0]), 2, 48) := by kernel_rfl
def PG.has (g : PG) (x : Addr) : Prop := g.d.a = some x ∨ g.o.a = some x
/-- Two slices of pages of the call's own, and the pages that are made. -/
structure CaseS (B : Nat) (u v : Value) (GU GV GA : List PG) (x : World) : Prop where
  own1 : OwnG 97 B x u GU
  own2 : OwnG 97 B x v GV
  ns : NoSh u v
  pages : ∀ g ∈ GA, PageOk x g
  apart : ∀ g ∈ GA, ∀ a, g.has a → B ≤ a.block ∧ a.block < x.heap.size ∧ u.ownBlock ≠ some a.block ∧ v.ownBlock ≠ some a.block
theorem CaseS.start (B : Nat) (x : World) : CaseS B (.slice none 0 0) (.slice none 0 0) [] [] [] x :=
  ⟨ownG_nil _ _ _, ownG_nil _ _ _, (fun q hq => by simp [Value.ownBlock] at hq), (fun g hg => by cases hg), fun g hg => by cases hg⟩
theorem OwnG.lt' {T : TypeId} {B : Nat} {w : World} {sv : Value} {G : List PG} (h : OwnG T B w sv G) : ∀ q, sv.ownBlock = some q → B ≤ q ∧ q < w.heap.size := h.lt
theorem CaseS.step {B : Nat} {u v : Value} {GU GV GA : List PG} {x y : World} (h : CaseS B u v GU GV GA x) (hb : Below x.heap.size x y) : CaseS B u v GU GV GA y :=
  ⟨h.own1.below hb, h.own2.below hb, h.ns, fun g hg => (h.pages g hg).keep hb (Nat.le_refl _), fun g hg a ha => by
    obtain ⟨h1, h2, h3⟩ := h.apart g hg a ha
    exact ⟨h1, Nat.lt_of_lt_of_le h2 hb.size, h3⟩⟩
/-- One more page, all in memory later than z. -/
theorem CaseS.more {B : Nat} {u v : Value} {GU GV GA : List PG} {x y : World} (h : CaseS B u v GU GV GA x) (hb : Below x.heap.size x y) (hB : B ≤ x.heap.size) {g : PG} (hg : PageOk y g) (hf : ∀ a, g.has a → x.heap.size ≤ a.block ∧ a.block < y.heap.size) : CaseS B u v GU GV (GA ++ [g]) y := by
  have h' := h.step hb
  refine ⟨h'.own1, h'.own2, h.ns, fun q hq => ?_, fun q hq a ha => ?_⟩
  · rcases List.mem_append.1 hq with hq | hq
    · exact h'.pages q hq
    · rw [List.mem_singleton.1 hq]; exact hg
  · rcases List.mem_append.1 hq with hq | hq
    · exact h'.apart q hq a ha
    · rw [List.mem_singleton.1 hq] at ha
      obtain ⟨h1, h2⟩ := hf a ha
      exact ⟨Nat.le_trans hB h1, h2, fun e => by have := (h.own1.lt' _ e).2; omega, fun e => by have := (h.own2.lt' _ e).2; omega⟩
theorem PageOk.grown {w w' : World} {g : PG} {row : Option Nat} (h : PageOk w g) (hg : w.grownBy w' row) (hne : ∀ a, g.has a → some a.block ≠ row) : PageOk w' g :=
  ⟨h.1.grown hg fun x hx => hne x (.inl hx), h.2.grown hg fun x hx => hne x (.inr hx)⟩
theorem CaseS.push1 {B : Nat} {u v u' : Value} {GU GV GA : List PG} {x y : World} {g : PG} (h : CaseS B u v GU GV GA x) (hap : ApdG 97 B x u (GU ++ [g]) u' y) : CaseS B u' v (GU ++ [g]) GV GA y := by
  refine ⟨hap.own, h.own2.kept hap.grown h.ns.ne, h.ns.step hap.where_ fun q hq => (h.own2.lt' q hq).2, fun q hq => (h.pages q hq).grown hap.grown fun a ha e => (h.apart q hq a ha).2.2.1 e.symm, fun q hq a ha => ?_⟩
  obtain ⟨h1, h2, h3, h4⟩ := h.apart q hq a ha
  refine ⟨h1, Nat.lt_of_lt_of_le h2 hap.grown.size, ?_, h4⟩
  rcases hap.where_ with e | e
  · rw [e]; exact h3
  · rw [e]; intro e'; simp only [Option.some.injEq] at e'; omega
theorem CaseS.push2 {B : Nat} {u v v' : Value} {GU GV GA : List PG} {x y : World} {g : PG} (h : CaseS B u v GU GV GA x) (hap : ApdG 97 B x v (GV ++ [g]) v' y) : CaseS B u v' GU (GV ++ [g]) GA y := by
  refine ⟨h.own1.kept hap.grown h.ns.symm.ne, hap.own, (h.ns.symm.step hap.where_ fun q hq => (h.own1.lt' q hq).2).symm, fun q hq => (h.pages q hq).grown hap.grown fun a ha e => (h.apart q hq a ha).2.2.2 e.symm, fun q hq a ha => ?_⟩
  obtain ⟨h1, h2, h3, h4⟩ := h.apart q hq a ha
  refine ⟨h1, Nat.lt_of_lt_of_le h2 hap.grown.size, h3, ?_⟩
  rcases hap.where_ with e | e
  · rw [e]; exact h4
  · rw [e]; intro e'; simp only [Option.some.injEq] at e'; omega
/-- Headers in memory. -/
def HdrC (h : RH) (b o : Nat) (w : World) : Prop := w.cell? ⟨b, o, none⟩ = some (.int .u8 (h.ki : Int)) ∧ w.cell? ⟨b, o + 1, none⟩ = some (.int .u32 (h.ep : Int)) ∧ w.cell? ⟨b, o + 2, none⟩ = some (.int .u32 (h.ba : Int)) ∧ w.cell? ⟨b, o + 3, none⟩ = some (.int .u16 (h.ix : Int)) ∧ w.cell? ⟨b, o + 4, none⟩ = some (.int .u16 (h.ct : Int)) ∧ w.cell? ⟨b, o + 5, none⟩ = some (.int .u32 (h.bl : Int)) ∧ w.cell? ⟨b, o + 6, none⟩ = some (.int .u32 (h.mo : Int))
def CellsH (w : World) (a : Option Addr) (H : List RH) : Prop := 0 < H.length → ∃ b off, a = some ⟨b, off, none⟩ ∧ ∀ i, i < H.length → HdrC (H.getD i RH.zero) b (off + i * 7) w
theorem cell_keep {W W' : World} {B b o : Nat} {v : Value} (h : W.cell? ⟨b, o, none⟩ = some v) (hb : Below B W W') (hB : W.heap.size ≤ B) : W'.cell? ⟨b, o, none⟩ = some v :=
  (hb.cell (p := ⟨b, o, none⟩) (Nat.lt_of_lt_of_le (World.block_lt_of_cell? W _ h) hB)).trans h
theorem CellsH.keep {W W' : World} {a : Option Addr} {H : List RH} {B : Nat} (h : CellsH W a H) (hb : Below B W W') (hB : W.heap.size ≤ B) : CellsH W' a H := fun h0 => by
  obtain ⟨b, off, e, hc⟩ := h h0
  refine ⟨b, off, e, fun i hi => ?_⟩
  obtain ⟨h0, h1, h2, h3, h4, h5, h6⟩ := hc i hi
  exact ⟨cell_keep h0 hb hB, cell_keep h1 hb hB, cell_keep h2 hb hB, cell_keep h3 hb hB, cell_keep h4 hb hB, cell_keep h5 hb hB, cell_keep h6 hb hB⟩
theorem CellsH.cell {W : World} {a : Option Addr} {H : List RH} (h : CellsH W a H) {k : Nat} (hk : k < H.length) : ∃ b off, a = some ⟨b, off, none⟩ ∧ HdrC (H.getD k RH.zero) b (off + k * 7) W := by
  obtain ⟨b, off, e, hc⟩ := h (by omega)
  exact ⟨b, off, e, hc k hk⟩
theorem own_parts {w w' : World} {bs : List Nat} {e : Ending} (h : RetOwn w bs e w') : ∃ p : PS, e = .returned (.slice p.a p.n p.c) ∧ p.l = bs ∧ p.n = bs.length ∧ PartOk w' p ∧ Below w.heap.size w w' ∧ ∀ x, p.a = some x → w.heap.size ≤ x.block ∧ x.block < w'.heap.size := by
  have h' := h
  obtain ⟨sv, e1, ho, _⟩ := h'
  obtain ⟨p, e2, h2, h3, h4, h5⟩ := part_ret h
  refine ⟨p, e2, h2, h3, h4, h5, fun x hx => ?_⟩
  have e3 : sv = .slice p.a p.n p.c := by
    rw [e1] at e2
    simpa using e2
  exact own_base ho x.block (by rw [e3, hx]; rfl)
/-- A part cut to its first m bytes. -/
def PS.cut (p : PS) (m : Nat) : PS := ⟨p.a, m, p.c, p.l.take m⟩
theorem cut_ok {W : World} {p : PS} (h : PartOk W p) {m : Nat} (hm : m ≤ p.n) : PartOk W (p.cut m) := by
  obtain ⟨⟨h1, h2, h3⟩, h4, h5, h6⟩ := h
  refine ⟨⟨?_, fun x hx => h2 x (List.mem_of_mem_take hx), fun h0 => ?_⟩, ?_, h5, h6⟩
  · simp only [PS.cut, List.length_take, h1]; omega
  · simp only [PS.cut] at h0 ⊢
    obtain ⟨b, off, e, hc⟩ := h3 (by omega)
    refine ⟨b, off, e, fun i hi => ?_⟩
    rw [hc i (by omega)]
    simp [List.getD, hi]
  · simp only [PS.cut]; omega
theorem pad_len {bs : List Nat} {m : Nat} : m ≤ (padTo bs (m : Int)).length := by
  unfold padTo; simp; omega
theorem sealed_more {G : List PG} {g : PG} {size : Nat} (hG : Sealed G size) (hl : g.d.l.length = size) {h : RH} (hf : h.Fits) (hk : 1 ≤ h.ki ∧ h.ki ≤ 6) (ho : g.o.l = sealB h g.d.l []) : Sealed (G ++ [g]) size := by
  refine ⟨fun q hq => ?_, fun q hq => ?_⟩
  · rcases List.mem_append.1 hq with hq | hq
    · exact hG.len q hq
    · rw [List.mem_singleton.1 hq]; exact hl
  · rcases List.mem_append.1 hq with hq | hq
    · exact hG.sealed q hq
    · rw [List.mem_singleton.1 hq]; exact ⟨h, hf, hk, ho⟩
theorem sealed_nil (size : Nat) : Sealed [] size := ⟨(fun q hq => by cases hq), fun q hq => by cases hq⟩

end Go.Proofs.Ythgcjiocelcblaa
