/- gabionref09.head. -/
import Derived.Test.YtnkkeffjnamcgaaCaseS
import Derived.Deep.RegionHeld3
import Derived.Deep.DeepMust
namespace Go.Proofs.Ytnkkeffjnamcgaa
open Go.RowKit

set_option maxRecDepth 100000 in
set_option maxHeartbeats 1600000 in
theorem refHead_any (da : Option Addr) (dn dc : Nat) (oa : Option Addr) (on oc : Nat) (hle : on ≤ oc) (hm : oc ≤ 2 ^ 63 - 1) (_ : oa = none → oc = 0) (w : World) :
    Calls Try.prog 35 #[.agg #[.slice da dn dc, .slice oa on oc]] w fun e w' => e = .returned (.slice oa (min on 32) oc) ∧ Below w.heap.size w w' := by
  by_cases h : 32 < on
  · have t1 : decide ((32 : Int) < (on : Int)) = true := by simp; omega
    have hmn : min on 32 = 32 := by omega
    have h32 : 32 ≤ oc := by omega
    have h33 : (32 : Int) ≤ (oc : Int) := by omega
    rw [hmn]
    clear hmn h
    go_enter Try.func35, Try.ntmps35
    go_wp2
    go_ret
    exact ⟨rfl, bel_alloc (Below.refl _ w) _⟩
  · have t1 : decide ((32 : Int) < (on : Int)) = false := by simp; omega
    have hmn : min on 32 = on := by omega
    rw [hmn]
    clear hmn h
    go_enter Try.func35, Try.ntmps35
    go_wp2
    go_ret
    exact ⟨rfl, bel_alloc (Below.refl _ w) _⟩
theorem refHead_page (g : PG) (w : World) (h : PageOk w g) : Hid (∀ x, Calls Try.prog 35 #[.agg #[.slice g.d.a g.d.n g.d.c, .slice g.o.a g.o.n g.o.c]] x fun e w' => e = .returned (.slice g.o.head.a g.o.head.n g.o.head.c) ∧ Below x.heap.size x w') :=
  Lib.hid fun x => refHead_any g.d.a g.d.n g.d.c g.o.a g.o.n g.o.c h.2.2.1 (by have := h.2.2.2.1; unfold maxLen at this; exact this) h.2.2.2.2 x

end Go.Proofs.Ytnkkeffjnamcgaa

namespace Go.Proofs.Ytnkkeffjnamcgaa
open Go.RowKit

/-- The law's header's box. -/
def WidC (h : RH) (p : Nat) (x : World) : Prop := x.cell? ⟨p, 0, none⟩ = some (.int .i64 (h.ki : Int)) ∧ x.cell? ⟨p, 1, none⟩ = some (.int .i64 (h.ep : Int)) ∧ x.cell? ⟨p, 2, none⟩ = some (.int .i64 (h.ba : Int)) ∧ x.cell? ⟨p, 3, none⟩ = some (.int .i64 (h.ix : Int)) ∧ x.cell? ⟨p, 4, none⟩ = some (.int .i64 (h.ct : Int)) ∧ x.cell? ⟨p, 5, none⟩ = some (.int .i64 (h.bl : Int)) ∧ x.cell? ⟨p, 6, none⟩ = some (.int .i64 (h.mo : Int))
/-- Both boxes. -/
def RfS (h : RH) (T : TypeId) (w : World) (x : World) : Prop := WidC h w.heap.size x ∧ x.heap[w.heap.size + 1]? = some (.cells #[.slice none 0 0, .slice none 0 0] T (0, 0)) ∧ Below w.heap.size w x
theorem WidC.step {h : RH} {p : Nat} {x y : World} (hs : WidC h p x) (hb : Below x.heap.size x y) : WidC h p y := by
  obtain ⟨h0, h1, h2, h3, h4, h5, h6⟩ := hs
  exact ⟨cell_st h0 hb, cell_st h1 hb, cell_st h2 hb, cell_st h3 hb, cell_st h4 hb, cell_st h5 hb, cell_st h6 hb⟩
theorem widC_at {h : RH} {x : World} {p : Nat} {T : TypeId} (hh : x.heap[p]? = some (.cells #[.int .i64 (h.ki : Int), .int .i64 (h.ep : Int), .int .i64 (h.ba : Int), .int .i64 (h.ix : Int), .int .i64 (h.ct : Int), .int .i64 (h.bl : Int), .int .i64 (h.mo : Int)] T (0, 0))) : WidC h p x := by
  unfold WidC
  simp [World.cell?, hh]
theorem RfS.step {h : RH} {T : TypeId} {w x y : World} (hs : RfS h T w x) (hb : Below x.heap.size x y) : RfS h T w y := ⟨hs.1.step hb, blk_step hs.2.1 hb, bel_trans hs.2.2 hb⟩
theorem rfS_new (h : RH) (w : World) : RfS h 41 w ((w.alloc (.cells #[.int .i64 (h.ki : Int), .int .i64 (h.ep : Int), .int .i64 (h.ba : Int), .int .i64 (h.ix : Int), .int .i64 (h.ct : Int), .int .i64 (h.bl : Int), .int .i64 (h.mo : Int)] 72)).alloc (.cells #[.slice none 0 0, .slice none 0 0] 41)) := by
  have h1 := heap_alloc_new w (.cells #[.int .i64 (h.ki : Int), .int .i64 (h.ep : Int), .int .i64 (h.ba : Int), .int .i64 (h.ix : Int), .int .i64 (h.ct : Int), .int .i64 (h.bl : Int), .int .i64 (h.mo : Int)] 72)
  have hw := widC_at (h := h) h1
  have h2 := heap_alloc_new (w.alloc (.cells #[.int .i64 (h.ki : Int), .int .i64 (h.ep : Int), .int .i64 (h.ba : Int), .int .i64 (h.ix : Int), .int .i64 (h.ct : Int), .int .i64 (h.bl : Int), .int .i64 (h.mo : Int)] 72)) (.cells #[.slice none 0 0, .slice none 0 0] 41)
  rw [World.size_alloc] at h2
  exact ⟨hw.step (bel_alloc (Below.refl _ _) _), h2, bel_alloc (bel_alloc (Below.refl _ w) _) _⟩
/-- What the two lists are while they grow. -/
structure TwoL (B : Nat) (u v : Value) (LU LV : List PS) (x : World) : Prop where
  own1 : OwnL B x u LU
  own2 : OwnL B x v LV
  ns : NoSh u v
theorem TwoL.step {B : Nat} {u v : Value} {LU LV : List PS} {x y : World} (h : TwoL B u v LU LV x) (hb : Below x.heap.size x y) : TwoL B u v LU LV y := ⟨h.own1.kept (row := none) ⟨hb.os, hb.tape, hb.output, hb.size, fun b hb' _ => hb.block b hb'⟩ (by cases hv : u.ownBlock <;> simp), h.own2.kept (row := none) ⟨hb.os, hb.tape, hb.output, hb.size, fun b hb' _ => hb.block b hb'⟩ (by cases hv : v.ownBlock <;> simp), h.ns⟩
theorem TwoL.push1 {B : Nat} {u v u' : Value} {LU LV M : List PS} {x y : World} (h : TwoL B u v LU LV x) (hap : ApdL B x u M u' y) : TwoL B u' v M LV y :=
  ⟨hap.own, h.own2.kept hap.grown h.ns.ne, h.ns.step hap.where_ fun q hq => (h.own2.lt' q hq).2⟩
theorem TwoL.push2 {B : Nat} {u v v' : Value} {LU LV M : List PS} {x y : World} (h : TwoL B u v LU LV x) (hap : ApdL B x v M v' y) : TwoL B u v' LU M y :=
  ⟨h.own1.kept hap.grown h.ns.symm.ne, hap.own, (h.ns.symm.step hap.where_ fun q hq => (h.own1.lt' q hq).2).symm⟩

end Go.Proofs.Ytnkkeffjnamcgaa
