/- cursor.Writer, made behind a world: what is laid in it. -/
import Derived.Test.YtnnaijeapapehaaPad
import Derived.Deep.DeepCutAuto
import Derived.Deep.RegionHeld3
namespace Go.Proofs.Ytnnaijeapapehaa
open Go.RowKit

/-- A writer that was made behind all that stands in w0: X is laid. -/
def WX (w0 : World) (X : List Nat) (x : World) : Prop := ∃ sv, WR w0.heap.size x w0.heap.size sv X ∧ Below w0.heap.size w0 x
theorem WX.size {w0 x : World} {X : List Nat} (h : WX w0 X x) : w0.heap.size ≤ x.heap.size := by
  obtain ⟨_, _, hb⟩ := h; exact hb.size
theorem WX.step {w0 x y : World} {X : List Nat} (h : WX w0 X x) (hb : Below x.heap.size x y) : WX w0 X y := by
  obtain ⟨sv, h1, h2⟩ := h
  exact ⟨sv, wr_keep h1 hb, h2.trans (hb.mono h2.size)⟩
theorem WX.bel {w0 x : World} {X : List Nat} (h : WX w0 X x) : Below w0.heap.size w0 x := h.elim fun _ h => h.2
theorem wx_new (w0 : World) : WX w0 [] (w0.alloc (.cells #[.slice none 0 0] 69)) :=
  ⟨_, ⟨Nat.le_refl _, heap_alloc_new _ _, own_nil _ _, by simp [Value.ownBlock]⟩, bel_alloc (Below.refl _ _) _⟩
theorem wx_of {w0 x y : World} {X : List Nat} {sv : Value} {e : Ending} (h : WR w0.heap.size x w0.heap.size sv X) (hb : Below w0.heap.size w0 x) {Y : List Nat} (hr : WRet x w0.heap.size w0.heap.size sv Y e y) : e = .returned (.pointer (some ⟨w0.heap.size, 0, none⟩)) ∧ WX w0 Y y := by
  obtain ⟨rfl, sv', h1, h2⟩ := hr
  exact ⟨rfl, sv', h1, hb.trans (h2.below h hb.size)⟩
theorem row_new1 (w : World) (n : Nat) (hn : n < 256) : Row (w.alloc (.cells #[.int .u8 (n : Int)] 5)) (some ⟨w.heap.size, 0, none⟩) 1 [n] := by
  refine ⟨rfl, by simpa using hn, fun _ => ⟨_, _, rfl, fun i hi => ?_⟩⟩
  obtain rfl : i = 0 := by omega
  exact cell_new1 w _ _
theorem wx_u8 {w0 x : World} {X : List Nat} (h : WX w0 X x) (hX : X.length ≤ 100000) (xa : Option Addr) (m c : Nat) (cs : List Nat) (hr : Row x xa m cs) (hc : xa = none → c = 0) (hm : m ≤ 1000) :
    Calls Try.prog 22 #[.pointer (some ⟨w0.heap.size, 0, none⟩), .slice xa m c] x fun e y => e = .returned (.pointer (some ⟨w0.heap.size, 0, none⟩)) ∧ WX w0 (X ++ cs) y := by
  obtain ⟨sv, h1, h2⟩ := h
  exact (wU8_any _ _ sv X x h1 h2.size xa m c cs hr hc (by omega)).mono fun e y hr => wx_of h1 h2 hr
theorem wx_far {B pw : Nat} {x : World} {X : List Nat} {sv : Value} (h : WR B x pw sv X) (k : Nat) (hk : sv.ownBlock = some k) : k < x.heap.size := (h.2.2.1.1.lt k hk).2
theorem wx_u32 {w0 x0 x : World} {X : List Nat} (h : WX w0 X x0) (hb : Below x0.heap.size x0 x) (hX : X.length ≤ 100000) (q m c : Nat) (hq : x0.heap.size ≤ q) (ns : List Nat) (hr : RowK .u32 4294967296 x (some ⟨q, 0, none⟩) m ns) (hm : m ≤ 1000) :
    Calls Try.prog 24 #[.pointer (some ⟨w0.heap.size, 0, none⟩), .slice (some ⟨q, 0, none⟩) m c] x fun e y => e = .returned (.pointer (some ⟨w0.heap.size, 0, none⟩)) ∧ WX w0 (X ++ ns.flatMap (Crc.les 4)) y ∧ ∀ k, x0.heap.size ≤ k → k < x.heap.size → y.heap[k]? = x.heap[k]? := by
  obtain ⟨sv, h1, h2⟩ := h
  have hl := (Array.getElem?_eq_some_iff.1 h1.2.1).1
  have hf := wx_far h1
  have h1' := wr_keep h1 hb
  have h2' := h2.trans (hb.mono h2.size)
  refine (wU32_any _ _ sv X x h1' h2'.size (some ⟨q, 0, none⟩) m c ns hr (fun _ z hz => ?_) (by omega) (by omega)).mono fun e y hr => ⟨(wx_of h1' h2' hr).1, (wx_of h1' h2' hr).2, fun k hk1 hk2 => ?_⟩
  · cases hz
    exact ⟨by show q ≠ _; omega, fun e => by have := hf q e.symm; omega⟩
  · obtain ⟨_, sv2, _, hmv⟩ := hr
    exact hmv.block k hk2 (by omega) (fun e => by have := hf k e.symm; omega)
theorem wx_u16 {w0 x0 x : World} {X : List Nat} (h : WX w0 X x0) (hb : Below x0.heap.size x0 x) (hX : X.length ≤ 100000) (q m c : Nat) (hq : x0.heap.size ≤ q) (ns : List Nat) (hr : RowK .u16 65536 x (some ⟨q, 0, none⟩) m ns) (hm : m ≤ 1000) :
    Calls Try.prog 23 #[.pointer (some ⟨w0.heap.size, 0, none⟩), .slice (some ⟨q, 0, none⟩) m c] x fun e y => e = .returned (.pointer (some ⟨w0.heap.size, 0, none⟩)) ∧ WX w0 (X ++ ns.flatMap (Crc.les 2)) y := by
  obtain ⟨sv, h1, h2⟩ := h
  have hl := (Array.getElem?_eq_some_iff.1 h1.2.1).1
  have hf := wx_far h1
  have h1' := wr_keep h1 hb
  have h2' := h2.trans (hb.mono h2.size)
  refine (wU16_any _ _ sv X x h1' h2'.size (some ⟨q, 0, none⟩) m c ns hr (fun _ z hz => ?_) (by omega) (by omega)).mono fun e y hr => wx_of h1' h2' hr
  cases hz
  exact ⟨by show q ≠ _; omega, fun e => by have := hf q e.symm; omega⟩
theorem wx_pad {w0 x : World} {X : List Nat} (h : WX w0 X x) (hX : X.length ≤ 100000) (n : Nat) (hn : n ≤ 100000) :
    Calls Try.prog 25 #[.pointer (some ⟨w0.heap.size, 0, none⟩), .int .i64 (n : Int)] x fun e y => e = .returned (.pointer (some ⟨w0.heap.size, 0, none⟩)) ∧ WX w0 (padTo X (n : Int)) y := by
  obtain ⟨sv, h1, h2⟩ := h
  exact (wPad_any _ _ sv X x h1 h2.size (n : Int) (by omega) (by omega) (by omega)).mono fun e y hr => wx_of h1 h2 hr
theorem wx_bytes {w0 x : World} {X : List Nat} (h : WX w0 X x) (hX : X.length ≤ 200000) :
    Calls Try.prog 26 #[.pointer (some ⟨w0.heap.size, 0, none⟩)] x (RetOwn x X) := by
  obtain ⟨sv, h1, _⟩ := h
  exact wBytes_any _ _ sv X x h1 (by omega)
theorem row_u8 {x : World} {q : Nat} {l : List Nat} (hl : ∀ y ∈ l, y < 256) (h : x.heap[q]? = some (.cells (l.map u8v).toArray 5 (0, 0))) : Row x (some ⟨q, 0, none⟩) l.length l := by
  refine ⟨rfl, hl, fun _ => ⟨q, 0, rfl, fun i hi => ?_⟩⟩
  simp [World.cell?, h, hi, u8v, List.getD]
theorem rowK_blk {K : IntKind} {M : Nat} {x : World} {q : Nat} {t : TypeId} {l : List Nat} (hl : ∀ y ∈ l, y < M) (h : x.heap[q]? = some (.cells (l.map fun (y : Nat) => Value.int K (y : Int)).toArray t (0, 0))) : RowK K M x (some ⟨q, 0, none⟩) l.length l := by
  refine ⟨rfl, hl, fun _ => ⟨q, 0, rfl, fun i hi => ?_⟩⟩
  simp [World.cell?, h, hi, List.getD]
theorem new_at2 (w : World) (o1 o2 : Obj) : ((w.alloc o1).alloc o2).drew.heap[w.heap.size + 1]? = some o2 := by
  have := heap_alloc_new (w.alloc o1) o2
  rw [show (w.alloc o1).heap.size = w.heap.size + 1 by simp] at this
  exact this
end Go.Proofs.Ytnnaijeapapehaa
