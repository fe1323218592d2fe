/- stripe: a line, and gather: what stands on each member. -/
import Derived.Test.YthgcjiocelcblaaGreatK27
namespace Go.Proofs.YthgcjiocelcblaaGreat
open Go.RowKit Go.Deep

def FD.cell (f : FD) (c : Nat) : Value := match c with
  | 0 => f.d.v
  | 1 => f.o.v
  | 2 => .int .u8 (f.h.ki : Int)
  | 3 => .int .u32 (f.h.ep : Int)
  | 4 => .int .u32 (f.h.ba : Int)
  | 5 => .int .u16 (f.h.ix : Int)
  | 6 => .int .u16 (f.h.ct : Int)
  | 7 => .int .u32 (f.h.bl : Int)
  | 8 => .int .u32 (f.h.mo : Int)
  | _ => .bool f.b
/-- The cells of what is found on members. -/
def fdC (F : Nat → FD) (j : Nat) : Value := (F (j / 10)).cell (j % 10)
def fdSet (F : Nat → FD) (m : Nat) (f : FD) : Nat → FD := fun i => if i = m then f else F i
theorem fdC_at (F : Nat → FD) (m c : Nat) (hc : c < 10) : fdC F (m * 10 + c) = (F m).cell c := by
  unfold fdC
  rw [show (m * 10 + c) / 10 = m by omega, show (m * 10 + c) % 10 = c by omega]
theorem fdC_set (F : Nat → FD) (m : Nat) (f : FD) (j : Nat) :
    (if j = m * 10 + 9 then Value.bool f.b else if j = m * 10 + 8 then .int .u32 (f.h.mo : Int) else if j = m * 10 + 7 then .int .u32 (f.h.bl : Int) else if j = m * 10 + 6 then .int .u16 (f.h.ct : Int) else if j = m * 10 + 5 then .int .u16 (f.h.ix : Int) else if j = m * 10 + 4 then .int .u32 (f.h.ba : Int) else if j = m * 10 + 3 then .int .u32 (f.h.ep : Int) else if j = m * 10 + 2 then .int .u8 (f.h.ki : Int) else if j = m * 10 + 1 then f.o.v else if j = m * 10 then f.d.v else fdC F j) = fdC (fdSet F m f) j := by
  by_cases h : j / 10 = m
  · obtain ⟨c, hc, rfl⟩ : ∃ c, c < 10 ∧ j = m * 10 + c := ⟨j % 10, by omega, by omega⟩
    have e : fdC (fdSet F m f) (m * 10 + c) = f.cell c := by rw [fdC_at _ _ _ hc]; unfold fdSet; rw [if_pos rfl]
    rw [e]
    rcases (by omega : c = 0 ∨ c = 1 ∨ c = 2 ∨ c = 3 ∨ c = 4 ∨ c = 5 ∨ c = 6 ∨ c = 7 ∨ c = 8 ∨ c = 9) with rfl | rfl | rfl | rfl | rfl | rfl | rfl | rfl | rfl | rfl <;> simp [FD.cell]
  · have e : fdC (fdSet F m f) j = fdC F j := by unfold fdC fdSet; rw [if_neg h]
    rw [e]
    repeat rw [if_neg (by omega)]
/-- A line's box. -/
def LineBox (lb : Nat) (s : RS) (seg row : Nat) (on : Value) (mi : Int) (x : World) : Prop :=
  x.heap[lb]? = some (.cells #[.int .i64 (s.n : Int), .int .i64 (s.bl : Int), .int .i64 (s.pg : Int), .int .i64 (s.sz : Int), .int .i64 (seg : Int), .int .i64 (row : Int), on, .int .i64 mi] 180 (0, 0))
/-- What was found on a member. -/
def FoundOk (s : RS) (k : Nat × Nat × Nat) (f : FD) (lo : Nat) (x : World) : Prop :=
  f.h = openH f.d.l f.o.l ∧ f.b = decide (OpenOk f.d.l f.o.l) ∧ f.d.l = (s.page k).take s.sz ∧ f.o.l = (s.page k).drop s.sz ∧ f.d.n = s.sz ∧ f.o.n = 64 ∧ PartOk x f.d ∧ PartOk x f.o ∧ Far lo f.d ∧ Far lo f.o
/-- A line whose members up to k were looked at. -/
structure LineI (W : World) (lb ob : Nat) (s : RS) (seg row : Nat) (oc : Nat) (mi : Int) (k : Nat) (F : Nat → FD) (x : World) : Prop where
  box : LineBox lb s seg row (.slice (some ⟨ob, 0, none⟩) s.n oc) mi x
  on : x.rowIs ob 184 (s.n * 10) (fdC F)
  found : ∀ m, m < k → (m : Int) ≠ mi → FoundOk s (m, seg, row) (F m) (ob + 1) x
  grown : W.grownBy x (some lb)
  lo : lb < W.heap.size ∧ W.heap.size ≤ ob
theorem FoundOk.at_ {s : RS} {k : Nat × Nat × Nat} {f : FD} {lo : Nat} {x y : World} (h : FoundOk s k f lo x) (he : ∀ b, lo ≤ b → b < x.heap.size → y.heap[b]? = x.heap[b]?) : FoundOk s k f lo y := by
  obtain ⟨h1, h2, h3, h4, h5, h6, h7, h8, h9, h10⟩ := h
  exact ⟨h1, h2, h3, h4, h5, h6, h7.at_ fun h0 a ha => he _ (h9 a ha) (h7.lt h0 a ha), h8.at_ fun h0 a ha => he _ (h10 a ha) (h8.lt h0 a ha), h9, h10⟩
theorem LineI.step {W : World} {lb ob : Nat} {s : RS} {seg row oc : Nat} {mi : Int} {k : Nat} {F : Nat → FD} {x y : World} (h : LineI W lb ob s seg row oc mi k F x) (hb : Below x.heap.size x y) : LineI W lb ob s seg row oc mi k F y := by
  refine ⟨(hb.block _ (Array.getElem?_eq_some_iff.1 h.box).1).trans h.box, h.on.of_block (hb.block _ h.on.lt), fun m hm hne => (h.found m hm hne).at_ fun b _ hb' => hb.block b hb', ⟨hb.os.trans h.grown.os, hb.tape.trans h.grown.tape, hb.output.trans h.grown.output, Nat.le_trans h.grown.size hb.size, fun b hb' hn => (hb.block b (Nat.lt_of_lt_of_le hb' h.grown.size)).trans (h.grown.block b hb' hn)⟩, h.lo⟩
theorem below_of_grown {w0 W x : World} {lb : Nat} (h0 : Below w0.heap.size w0 W) (hl : w0.heap.size ≤ lb) (hg : W.grownBy x (some lb)) : Below w0.heap.size w0 x :=
  ⟨hg.os.trans h0.os, hg.tape.trans h0.tape, hg.output.trans h0.output, Nat.le_trans h0.size hg.size, fun b hb => (hg.block b (Nat.lt_of_lt_of_le hb h0.size) (fun e => by have := Option.some.inj e; omega)).trans (h0.block b hb)⟩
theorem info_fd : (Tryz.prog.info? 184).map (fun i => (i.zero, i.size, i.bytes)) = some (some (.agg #[.slice none 0 0, .slice none 0 0, .int .u8 0, .int .u32 0, .int .u32 0, .int .u16 0, .int .u16 0, .int .u32 0, .int .u32 0, .bool false]), 10, 80) := by kernel_rfl
theorem eightL_at {W : World} {b : Nat} {v0 v1 v2 v3 v4 v5 v6 v7 : Value} {t : TypeId} (h : W.heap[b]? = some (.cells #[v0, v1, v2, v3, v4, v5, v6, v7] t (0, 0))) :
    W.cell? ⟨b, 0, none⟩ = some v0 ∧ W.cell? ⟨b, 1, none⟩ = some v1 ∧ W.cell? ⟨b, 2, none⟩ = some v2 ∧ W.cell? ⟨b, 3, none⟩ = some v3 ∧ W.cell? ⟨b, 4, none⟩ = some v4 ∧ W.cell? ⟨b, 5, none⟩ = some v5 ∧ W.cell? ⟨b, 6, none⟩ = some v6 ∧ W.cell? ⟨b, 7, none⟩ = some v7 := by
  simp [World.cell?, h]
section
variable {B : Nat} {s : RS} {w0 : World}
theorem ten_far (W : World) (b k : Nat) (h : k ≠ b) (o0 o1 o2 o3 o4 o5 o6 o7 o8 o9 : Nat) (u0 u1 u2 u3 u4 u5 u6 u7 u8 u9 : Value) : ((((((((((W.setCell ⟨b, o0, none⟩ u0).setCell ⟨b, o1, none⟩ u1).setCell ⟨b, o2, none⟩ u2).setCell ⟨b, o3, none⟩ u3).setCell ⟨b, o4, none⟩ u4).setCell ⟨b, o5, none⟩ u5).setCell ⟨b, o6, none⟩ u6).setCell ⟨b, o7, none⟩ u7).setCell ⟨b, o8, none⟩ u8).setCell ⟨b, o9, none⟩ u9).heap[k]? = W.heap[k]? := by
  repeat rw [heap_setCell_other _ _ k _ h]
theorem ten_keep2 {W : World} {k p q b : Nat} {v0 v1 : Value} {o0 o1 o2 o3 o4 o5 o6 o7 o8 o9 : Nat} {u0 u1 u2 u3 u4 u5 u6 u7 u8 u9 : Value} (h : W.cell? ⟨k, p, none⟩ = some v0 ∧ W.cell? ⟨k, q, none⟩ = some v1) (hne : k ≠ b) :
    ((((((((((W.setCell ⟨b, o0, none⟩ u0).setCell ⟨b, o1, none⟩ u1).setCell ⟨b, o2, none⟩ u2).setCell ⟨b, o3, none⟩ u3).setCell ⟨b, o4, none⟩ u4).setCell ⟨b, o5, none⟩ u5).setCell ⟨b, o6, none⟩ u6).setCell ⟨b, o7, none⟩ u7).setCell ⟨b, o8, none⟩ u8).setCell ⟨b, o9, none⟩ u9).cell? ⟨k, p, none⟩ = some v0 ∧ ((((((((((W.setCell ⟨b, o0, none⟩ u0).setCell ⟨b, o1, none⟩ u1).setCell ⟨b, o2, none⟩ u2).setCell ⟨b, o3, none⟩ u3).setCell ⟨b, o4, none⟩ u4).setCell ⟨b, o5, none⟩ u5).setCell ⟨b, o6, none⟩ u6).setCell ⟨b, o7, none⟩ u7).setCell ⟨b, o8, none⟩ u8).setCell ⟨b, o9, none⟩ u9).cell? ⟨k, q, none⟩ = some v1 :=
  ⟨(World.cell?_of_block (w := W) (a := ⟨k, p, none⟩) (ten_far W b k hne o0 o1 o2 o3 o4 o5 o6 o7 o8 o9 u0 u1 u2 u3 u4 u5 u6 u7 u8 u9)).trans h.1, (World.cell?_of_block (w := W) (a := ⟨k, q, none⟩) (ten_far W b k hne o0 o1 o2 o3 o4 o5 o6 o7 o8 o9 u0 u1 u2 u3 u4 u5 u6 u7 u8 u9)).trans h.2⟩
theorem keep11 {W Y : World} {l k b : Nat} {v v0 v1 v2 v3 v4 v5 v6 v7 v8 v9 : Value} (hY : ∀ y, y ≠ b → Y.heap[y]? = W.heap[y]?) (h : W.cell? ⟨l, 6, none⟩ = some v ∧ W.cell? ⟨k, 0, none⟩ = some v0 ∧ W.cell? ⟨k, 1, none⟩ = some v1 ∧ W.cell? ⟨k, 2, none⟩ = some v2 ∧ W.cell? ⟨k, 3, none⟩ = some v3 ∧ W.cell? ⟨k, 4, none⟩ = some v4 ∧ W.cell? ⟨k, 5, none⟩ = some v5 ∧ W.cell? ⟨k, 6, none⟩ = some v6 ∧ W.cell? ⟨k, 7, none⟩ = some v7 ∧ W.cell? ⟨k, 8, none⟩ = some v8 ∧ W.cell? ⟨k, 9, none⟩ = some v9) (hl : l ≠ b) (hk : k ≠ b) : Y.cell? ⟨l, 6, none⟩ = some v ∧ Y.cell? ⟨k, 0, none⟩ = some v0 ∧ Y.cell? ⟨k, 1, none⟩ = some v1 ∧ Y.cell? ⟨k, 2, none⟩ = some v2 ∧ Y.cell? ⟨k, 3, none⟩ = some v3 ∧ Y.cell? ⟨k, 4, none⟩ = some v4 ∧ Y.cell? ⟨k, 5, none⟩ = some v5 ∧ Y.cell? ⟨k, 6, none⟩ = some v6 ∧ Y.cell? ⟨k, 7, none⟩ = some v7 ∧ Y.cell? ⟨k, 8, none⟩ = some v8 ∧ Y.cell? ⟨k, 9, none⟩ = some v9 := by
  have key : ∀ y, y ≠ b → ∀ o z, W.cell? ⟨y, o, none⟩ = some z → Y.cell? ⟨y, o, none⟩ = some z := fun y hy o z hz => (World.cell?_of_block (w := W) (a := ⟨y, o, none⟩) (hY y hy)).trans hz
  obtain ⟨h, h0, h1, h2, h3, h4, h5, h6, h7, h8, h9⟩ := h
  exact ⟨key _ hl _ _ h, key _ hk _ _ h0, key _ hk _ _ h1, key _ hk _ _ h2, key _ hk _ _ h3, key _ hk _ _ h4, key _ hk _ _ h5, key _ hk _ _ h6, key _ hk _ _ h7, key _ hk _ _ h8, key _ hk _ _ h9⟩
/-- What a look leaves: its box, and the page that was found. -/
def Looked (s : RS) (k : Nat × Nat × Nat) (lo xb : Nat) (wr : World) (D O : PS) (H : RH) (bb : Bool) (x : World) : Prop :=
  x.heap[xb]? = some (.cells #[.slice D.a D.n D.c, .slice O.a O.n O.c, .int .u8 (H.ki : Int), .int .u32 (H.ep : Int), .int .u32 (H.ba : Int), .int .u16 (H.ix : Int), .int .u16 (H.ct : Int), .int .u32 (H.bl : Int), .int .u32 (H.mo : Int), .bool bb] 184 (0, 0)) ∧ FoundOk s k ⟨D, O, H, bb⟩ lo x ∧ Below wr.heap.size wr x ∧ wr.heap.size ≤ xb
theorem looked_new {s : RS} {k : Nat × Nat × Nat} {lo : Nat} {wr x : World} {D O : PS} {H : RH} {bb : Bool} (hf : FoundOk s k ⟨D, O, H, bb⟩ lo x) (hb : Below wr.heap.size wr x) :
    Looked s k lo x.heap.size wr D O H bb (x.alloc (.cells #[.slice D.a D.n D.c, .slice O.a O.n O.c, .int .u8 (H.ki : Int), .int .u32 (H.ep : Int), .int .u32 (H.ba : Int), .int .u16 (H.ix : Int), .int .u16 (H.ct : Int), .int .u32 (H.bl : Int), .int .u32 (H.mo : Int), .bool bb] 184)) :=
  ⟨heap_alloc_new x _, hf.at_ fun _ _ hb' => heap_alloc_old' hb' _, bel_alloc hb _, hb.size⟩
theorem looked_set {s : RS} {k : Nat × Nat × Nat} {lo xb : Nat} {wr x : World} {D O : PS} {H : RH} {bb : Bool} (hx : x.heap[xb]? = some (.cells #[.slice none 0 0, .slice none 0 0, .int .u8 0, .int .u32 0, .int .u32 0, .int .u16 0, .int .u16 0, .int .u32 0, .int .u32 0, .bool false] 184 (0, 0))) (hlo : xb < lo) (hw : wr.heap.size ≤ xb) (hf : FoundOk s k ⟨D, O, H, bb⟩ lo x) (hb : Below wr.heap.size wr x) :
    Looked s k lo xb wr D O H bb ((((((((((x.setCell ⟨xb, 0, none⟩ (.slice D.a D.n D.c)).setCell ⟨xb, 1, none⟩ (.slice O.a O.n O.c)).setCell ⟨xb, 2, none⟩ (.int .u8 (H.ki : Int))).setCell ⟨xb, 3, none⟩ (.int .u32 (H.ep : Int))).setCell ⟨xb, 4, none⟩ (.int .u32 (H.ba : Int))).setCell ⟨xb, 5, none⟩ (.int .u16 (H.ix : Int))).setCell ⟨xb, 6, none⟩ (.int .u16 (H.ct : Int))).setCell ⟨xb, 7, none⟩ (.int .u32 (H.bl : Int))).setCell ⟨xb, 8, none⟩ (.int .u32 (H.mo : Int))).setCell ⟨xb, 9, none⟩ (.bool bb)) := by
  refine ⟨?_, hf.at_ fun b _ _ => ten_far x xb b (by omega) 0 1 2 3 4 5 6 7 8 9 _ _ _ _ _ _ _ _ _ _, bel_ten hb xb hw _ _ _ _ _ _ _ _ _ _, hw⟩
  have h0 := heap_setCell_same x xb 0 _ _ (.slice D.a D.n D.c) hx
  have h1 := heap_setCell_same _ xb 1 _ _ (.slice O.a O.n O.c) h0
  have h2 := heap_setCell_same _ xb 2 _ _ (.int .u8 (H.ki : Int)) h1
  have h3 := heap_setCell_same _ xb 3 _ _ (.int .u32 (H.ep : Int)) h2
  have h4 := heap_setCell_same _ xb 4 _ _ (.int .u32 (H.ba : Int)) h3
  have h5 := heap_setCell_same _ xb 5 _ _ (.int .u16 (H.ix : Int)) h4
  have h6 := heap_setCell_same _ xb 6 _ _ (.int .u16 (H.ct : Int)) h5
  have h7 := heap_setCell_same _ xb 7 _ _ (.int .u32 (H.bl : Int)) h6
  have h8 := heap_setCell_same _ xb 8 _ _ (.int .u32 (H.mo : Int)) h7
  have h9 := heap_setCell_same _ xb 9 _ _ (.bool bb) h8
  simpa using h9
theorem FoundOk.mono {s : RS} {k : Nat × Nat × Nat} {f : FD} {lo lo' : Nat} {x : World} (h : FoundOk s k f lo x) (hl : lo' ≤ lo) : FoundOk s k f lo' x := by
  obtain ⟨h1, h2, h3, h4, h5, h6, h7, h8, h9, h10⟩ := h
  exact ⟨h1, h2, h3, h4, h5, h6, h7, h8, fun a ha => Nat.le_trans hl (h9 a ha), fun a ha => Nat.le_trans hl (h10 a ha)⟩
theorem Looked.mono {s : RS} {k : Nat × Nat × Nat} {lo lo' xb : Nat} {wr x : World} {D O : PS} {H : RH} {bb : Bool} (h : Looked s k lo xb wr D O H bb x) (hl : lo' ≤ lo) : Looked s k lo' xb wr D O H bb x := ⟨h.1, h.2.1.mono hl, h.2.2⟩
structure SameBut (ob : Nat) (x y : World) : Prop where
  heap : ∀ k, k ≠ ob → y.heap[k]? = x.heap[k]?
  os : y.os = x.os
  tape : y.tape = x.tape
  output : y.output = x.output
  size : y.heap.size = x.heap.size
theorem SameBut.refl (ob : Nat) (x : World) : SameBut ob x x := ⟨fun _ _ => rfl, rfl, rfl, rfl, rfl⟩
theorem SameBut.set {ob : Nat} {x y : World} (h : SameBut ob x y) (o : Nat) (v : Value) : SameBut ob x (y.setCell ⟨ob, o, none⟩ v) :=
  ⟨fun k hk => (heap_setCell_other y ⟨ob, o, none⟩ k v hk).trans (h.heap k hk), h.os, h.tape, h.output, (World.size_setCell _ _ _).trans h.size⟩
theorem lineI_put' {W : World} {lb ob : Nat} {s : RS} {seg row oc : Nat} {mi : Int} {k : Nat} {F : Nat → FD} {x : World} (h : LineI W lb ob s seg row oc mi k F x) (f : FD) (hf : FoundOk s (k, seg, row) f (ob + 1) x) (Y : World)
    (h1 : Y.rowIs ob 184 (s.n * 10) (fdC (fdSet F k f))) (h2 : ∀ y, y ≠ ob → Y.heap[y]? = x.heap[y]?) (h3 : Y.os = x.os ∧ Y.tape = x.tape ∧ Y.output = x.output ∧ Y.heap.size = x.heap.size) : LineI W lb ob s seg row oc mi (k + 1) (fdSet F k f) Y.drew := by
  have far : ∀ y, y ≠ ob → Y.drew.heap[y]? = x.heap[y]? := h2
  have hl := h.lo
  refine ⟨(far lb (by omega)).trans h.box, h1.drew, fun m hm hne => ?_, ⟨h3.1.trans h.grown.os, h3.2.1.trans h.grown.tape, h3.2.2.1.trans h.grown.output, Nat.le_trans h.grown.size (Nat.le_of_eq h3.2.2.2.symm), fun y hy hn => (far y (by omega)).trans (h.grown.block y hy hn)⟩, h.lo⟩
  by_cases hmk : m = k
  · subst hmk
    have e : fdSet F m f m = f := by unfold fdSet; rw [if_pos rfl]
    rw [e]
    exact hf.at_ fun b hb _ => far b (by omega)
  · have e : fdSet F k f m = F m := by unfold fdSet; rw [if_neg hmk]
    rw [e]
    exact (h.found m (by omega) hne).at_ fun b hb _ => far b (by omega)
theorem lineI_put {W : World} {lb ob : Nat} {s : RS} {seg row oc : Nat} {mi : Int} {k : Nat} {F : Nat → FD} {x : World} (h : LineI W lb ob s seg row oc mi k F x) (f : FD) (hf : FoundOk s (k, seg, row) f (ob + 1) x) :
    LineI W lb ob s seg row oc mi (k + 1) (fdSet F k f) (((((((((((x.setCell ⟨ob, k * 10, none⟩ (f.d.v)).setCell ⟨ob, k * 10 + 1, none⟩ (f.o.v)).setCell ⟨ob, k * 10 + 2, none⟩ (.int .u8 (f.h.ki : Int))).setCell ⟨ob, k * 10 + 3, none⟩ (.int .u32 (f.h.ep : Int))).setCell ⟨ob, k * 10 + 4, none⟩ (.int .u32 (f.h.ba : Int))).setCell ⟨ob, k * 10 + 5, none⟩ (.int .u16 (f.h.ix : Int))).setCell ⟨ob, k * 10 + 6, none⟩ (.int .u16 (f.h.ct : Int))).setCell ⟨ob, k * 10 + 7, none⟩ (.int .u32 (f.h.bl : Int))).setCell ⟨ob, k * 10 + 8, none⟩ (.int .u32 (f.h.mo : Int))).setCell ⟨ob, k * 10 + 9, none⟩ (.bool f.b))).drew := by
  have hl := h.lo
  have h1 := ((((((((((h.on.set (k * 10) (f.d.v)).set (k * 10 + 1) (f.o.v)).set (k * 10 + 2) (.int .u8 (f.h.ki : Int))).set (k * 10 + 3) (.int .u32 (f.h.ep : Int))).set (k * 10 + 4) (.int .u32 (f.h.ba : Int))).set (k * 10 + 5) (.int .u16 (f.h.ix : Int))).set (k * 10 + 6) (.int .u16 (f.h.ct : Int))).set (k * 10 + 7) (.int .u32 (f.h.bl : Int))).set (k * 10 + 8) (.int .u32 (f.h.mo : Int))).set (k * 10 + 9) (.bool f.b))
  have h2 := (((((((((((SameBut.refl ob x).set (k * 10) (f.d.v)).set (k * 10 + 1) (f.o.v)).set (k * 10 + 2) (.int .u8 (f.h.ki : Int))).set (k * 10 + 3) (.int .u32 (f.h.ep : Int))).set (k * 10 + 4) (.int .u32 (f.h.ba : Int))).set (k * 10 + 5) (.int .u16 (f.h.ix : Int))).set (k * 10 + 6) (.int .u16 (f.h.ct : Int))).set (k * 10 + 7) (.int .u32 (f.h.bl : Int))).set (k * 10 + 8) (.int .u32 (f.h.mo : Int))).set (k * 10 + 9) (.bool f.b))
  obtain ⟨Y, hY⟩ : ∃ Y, Y = ((((((((((x.setCell ⟨ob, k * 10, none⟩ (f.d.v)).setCell ⟨ob, k * 10 + 1, none⟩ (f.o.v)).setCell ⟨ob, k * 10 + 2, none⟩ (.int .u8 (f.h.ki : Int))).setCell ⟨ob, k * 10 + 3, none⟩ (.int .u32 (f.h.ep : Int))).setCell ⟨ob, k * 10 + 4, none⟩ (.int .u32 (f.h.ba : Int))).setCell ⟨ob, k * 10 + 5, none⟩ (.int .u16 (f.h.ix : Int))).setCell ⟨ob, k * 10 + 6, none⟩ (.int .u16 (f.h.ct : Int))).setCell ⟨ob, k * 10 + 7, none⟩ (.int .u32 (f.h.bl : Int))).setCell ⟨ob, k * 10 + 8, none⟩ (.int .u32 (f.h.mo : Int))).setCell ⟨ob, k * 10 + 9, none⟩ (.bool f.b)) := ⟨_, rfl⟩
  rw [← hY] at h1 h2 ⊢
  clear hY
  exact lineI_put' h f hf Y (h1.congr fun j _ => fdC_set F k f j) h2.heap ⟨h2.os, h2.tape, h2.output, h2.size⟩
theorem lineI_start (W : World) (lb : Nat) (s : RS) (seg row : Nat) (on0 : Value) (mi : Int) (hbox : LineBox lb s seg row on0 mi W) :
    LineI W lb W.heap.size s seg row s.n mi 0 (fun _ => FD.nil) ((W.setCell ⟨lb, 6, none⟩ (.slice (some ⟨W.heap.size, 0, none⟩) s.n s.n)).alloc (.cells (madeCells #[.slice none 0 0, .slice none 0 0, .int .u8 0, .int .u32 0, .int .u32 0, .int .u16 0, .int .u16 0, .int .u32 0, .int .u32 0, .bool false] (s.n * 10)) 184)) := by
  have hlt := (Array.getElem?_eq_some_iff.1 hbox).1
  have hal : ∀ k, k < W.heap.size → ((W.setCell ⟨lb, 6, none⟩ (.slice (some ⟨W.heap.size, 0, none⟩) s.n s.n)).alloc (.cells (madeCells #[.slice none 0 0, .slice none 0 0, .int .u8 0, .int .u32 0, .int .u32 0, .int .u16 0, .int .u16 0, .int .u32 0, .int .u32 0, .bool false] (s.n * 10)) 184)).heap[k]? = (W.setCell ⟨lb, 6, none⟩ (.slice (some ⟨W.heap.size, 0, none⟩) s.n s.n)).heap[k]? := fun k hk => heap_alloc_old' (by simpa using hk) _
  refine ⟨?_, ⟨madeCells #[.slice none 0 0, .slice none 0 0, .int .u8 0, .int .u32 0, .int .u32 0, .int .u16 0, .int .u16 0, .int .u32 0, .int .u32 0, .bool false] (s.n * 10), ?_, size_madeCells _ _, fun i hi => ?_⟩, fun m hm => absurd hm (Nat.not_lt_zero m), ⟨rfl, rfl, rfl, by simp, fun k hk hn => (hal k hk).trans (heap_setCell_other _ _ k _ (fun e => hn (congrArg some e)))⟩, hlt, Nat.le_refl _⟩
  · have := heap_setCell_same W lb 6 _ _ (.slice (some ⟨W.heap.size, 0, none⟩) s.n s.n) hbox
    exact (hal lb hlt).trans (by simpa using this)
  · have := heap_alloc_new (W.setCell ⟨lb, 6, none⟩ (.slice (some ⟨W.heap.size, 0, none⟩) s.n s.n)) (.cells (madeCells #[.slice none 0 0, .slice none 0 0, .int .u8 0, .int .u32 0, .int .u32 0, .int .u16 0, .int .u16 0, .int .u32 0, .int .u32 0, .bool false] (s.n * 10)) 184)
    simpa using this
  · simp only [madeCells, fdC]
    rw [Array.getElem?_map, Array.getElem?_range, if_pos hi]
    simp only [Option.map_some, List.size_toArray, List.length_cons, List.length_nil, Nat.zero_add, Nat.reduceAdd]
    rcases (by omega : i % 10 = 0 ∨ i % 10 = 1 ∨ i % 10 = 2 ∨ i % 10 = 3 ∨ i % 10 = 4 ∨ i % 10 = 5 ∨ i % 10 = 6 ∨ i % 10 = 7 ∨ i % 10 = 8 ∨ i % 10 = 9) with e | e | e | e | e | e | e | e | e | e <;> rw [e] <;> rfl
def GathRet (W : World) (lb : Nat) (s : RS) (seg row : Nat) (mi : Int) (e : Ending) (x : World) : Prop :=
  ∃ (ob oc : Nat) (F : Nat → FD), e = .returned (.int .i64 0) ∧ LineI W lb ob s seg row oc mi s.n F x
set_option maxRecDepth 100000 in
set_option maxHeartbeats 1000000 in
/-- What is missing is known ahead; all others are there. -/
theorem gather_any (h : Ram B s w0) (hsz : s.sz ≤ 1000) (W : World) (hW : Below w0.heap.size w0 W) (lb seg row : Nat) (hlb : w0.heap.size ≤ lb) (hseg : seg + 5 < s.bl) (hrow : row < s.pg) (mi : Int) (on0 : Option Addr) (n0 c0 : Nat)
    (hbox : LineBox lb s seg row (.slice on0 n0 c0) mi W) (hlive : ∀ m, m < s.n → (m : Int) ≠ mi → s.gone m = 0) (hmi : -1 ≤ mi ∧ mi < (s.n : Int)) :
    Calls Tryz.prog 97 #[.pointer (some ⟨lb, 0, none⟩), .iface 51 (.pointer (some ⟨s.rb, 0, none⟩))] W (GathRet W lb s seg row mi) := by
  have hg := h.geo
  have hn16 : s.n ≤ 16 := by have := hg.2.1; omega
  obtain ⟨ti, hi1, hz1, hs1, hb1⟩ := info_parts info_fd
  have hmk : ∀ w, (Instr.makeSlice 178 (.int .i64 ((s.n : Nat) : Int)) (.int .i64 ((s.n : Nat) : Int))).run Tryz.prog w = _ := fun w => run_make w 178 184 ti _ Tryz.underlying178 hi1 hz1 .i64 .i64 ((s.n : Nat) : Int) ((s.n : Nat) : Int) (by omega) (Int.le_refl _) (by rw [hb1]; omega) (by omega)
  simp only [Int.toNat_natCast, hs1, Value.cells] at hmk
  have HLI := Lib.hid hlive
  have hlt := (Array.getElem?_eq_some_iff.1 hbox).1
  obtain ⟨b0, b1, b2, b3, b4, b5, b6, b7⟩ := eightL_at hbox
  have bf := free_at hbox
  clear hg hlive
  go_enter Tryz.func97, Tryz.ntmps97
  go_upto_region 2 with fail
  have HI0 := Lib.hid (lineI_start W lb s seg row _ mi hbox)
  obtain ⟨ob, hob⟩ : ∃ x, x = W.heap.size := ⟨_, rfl⟩
  rw [← hob] at HI0 ⊢
  obtain ⟨V, hV⟩ : ∃ x, x = (W.setCell ⟨lb, 6, none⟩ (.slice (some ⟨ob, 0, none⟩) s.n s.n)).alloc (.cells (madeCells #[.slice none 0 0, .slice none 0 0, .int .u8 0, .int .u32 0, .int .u32 0, .int .u16 0, .int .u16 0, .int .u32 0, .int .u32 0, .bool false] (s.n * 10)) 184) := ⟨_, rfl⟩
  rw [← hV] at HI0 ⊢
  have hlt' : lb < V.heap.size := by have := HI0.out.grown.size; omega
  obtain ⟨c0, c1, c2, c3, c4, c5, c6, c7⟩ := eightL_at HI0.out.box
  clear hV hmk b0 b1 b2 b3 b4 b5 b6 b7 bf hob hbox
  go_wp2_with fail
  clear c0 c1 c2 c3 c4 c5 c6 c7
  go_loopw [22] (fun iv wr => ∃ (k : Nat) (F : Nat → FD), k ≤ s.n ∧ iv = .int .i64 (k : Int) ∧ LineI W lb ob s seg row s.n mi k F wr) (fun iv _ => (s.n - intOf iv).toNat)
  case atStart => exact ⟨0, _, Nat.zero_le _, rfl, HI0.out⟩
  case round =>
    obtain ⟨k, F, hk, rfl, hI⟩ := hrel
    have HI := Lib.hid hI
    have HB := Lib.hid (below_of_grown hW hlb hI.grown)
    have hbx := hI.box
    rw [LineBox] at hbx
    have hlw := (Array.getElem?_eq_some_iff.1 hbx).1
    obtain ⟨c0, c1, c2, c3, c4, c5, c6, c7⟩ := eightL_at hbx
    have cf := free_at hbx
    clear hI
    by_cases hlt2 : k < s.n
    · have q1 : decide (k < s.n) = true := by simpa using hlt2
      by_cases hkm : (k : Int) = mi
      · have q2 : ((k : Int) == mi) = true := by simpa using hkm
        have HR : Hid (LineI W lb ob s seg row s.n mi (k + 1) F wr) := Lib.hid ⟨HI.out.box, HI.out.on, fun m hm hne => HI.out.found m (by omega) hne, HI.out.grown, HI.out.lo⟩
        clear hbx
        go_wp2
        go_roundw
        case rel => exact ⟨k + 1, F, by omega, by go_num, HR.out⟩
        case measure => simp [intOf]; omega
      · have q2 : ((k : Int) == mi) = false := by simpa using hkm
        have HLK : Hid (∀ x : World, Below wr.heap.size wr x → Calls Tryz.prog 109 #[.iface 51 (.pointer (some ⟨s.rb, 0, none⟩)), .int .i64 (k : Int), .int .i64 (seg : Int), .int .i64 (row : Int)] x (LookRet s (k, seg, row) x)) := Lib.hid fun x hx =>
          look_live (h.step (HB.out.trans (hx.mono HB.out.size))) hsz k seg row hlt2 hseg hrow (HLI.out k hlt2 hkm)
        have hS0 : wr.drew.cell? ⟨lb, 4, none⟩ = some (.int .i64 (seg : Int)) ∧ wr.drew.cell? ⟨lb, 5, none⟩ = some (.int .i64 (row : Int)) := ⟨c4, c5⟩
        clear hbx c0 c1 c2 c3 c4 c5
        have HCC : Hid (∀ x : World, Below wr.heap.size wr x → x.cell? ⟨lb, 4, none⟩ = some (.int .i64 (seg : Int)) ∧ x.cell? ⟨lb, 5, none⟩ = some (.int .i64 (row : Int))) := Lib.hid fun x hx => ⟨(hx.cell (p := ⟨lb, 4, none⟩) hlw).trans hS0.1, (hx.cell (p := ⟨lb, 5, none⟩) hlw).trans hS0.2⟩
        have HLW : Hid (lb < wr.heap.size) := Lib.hid hlw
        go_wp2_with fail
        go_region_held3 (fun x => x.cell? ⟨lb, 4, none⟩ = some (.int .i64 (seg : Int)) ∧ x.cell? ⟨lb, 5, none⟩ = some (.int .i64 (row : Int)))
          (first | with_reducible exact hS0 | with_reducible exact hS1 | with_reducible exact HCC.out _ ((bel_alloc (Below.refl _ wr) _).drew) | with_reducible exact HCC.out _ (bel_alloc HBz.out _) | with_reducible exact ten_keep2 hS1 (Nat.ne_of_lt HLW.out) | go_keep)
          (first
            | (go_simp; go_at_call 109; ((with_reducible refine (HLK.out _ ((Below.refl _ wr).drew)).mono ?_)); (intro e wz hr; obtain ⟨D, O, H, bb, rfl, a1, a2, a3, a4, a5, a6, a7, a8, a9, a10, hbz⟩ := hr; have HFO : Hid (FoundOk s (k, seg, row) ⟨D, O, H, bb⟩ wr.heap.size wz) := Lib.hid ⟨a1, a2, a3, a4, a5, a6, a7, a8, (fun x hx => Nat.le_trans (by simp) (a9 x hx)), (fun x hx => Nat.le_trans (by simp) (a10 x hx))⟩; have HBz := Lib.hid (Below.trans ((Below.refl wr.heap.size wr).drew) (hbz.mono (by simp))); have hS1 : wz.cell? ⟨lb, 4, none⟩ = some (.int .i64 (seg : Int)) ∧ wz.cell? ⟨lb, 5, none⟩ = some (.int .i64 (row : Int)) := (HCC.out wz HBz.out); clear a1 a2 a3 a4 a5 a6 a7 a8 a9 a10))
            | (go_simp; go_at_call 109; ((with_reducible refine (HLK.out _ ((bel_alloc (Below.refl _ wr) _).drew)).mono ?_)); (intro e wz hr; obtain ⟨D, O, H, bb, rfl, a1, a2, a3, a4, a5, a6, a7, a8, a9, a10, hbz⟩ := hr; have HFO : Hid (FoundOk s (k, seg, row) ⟨D, O, H, bb⟩ (wr.heap.size + 1) wz) := Lib.hid ⟨a1, a2, a3, a4, a5, a6, a7, a8, (fun x hx => Nat.le_trans (by simp) (a9 x hx)), (fun x hx => Nat.le_trans (by simp) (a10 x hx))⟩; have HBz := Lib.hid (Below.trans ((bel_alloc (Below.refl _ wr) _).drew) (hbz.mono (by simp))); have hS1 : wz.cell? ⟨lb, 4, none⟩ = some (.int .i64 (seg : Int)) ∧ wz.cell? ⟨lb, 5, none⟩ = some (.int .i64 (row : Int)) := (HCC.out wz HBz.out); have HXA := Lib.hid ((hbz.block wr.heap.size (by simp)).trans (heap_alloc_new wr (.cells #[.slice none 0 0, .slice none 0 0, .int .u8 0, .int .u32 0, .int .u32 0, .int .u16 0, .int .u16 0, .int .u32 0, .int .u32 0, .bool false] 184))); obtain ⟨x0, x1, x2, x3, x4, x5, x6, x7, x8, x9⟩ := ten_at HXA.out; have xf := free_at HXA.out; clear a1 a2 a3 a4 a5 a6 a7 a8 a9 a10)))
        all_goals
          clear hS0 hS1
          first
            | (have HLO := Lib.hid ((looked_set HXA.out (Nat.lt_succ_self _) (Nat.le_refl _) HFO.out HBz.out).mono (lo' := ob + 1) (by have := HI.out.on.lt; omega))
               clear x0 x1 x2 x3 x4 x5 x6 x7 x8 x9 xf
               obtain ⟨xb, hxb⟩ : ∃ x, x = wr.heap.size := ⟨_, rfl⟩
               rw [← hxb] at HLO ⊢
               have HXB : Hid (wr.heap.size ≤ xb) := Lib.hid (Nat.le_of_eq hxb.symm)
               clear hxb
               obtain ⟨V6, hV6⟩ : ∃ x, x = ((((((((((wz.setCell ⟨xb, 0, none⟩ (.slice D.a D.n D.c)).setCell ⟨xb, 1, none⟩ (.slice O.a O.n O.c)).setCell ⟨xb, 2, none⟩ (.int .u8 (H.ki : Int))).setCell ⟨xb, 3, none⟩ (.int .u32 (H.ep : Int))).setCell ⟨xb, 4, none⟩ (.int .u32 (H.ba : Int))).setCell ⟨xb, 5, none⟩ (.int .u16 (H.ix : Int))).setCell ⟨xb, 6, none⟩ (.int .u16 (H.ct : Int))).setCell ⟨xb, 7, none⟩ (.int .u32 (H.bl : Int))).setCell ⟨xb, 8, none⟩ (.int .u32 (H.mo : Int))).setCell ⟨xb, 9, none⟩ (.bool bb)) := ⟨_, rfl⟩
               rw [← hV6] at HLO ⊢
               clear hV6)
            | (have HLO := Lib.hid ((looked_new HFO.out HBz.out).mono (lo' := ob + 1) (by have := HI.out.on.lt; omega))
               obtain ⟨xb, hxb⟩ : ∃ x, x = wz.heap.size := ⟨_, rfl⟩
               rw [← hxb] at HLO ⊢
               have HXB : Hid (wr.heap.size ≤ xb) := Lib.hid HLO.out.2.2.2
               clear hxb
               obtain ⟨V6, hV6⟩ : ∃ x, x = wz.alloc (.cells #[.slice D.a D.n D.c, .slice O.a O.n O.c, .int .u8 (H.ki : Int), .int .u32 (H.ep : Int), .int .u32 (H.ba : Int), .int .u16 (H.ix : Int), .int .u16 (H.ct : Int), .int .u32 (H.bl : Int), .int .u32 (H.mo : Int), .bool bb] 184) := ⟨_, rfl⟩
               rw [← hV6] at HLO ⊢
               clear hV6)
          have HI6 := Lib.hid (HI.out.step HLO.out.2.2.1)
          have hS6 : V6.drew.cell? ⟨lb, 6, none⟩ = some (.slice (some ⟨ob, 0, none⟩) s.n s.n) ∧ V6.drew.cell? ⟨xb, 0, none⟩ = some (.slice D.a D.n D.c) ∧ V6.drew.cell? ⟨xb, 1, none⟩ = some (.slice O.a O.n O.c) ∧ V6.drew.cell? ⟨xb, 2, none⟩ = some (.int .u8 (H.ki : Int)) ∧ V6.drew.cell? ⟨xb, 3, none⟩ = some (.int .u32 (H.ep : Int)) ∧ V6.drew.cell? ⟨xb, 4, none⟩ = some (.int .u32 (H.ba : Int)) ∧ V6.drew.cell? ⟨xb, 5, none⟩ = some (.int .u16 (H.ix : Int)) ∧ V6.drew.cell? ⟨xb, 6, none⟩ = some (.int .u16 (H.ct : Int)) ∧ V6.drew.cell? ⟨xb, 7, none⟩ = some (.int .u32 (H.bl : Int)) ∧ V6.drew.cell? ⟨xb, 8, none⟩ = some (.int .u32 (H.mo : Int)) ∧ V6.drew.cell? ⟨xb, 9, none⟩ = some (.bool bb) := by
            obtain ⟨z0, z1, z2, z3, z4, z5, z6, z7, z8, z9⟩ := ten_at HLO.out.1
            obtain ⟨_, _, _, _, _, _, c6, _⟩ := eightL_at HI6.out.box
            exact ⟨c6, z0, z1, z2, z3, z4, z5, z6, z7, z8, z9⟩
          have HNE : Hid (lb ≠ ob ∧ xb ≠ ob) := Lib.hid ⟨by have := HI.out.lo; omega, by have := HXB.out; have := HI.out.on.lt; omega⟩
          have i0 : (0 : Int) ≤ (k : Int) := by omega
          have i1 : (k : Int) < (s.n : Int) := by omega
          have r0 := HI6.out.on.cell (show k * 10 + 0 < s.n * 10 by omega)
          rw [fdC_at _ _ _ (by omega)] at r0
          have r1 := HI6.out.on.cell (show k * 10 + 1 < s.n * 10 by omega)
          rw [fdC_at _ _ _ (by omega)] at r1
          have r2 := HI6.out.on.cell (show k * 10 + 2 < s.n * 10 by omega)
          rw [fdC_at _ _ _ (by omega)] at r2
          have r3 := HI6.out.on.cell (show k * 10 + 3 < s.n * 10 by omega)
          rw [fdC_at _ _ _ (by omega)] at r3
          have r4 := HI6.out.on.cell (show k * 10 + 4 < s.n * 10 by omega)
          rw [fdC_at _ _ _ (by omega)] at r4
          have r5 := HI6.out.on.cell (show k * 10 + 5 < s.n * 10 by omega)
          rw [fdC_at _ _ _ (by omega)] at r5
          have r6 := HI6.out.on.cell (show k * 10 + 6 < s.n * 10 by omega)
          rw [fdC_at _ _ _ (by omega)] at r6
          have r7 := HI6.out.on.cell (show k * 10 + 7 < s.n * 10 by omega)
          rw [fdC_at _ _ _ (by omega)] at r7
          have r8 := HI6.out.on.cell (show k * 10 + 8 < s.n * 10 by omega)
          rw [fdC_at _ _ _ (by omega)] at r8
          have r9 := HI6.out.on.cell (show k * 10 + 9 < s.n * 10 by omega)
          rw [fdC_at _ _ _ (by omega)] at r9
          rw [Nat.add_zero] at r0
          have rf := fun o => HI6.out.on.frozen o
          go_wp2_with fail
          go_region_held3 (fun x => x.cell? ⟨lb, 6, none⟩ = some (.slice (some ⟨ob, 0, none⟩) s.n s.n) ∧ x.cell? ⟨xb, 0, none⟩ = some (.slice D.a D.n D.c) ∧ x.cell? ⟨xb, 1, none⟩ = some (.slice O.a O.n O.c) ∧ x.cell? ⟨xb, 2, none⟩ = some (.int .u8 (H.ki : Int)) ∧ x.cell? ⟨xb, 3, none⟩ = some (.int .u32 (H.ep : Int)) ∧ x.cell? ⟨xb, 4, none⟩ = some (.int .u32 (H.ba : Int)) ∧ x.cell? ⟨xb, 5, none⟩ = some (.int .u16 (H.ix : Int)) ∧ x.cell? ⟨xb, 6, none⟩ = some (.int .u16 (H.ct : Int)) ∧ x.cell? ⟨xb, 7, none⟩ = some (.int .u32 (H.bl : Int)) ∧ x.cell? ⟨xb, 8, none⟩ = some (.int .u32 (H.mo : Int)) ∧ x.cell? ⟨xb, 9, none⟩ = some (.bool bb))
            (first | with_reducible exact hS6 | ((with_reducible refine keep11 (b := ob) ?_ hS6 HNE.out.1 HNE.out.2); intro y hy; simp only [heap_drew]; with_reducible exact ten_far V6 ob y hy _ _ _ _ _ _ _ _ _ _ _ _ _ _ _ _ _ _ _ _) | go_keep) (fail)
          all_goals
            clear r0 r1 r2 r3 r4 r5 r6 r7 r8 r9 rf hS6
            have hRR : LineI W lb ob s seg row s.n mi (k + 1) (fdSet F k ⟨D, O, H, bb⟩) (((((((((((V6.setCell ⟨ob, k * 10, none⟩ (.slice D.a D.n D.c)).setCell ⟨ob, k * 10 + 1, none⟩ (.slice O.a O.n O.c)).setCell ⟨ob, k * 10 + 2, none⟩ (.int .u8 (H.ki : Int))).setCell ⟨ob, k * 10 + 3, none⟩ (.int .u32 (H.ep : Int))).setCell ⟨ob, k * 10 + 4, none⟩ (.int .u32 (H.ba : Int))).setCell ⟨ob, k * 10 + 5, none⟩ (.int .u16 (H.ix : Int))).setCell ⟨ob, k * 10 + 6, none⟩ (.int .u16 (H.ct : Int))).setCell ⟨ob, k * 10 + 7, none⟩ (.int .u32 (H.bl : Int))).setCell ⟨ob, k * 10 + 8, none⟩ (.int .u32 (H.mo : Int))).setCell ⟨ob, k * 10 + 9, none⟩ (.bool bb)).drew) := lineI_put HI6.out ⟨D, O, H, bb⟩ HLO.out.2.1
            have HRR := Lib.hid hRR
            clear hRR
            go_wp2
            go_roundw
            case rel => exact ⟨k + 1, _, by omega, by go_num, HRR.out⟩
            case measure => simp [intOf]; omega
    · have hkn : k = s.n := by omega
      have q1 : decide (k < s.n) = false := by simpa using hlt2
      rw [hkn] at HI
      clear hbx c0 c1 c2 c3 c4 c5 c6 c7
      go_wp2
      go_ret
      exact ⟨ob, s.n, F, rfl, HI.out⟩
end
end Go.Proofs.YthgcjiocelcblaaGreat
