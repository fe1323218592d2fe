/- member.Set.Page: a set that is one is laid. -/
import Derived.Test.YtdljihemnfpkaaaMemSet
import Derived.Test.YtdljihemnfpkaaaRSeal
import Derived.Test.YtdljihemnfpkaaaPad
import Derived.Deep.DeepCutAuto
namespace Go.Proofs.Ytdljihemnfpkaaa
open Go.RowKit Go.Deep

/-- A writer that was made behind all that stands in w0: X is laid. -/
def WX (w0 : World) (X : List Nat) (x : World) : Prop := ∃ sv, WR w0.heap.size x w0.heap.size sv X ∧ Below w0.heap.size w0 x
theorem WX.size {w0 x : World} {X : List Nat} (h : WX w0 X x) : w0.heap.size ≤ x.heap.size := by
  obtain ⟨_, _, hb⟩ := h; exact hb.size
theorem WX.step {w0 x y : World} {X : List Nat} (h : WX w0 X x) (hb : Below x.heap.size x y) : WX w0 X y := by
  obtain ⟨sv, h1, h2⟩ := h
  exact ⟨sv, wr_keep h1 hb, h2.trans (hb.mono h2.size)⟩
theorem WX.bel {w0 x : World} {X : List Nat} (h : WX w0 X x) : Below w0.heap.size w0 x := h.elim fun _ h => h.2
theorem wx_new (w0 : World) : WX w0 [] (w0.alloc (.cells #[.slice none 0 0] 57)) :=
  ⟨_, ⟨Nat.le_refl _, heap_alloc_new _ _, own_nil _ _, by simp [Value.ownBlock]⟩, bel_alloc (Below.refl _ _) _⟩
theorem wx_of {w0 x y : World} {X : List Nat} {sv : Value} {e : Ending} (h : WR w0.heap.size x w0.heap.size sv X) (hb : Below w0.heap.size w0 x) {Y : List Nat} (hr : WRet x w0.heap.size w0.heap.size sv Y e y) : e = .returned (.pointer (some ⟨w0.heap.size, 0, none⟩)) ∧ WX w0 Y y := by
  obtain ⟨rfl, sv', h1, h2⟩ := hr
  exact ⟨rfl, sv', h1, hb.trans (h2.below h hb.size)⟩
theorem row_new1 (w : World) (n : Nat) (hn : n < 256) : Row (w.alloc (.cells #[.int .u8 (n : Int)] 5)) (some ⟨w.heap.size, 0, none⟩) 1 [n] := by
  refine ⟨rfl, by simpa using hn, fun _ => ⟨_, _, rfl, fun i hi => ?_⟩⟩
  obtain rfl : i = 0 := by omega
  exact cell_new1 w _ _
theorem wx_u8 {w0 x : World} {X : List Nat} (h : WX w0 X x) (hX : X.length ≤ 100000) (xa : Option Addr) (m c : Nat) (cs : List Nat) (hr : Row x xa m cs) (hc : xa = none → c = 0) (hm : m ≤ 1000) :
    Calls Try.prog 19 #[.pointer (some ⟨w0.heap.size, 0, none⟩), .slice xa m c] x fun e y => e = .returned (.pointer (some ⟨w0.heap.size, 0, none⟩)) ∧ WX w0 (X ++ cs) y := by
  obtain ⟨sv, h1, h2⟩ := h
  exact (wU8_any _ _ sv X x h1 h2.size xa m c cs hr hc (by omega)).mono fun e y hr => wx_of h1 h2 hr
theorem wx_far {B pw : Nat} {x : World} {X : List Nat} {sv : Value} (h : WR B x pw sv X) (k : Nat) (hk : sv.ownBlock = some k) : k < x.heap.size := (h.2.2.1.1.lt k hk).2
theorem wx_u32 {w0 x0 x : World} {X : List Nat} (h : WX w0 X x0) (hb : Below x0.heap.size x0 x) (hX : X.length ≤ 100000) (q m c : Nat) (hq : x0.heap.size ≤ q) (ns : List Nat) (hr : RowK .u32 4294967296 x (some ⟨q, 0, none⟩) m ns) (hm : m ≤ 1000) :
    Calls Try.prog 18 #[.pointer (some ⟨w0.heap.size, 0, none⟩), .slice (some ⟨q, 0, none⟩) m c] x fun e y => e = .returned (.pointer (some ⟨w0.heap.size, 0, none⟩)) ∧ WX w0 (X ++ ns.flatMap (Crc.les 4)) y ∧ ∀ k, x0.heap.size ≤ k → k < x.heap.size → y.heap[k]? = x.heap[k]? := by
  obtain ⟨sv, h1, h2⟩ := h
  have hl := (Array.getElem?_eq_some_iff.1 h1.2.1).1
  have hf := wx_far h1
  have h1' := wr_keep h1 hb
  have h2' := h2.trans (hb.mono h2.size)
  refine (wU32_any _ _ sv X x h1' h2'.size (some ⟨q, 0, none⟩) m c ns hr (fun _ z hz => ?_) (by omega) (by omega)).mono fun e y hr => ⟨(wx_of h1' h2' hr).1, (wx_of h1' h2' hr).2, fun k hk1 hk2 => ?_⟩
  · cases hz
    exact ⟨by show q ≠ _; omega, fun e => by have := hf q e.symm; omega⟩
  · obtain ⟨_, sv2, _, hmv⟩ := hr
    exact hmv.block k hk2 (by omega) (fun e => by have := hf k e.symm; omega)
theorem wx_u16 {w0 x0 x : World} {X : List Nat} (h : WX w0 X x0) (hb : Below x0.heap.size x0 x) (hX : X.length ≤ 100000) (q m c : Nat) (hq : x0.heap.size ≤ q) (ns : List Nat) (hr : RowK .u16 65536 x (some ⟨q, 0, none⟩) m ns) (hm : m ≤ 1000) :
    Calls Try.prog 20 #[.pointer (some ⟨w0.heap.size, 0, none⟩), .slice (some ⟨q, 0, none⟩) m c] x fun e y => e = .returned (.pointer (some ⟨w0.heap.size, 0, none⟩)) ∧ WX w0 (X ++ ns.flatMap (Crc.les 2)) y := by
  obtain ⟨sv, h1, h2⟩ := h
  have hl := (Array.getElem?_eq_some_iff.1 h1.2.1).1
  have hf := wx_far h1
  have h1' := wr_keep h1 hb
  have h2' := h2.trans (hb.mono h2.size)
  refine (wU16_any _ _ sv X x h1' h2'.size (some ⟨q, 0, none⟩) m c ns hr (fun _ z hz => ?_) (by omega) (by omega)).mono fun e y hr => wx_of h1' h2' hr
  cases hz
  exact ⟨by show q ≠ _; omega, fun e => by have := hf q e.symm; omega⟩
theorem wx_pad {w0 x : World} {X : List Nat} (h : WX w0 X x) (hX : X.length ≤ 100000) (n : Nat) (hn : n ≤ 100000) :
    Calls Try.prog 21 #[.pointer (some ⟨w0.heap.size, 0, none⟩), .int .i64 (n : Int)] x fun e y => e = .returned (.pointer (some ⟨w0.heap.size, 0, none⟩)) ∧ WX w0 (padTo X (n : Int)) y := by
  obtain ⟨sv, h1, h2⟩ := h
  exact (wPad_any _ _ sv X x h1 h2.size (n : Int) (by omega) (by omega) (by omega)).mono fun e y hr => wx_of h1 h2 hr
theorem wx_bytes {w0 x : World} {X : List Nat} (h : WX w0 X x) (hX : X.length ≤ 200000) :
    Calls Try.prog 22 #[.pointer (some ⟨w0.heap.size, 0, none⟩)] x (RetOwn x X) := by
  obtain ⟨sv, h1, _⟩ := h
  exact wBytes_any _ _ sv X x h1 (by omega)
/-- A set's bytes. -/
def memB (sq : Nat) (L : List Nat) (sp de dn bl pg sz : Nat) : List Nat :=
  (((((([] ++ [sq].flatMap (Crc.les 4)) ++ [L.length]) ++ L) ++ [sp, de, dn])) ++ [bl, pg, sz].flatMap (Crc.les 2))
def intsN (L : List Nat) : List Int := L.map fun (x : Nat) => (x : Int)
theorem row_u8 {x : World} {q : Nat} {l : List Nat} (hl : ∀ y ∈ l, y < 256) (h : x.heap[q]? = some (.cells (l.map u8v).toArray 5 (0, 0))) : Row x (some ⟨q, 0, none⟩) l.length l := by
  refine ⟨rfl, hl, fun _ => ⟨q, 0, rfl, fun i hi => ?_⟩⟩
  simp [World.cell?, h, hi, u8v, List.getD]
theorem rowK_blk {K : IntKind} {M : Nat} {x : World} {q : Nat} {t : TypeId} {l : List Nat} (hl : ∀ y ∈ l, y < M) (h : x.heap[q]? = some (.cells (l.map fun (y : Nat) => Value.int K (y : Int)).toArray t (0, 0))) : RowK K M x (some ⟨q, 0, none⟩) l.length l := by
  refine ⟨rfl, hl, fun _ => ⟨q, 0, rfl, fun i hi => ?_⟩⟩
  simp [World.cell?, h, hi, List.getD]
theorem new_at2 (w : World) (o1 o2 : Obj) : ((w.alloc o1).alloc o2).drew.heap[w.heap.size + 1]? = some o2 := by
  have := heap_alloc_new (w.alloc o1) o2
  rw [show (w.alloc o1).heap.size = w.heap.size + 1 by simp] at this
  exact this
def MemPageRet (w : World) (D O : List Nat) (e : Ending) (w' : World) : Prop :=
  ∃ dv ov, e = .returned (.tuple #[dv, ov, .int .i64 0]) ∧ Own w.heap.size w' dv D ∧ Own w.heap.size w' ov O ∧ Below w.heap.size w w'
def memH (sq : Nat) : RH := ⟨2, sq, 0, 0, 1, 0, 0⟩
set_option maxRecDepth 100000 in
set_option maxHeartbeats 4000000 in
theorem memPage_any (sq : Nat) (a : Option Addr) (n c : Nat) (L : List Nat) (sp de dn : Nat) (w : World) (hq : sq < 4294967296) (hr : RowI w a n c (intsN L)) (hn3 : 3 ≤ n) (hn16 : n ≤ 16) (hL : ∀ x ∈ L, x < 256) (hsp : sp < 256) (hde : de < 256) (hdn : dn < 256)
    (hok : setOk n 20 (intsN L) (sp : Int) (de : Int) (dn : Int)) :
    Calls Try.prog 8 #[.agg #[.int .u32 (sq : Int), .slice a n c, .int .i64 (sp : Int), .int .i64 (de : Int), .int .i64 (dn : Int)], .agg #[.int .i64 (n : Int), .int .i64 20, .int .i64 6, .int .i64 256]] w (MemPageRet w (padTo (memB sq L sp de dn 20 6 256) 256) (sealB (memH sq) (padTo (memB sq L sp de dn 20 6 256) 256) [])) := by
  have hLl : L.length = n := by have := hr.1; simpa [intsN] using this
  have hgood : GoodG (n : Int) 20 6 256 := by unfold GoodG; omega
  have HS := Lib.hid (sg_new w sq a n c (sp : Int) (de : Int) (dn : Int) (n : Int) 20 6 256)
  have HCK : Hid (∀ x : World, Below w.heap.size w x → Calls Try.prog 12 #[.agg #[.int .u32 (sq : Int), .slice a n c, .int .i64 (sp : Int), .int .i64 (de : Int), .int .i64 (dn : Int)], .agg #[.int .i64 (n : Int), .int .i64 20, .int .i64 6, .int .i64 256]] x fun e w' => e = .returned (.int .i64 0) ∧ Below x.heap.size x w') := Lib.hid fun x hx => setCheck_any sq a n c _ _ _ n 20 6 256 (intsN L) x (rowI_below hr hx) hgood (by unfold In64; omega) 0 (by rw [if_pos hok])
  have HR := Lib.hid hr
  have HLL := Lib.hid (And.intro hLl hL)
  have HB := Lib.hid (And.intro hsp (And.intro hde hdn))
  have u1 : IntKind.u8.wrap (n : Int) = (n : Int) := by rw [IntKind.wrap_u8]; omega
  have u2 : IntKind.u8.wrap (sp : Int) = (sp : Int) := by rw [IntKind.wrap_u8]; omega
  have u3 : IntKind.u8.wrap (de : Int) = (de : Int) := by rw [IntKind.wrap_u8]; omega
  have u4 : IntKind.u8.wrap (dn : Int) = (dn : Int) := by rw [IntKind.wrap_u8]; omega
  clear hr hok hgood hLl hL hsp hde hdn
  go_enter Try.func8, Try.ntmps8
  go_upto_region 1 with fail
  obtain ⟨w1, hw1⟩ : ∃ x, x = (w.alloc (.cells #[.int .u32 (sq : Int), .slice a n c, .int .i64 (sp : Int), .int .i64 (de : Int), .int .i64 (dn : Int)] 31)).alloc (.cells #[.int .i64 (n : Int), .int .i64 20, .int .i64 6, .int .i64 256] 27) := ⟨_, rfl⟩
  obtain ⟨b, hb⟩ : ∃ x, x = w.heap.size := ⟨_, rfl⟩
  have HBW : Hid (b = w.heap.size) := Lib.hid hb
  have HB1 : Hid (Below w.heap.size w w1) := Lib.hid (by rw [hw1]; exact bel_alloc (bel_alloc (Below.refl _ _) _) _)
  have HB1s : Hid (b + 1 < w1.heap.size) := Lib.hid (by rw [hw1, hb]; simp)
  rw [← hw1, ← hb] at HS
  rw [← hw1, ← hb]
  clear hw1 hb
  obtain ⟨z0, z1, z2, z3, z4, y0, y1, y2, y3⟩ := HS.out.cells
  go_wp2_with fail
  ((with_reducible refine (HCK.out _ HB1.out).mono ?_))
  rintro e w2 ⟨rfl, hb2⟩
  have HS2 := Lib.hid (HS.out.step hb2)
  have HB2 : Hid (Below w.heap.size w w2) := Lib.hid (bel_trans HB1.out hb2)
  have HB2s : Hid (b + 1 < w2.heap.size) := Lib.hid (Nat.lt_of_lt_of_le HB1s.out hb2.size)
  clear hb2 z0 z1 z2 z3 z4 y0 y1 y2 y3 HCK
  obtain ⟨z0, z1, z2, z3, z4, y0, y1, y2, y3⟩ := HS2.out.cells
  have HSX : Hid (∀ x : World, Below w2.heap.size w2 x → SG w b sq a n c (sp : Int) (de : Int) (dn : Int) (n : Int) 20 6 256 x) := Lib.hid fun x hx => HS2.out.step hx
  go_upto_region 5 with fail
  have HX0 := Lib.hid (wx_new w2)
  obtain ⟨w3, hw3⟩ : ∃ x, x = w2.alloc (.cells #[.slice none 0 0] 57) := ⟨_, rfl⟩
  rw [← hw3] at HX0 ⊢
  clear hw3
  obtain ⟨pw, hpw⟩ : ∃ x, x = w2.heap.size := ⟨_, rfl⟩
  have HPW := Lib.hid hpw
  rw [← hpw]
  clear hpw z0 z1 z2 z3 z4 y0 y1 y2 y3
  obtain ⟨z0, z1, z2, z3, z4, y0, y1, y2, y3⟩ := (HSX.out _ HX0.out.bel).cells
  go_cut [] (fun wx => WX w2 (([] ++ [sq].flatMap (Crc.les 4)) ++ [n]) wx)
  case first =>
    have hx0 := HX0.out
    have hA : ∀ x : World, WX w2 [] x → ∀ (y : World) (q : Nat), Below x.heap.size x y → x.heap.size ≤ q → y.heap[q]? = some (.cells #[.int .u32 (sq : Int)] 22 (0, 0)) → Calls Try.prog 18 #[.pointer (some ⟨w2.heap.size, 0, none⟩), .slice (some ⟨q, 0, none⟩) 1 1] y fun e z => e = .returned (.pointer (some ⟨w2.heap.size, 0, none⟩)) ∧ WX w2 ([] ++ [sq].flatMap (Crc.les 4)) z ∧ ∀ k, x.heap.size ≤ k → k < y.heap.size → z.heap[k]? = y.heap[k]? := fun x hx y q hb hq2 hc =>
      wx_u32 hx hb (by simp) q 1 1 hq2 [sq] (rowK_blk (by simpa using hq) hc) (by omega)
    have hV : ∀ x : World, WX w2 ([] ++ [sq].flatMap (Crc.les 4)) x → ∀ q : Nat, x.heap[q]? = some (.cells #[.int .u8 (n : Int)] 5 (0, 0)) → Calls Try.prog 19 #[.pointer (some ⟨w2.heap.size, 0, none⟩), .slice (some ⟨q, 0, none⟩) 1 1] x fun e z => e = .returned (.pointer (some ⟨w2.heap.size, 0, none⟩)) ∧ WX w2 (([] ++ [sq].flatMap (Crc.les 4)) ++ [n]) z := fun x hx q hc =>
      wx_u8 hx (by simp [Crc.les_len]) _ 1 1 [n] (row_u8 (l := [n]) (by simp; omega) hc) (fun h => by cases h) (by omega)
    rw [← HPW.out] at hA hV
    -- three ways
    have HA1 : Hid (Calls Try.prog 18 #[.pointer (some ⟨pw, 0, none⟩), .slice (some ⟨w3.heap.size, 0, none⟩) 1 1] (w3.alloc (.cells #[.int .u32 (sq : Int)] 22)).drew fun e z => e = .returned (.pointer (some ⟨pw, 0, none⟩)) ∧ WX w2 ([] ++ [sq].flatMap (Crc.les 4)) z) := Lib.hid ((hA w3 hx0 _ w3.heap.size (bel_alloc (Below.refl _ _) _).drew (Nat.le_refl _) (heap_alloc_new w3 _)).mono fun e z h => ⟨h.1, h.2.1⟩)
    have HA2 : Hid (Calls Try.prog 18 #[.pointer (some ⟨pw, 0, none⟩), .slice (some ⟨w3.heap.size, 0, none⟩) 1 1] ((w3.alloc (.cells #[.int .u32 (sq : Int)] 22)).alloc (.cells #[.int .u8 (n : Int)] 5)).drew fun e z => e = .returned (.pointer (some ⟨pw, 0, none⟩)) ∧ WX w2 ([] ++ [sq].flatMap (Crc.les 4)) z ∧ z.heap[w3.heap.size + 1]? = some (.cells #[.int .u8 (n : Int)] 5 (0, 0))) := Lib.hid ((hA w3 hx0 _ w3.heap.size (bel_alloc (bel_alloc (Below.refl _ _) _) _).drew (Nat.le_refl _) ((heap_alloc_oldm (by simp)).trans (heap_alloc_new w3 _))).mono fun e z h => ⟨h.1, h.2.1, (h.2.2 _ (by omega) (by simp)).trans (new_at2 _ _ _)⟩)
    have HA3 : Hid (Calls Try.prog 18 #[.pointer (some ⟨pw, 0, none⟩), .slice (some ⟨w3.heap.size + 1, 0, none⟩) 1 1] ((w3.alloc (.cells #[.int .u8 (n : Int)] 5)).alloc (.cells #[.int .u32 (sq : Int)] 22)).drew fun e z => e = .returned (.pointer (some ⟨pw, 0, none⟩)) ∧ WX w2 ([] ++ [sq].flatMap (Crc.les 4)) z ∧ z.heap[w3.heap.size]? = some (.cells #[.int .u8 (n : Int)] 5 (0, 0))) := Lib.hid ((hA w3 hx0 _ (w3.heap.size + 1) (bel_alloc (bel_alloc (Below.refl _ _) _) _).drew (by omega) (new_at2 _ _ _)).mono fun e z h => ⟨h.1, h.2.1, (h.2.2 _ (Nat.le_refl _) (by simp; omega)).trans ((heap_alloc_oldm (by simp)).trans (heap_alloc_new w3 _))⟩)
    have HV := Lib.hid hV
    have HC : Hid (∀ (X : List Nat) (x : World), WX w2 X x → x.cell? ⟨b, 0, none⟩ = some (.int .u32 (sq : Int)) ∧ x.cell? ⟨b, 1, none⟩ = some (.slice a n c)) := Lib.hid fun X x hx => by
      obtain ⟨z0, z1, _⟩ := (HSX.out _ hx.bel).cells
      exact ⟨z0, z1⟩
    have hS0 : w3.drew.cell? ⟨b, 0, none⟩ = some (.int .u32 (sq : Int)) ∧ w3.drew.cell? ⟨b, 1, none⟩ = some (.slice a n c) := ⟨z0, z1⟩
    clear hA hV hx0 z2 z3 z4 y0 y1 y2 y3
    go_region_held3 (fun x => x.cell? ⟨b, 0, none⟩ = some (.int .u32 (sq : Int)) ∧ x.cell? ⟨b, 1, none⟩ = some (.slice a n c))
      (first | with_reducible exact hS0 | with_reducible exact hS1 | go_keep)
      (first
        | (go_simp; go_at_call 18; ((with_reducible refine HA1.out.mono ?_)); (intro e z hr; obtain ⟨rfl, hx⟩ := hr; have HX1 := Lib.hid hx; have hS1 := HC.out _ z hx; clear hx))
        | (go_simp; go_at_call 18; ((with_reducible refine HA2.out.mono ?_)); (intro e z hr; obtain ⟨rfl, hx, hq2⟩ := hr; have HX1 := Lib.hid hx; have HQ2 := Lib.hid hq2; have hS1 := HC.out _ z hx; clear hx hq2))
        | (go_simp; go_at_call 18; ((with_reducible refine HA3.out.mono ?_)); (intro e z hr; obtain ⟨rfl, hx, hq2⟩ := hr; have HX1 := Lib.hid hx; have HQ2 := Lib.hid hq2; have hS1 := HC.out _ z hx; clear hx hq2))
        | (go_simp; go_at_call 19; ((with_reducible refine (HV.out _ HX1.out _ HQ2.out).mono ?_)); (intro e z hr; obtain ⟨rfl, hx⟩ := hr; have HX2 := Lib.hid hx; have hS1 := HC.out _ z hx; clear hx))
        | (go_simp; go_at_call 19; ((with_reducible refine (HV.out _ (HX1.out.step (bel_alloc (Below.refl _ _) _)) _ (heap_alloc_new _ _)).mono ?_)); (intro e z hr; obtain ⟨rfl, hx⟩ := hr; have HX2 := Lib.hid hx; have hS1 := HC.out _ z hx; clear hx)))
    all_goals
      go_wp2_with fail
      go_meet
      exact HX2.out
  case rest =>
    clear z0 z1 z2 z3 z4 y0 y1 y2 y3 HX0
    obtain ⟨wy, hwy⟩ : ∃ x, x = wc := ⟨_, rfl⟩
    rw [← hwy] at hcut ⊢
    clear hwy
    obtain ⟨X1, hX1⟩ : ∃ X, X = (([] ++ [sq].flatMap (Crc.les 4)) ++ [n]) := ⟨_, rfl⟩
    rw [← hX1] at hcut
    have HX1 := Lib.hid hcut
    have HXD := Lib.hid hX1
    have HXL : Hid (X1.length = 5) := Lib.hid (by rw [hX1]; simp [Crc.les_len])
    clear hcut hX1
    obtain ⟨z0, z1, z2, z3, z4, y0, y1, y2, y3⟩ := (HSX.out _ HX1.out.bel).cells
    have hn1 : (0 : Int) < (n : Int) := by omega
    go_upto_region 6 with fail
    go_wp2_with fail
    go_loopw [33] (fun iv wr => ∃ k : Nat, k ≤ n ∧ iv = .int .i64 (k : Int) ∧ WX w2 (X1 ++ L.take k) wr) (fun iv _ => n - (intOf iv).toNat)
    case atStart => exact ⟨0, Nat.zero_le _, rfl, by simpa using HX1.out⟩
    case round =>
      obtain ⟨k, hk, rfl, hX⟩ := hrel
      have HX := Lib.hid hX
      clear hX z0 z1 z2 z3 z4 y0 y1 y2 y3
      by_cases hlt : k < n
      · have t1 : decide (k < n) = true := by simpa using hlt
        have hrk := rowI_below HR.out (HB2.out.trans (HX.out.bel.mono HB2.out.size))
        obtain ⟨cb, co, rfl, hcc, _, _⟩ := rowI_at hrk hlt
        obtain ⟨x, hx⟩ : ∃ x, x = L.getD k 0 := ⟨_, rfl⟩
        have hxi : (intsN L).getD k 0 = (x : Int) := by rw [hx]; simp [intsN, List.getD, HLL.out.1, hlt]
        rw [hxi] at hcc
        have hx256 : x < 256 := by
          rw [hx]; exact HLL.out.2 _ (by simp [List.getD, HLL.out.1, hlt])
        have ux : IntKind.u8.wrap (x : Int) = (x : Int) := by rw [IntKind.wrap_u8]; omega
        have htk : L.take (k + 1) = L.take k ++ [x] := by rw [hx]; exact take_snoc_getD L k (by rw [HLL.out.1]; exact hlt)
        have HTK := Lib.hid htk
        have HCU : Hid (Calls Try.prog 19 #[.pointer (some ⟨pw, 0, none⟩), .slice (some ⟨wr.heap.size, 0, none⟩) 1 1] (wr.alloc (.cells #[.int .u8 (x : Int)] 5)) fun e z => e = .returned (.pointer (some ⟨pw, 0, none⟩)) ∧ WX w2 (X1 ++ L.take (k + 1)) z) := Lib.hid (by
          have := wx_u8 (HX.out.step (bel_alloc (Below.refl _ _) (.cells #[.int .u8 (x : Int)] 5))) (by rw [List.length_append, HXL.out, List.length_take]; omega) (some ⟨wr.heap.size, 0, none⟩) 1 1 [x] (row_u8 (l := [x]) (by simpa using hx256) (heap_alloc_new _ _)) (fun h => by cases h) (by omega)
          rw [← HPW.out, List.append_assoc, ← htk] at this
          exact this)
        have k0 : (0 : Int) ≤ (k : Int) := by omega
        have k1 : (k : Int) < (n : Int) := by omega
        clear hrk hx hxi htk hx256
        go_wp2_with fail
        ((with_reducible refine HCU.out.mono ?_))
        rintro e z ⟨rfl, hz⟩
        have HZ := Lib.hid hz
        clear hz hcc
        go_wp2_with fail
        go_roundw
        case rel => exact ⟨k + 1, by omega, by go_num, HZ.out⟩
        case measure => simp [intOf]; omega
      · obtain rfl : k = n := by omega
        have t1 : decide (k < k) = false := by simp
        have hXe := HX.out
        rw [List.take_of_length_le (by rw [HLL.out.1]; exact Nat.le_refl _)] at hXe
        have HX2 := Lib.hid hXe
        clear hXe
        obtain ⟨z0, z1, z2, z3, z4, y0, y1, y2, y3⟩ := (HSX.out _ HX2.out.bel).cells
        have hl2 : (X1 ++ L).length = 5 + k := by rw [List.length_append, HXL.out, HLL.out.1]
        have HL2 := Lib.hid hl2
        clear hl2
        have HCU : Hid (Calls Try.prog 19 #[.pointer (some ⟨pw, 0, none⟩), .slice (some ⟨wr.heap.size, 0, none⟩) 3 3] (wr.alloc (.cells #[.int .u8 (sp : Int), .int .u8 (de : Int), .int .u8 (dn : Int)] 5)) fun e z => e = .returned (.pointer (some ⟨pw, 0, none⟩)) ∧ WX w2 ((X1 ++ L) ++ [sp, de, dn]) z) := Lib.hid (by
          have := wx_u8 (HX2.out.step (bel_alloc (Below.refl _ _) (.cells #[.int .u8 (sp : Int), .int .u8 (de : Int), .int .u8 (dn : Int)] 5))) (by rw [HL2.out]; omega) (some ⟨wr.heap.size, 0, none⟩) 3 3 [sp, de, dn] (row_u8 (l := [sp, de, dn]) (by have := HB.out; simp; omega) (heap_alloc_new _ _)) (fun h => by cases h) (by omega)
          rw [← HPW.out] at this
          exact this)
        go_wp2_with fail
        ((with_reducible refine HCU.out.mono ?_))
        rintro e w5 ⟨rfl, h5⟩
        have HX5 := Lib.hid h5
        clear h5 z0 z1 z2 z3 z4 y0 y1 y2 y3 HCU
        obtain ⟨z0, z1, z2, z3, z4, y0, y1, y2, y3⟩ := (HSX.out _ HX5.out.bel).cells
        have HCW : Hid (Calls Try.prog 20 #[.pointer (some ⟨pw, 0, none⟩), .slice (some ⟨w5.heap.size, 0, none⟩) 3 3] (w5.alloc (.cells #[.int .u16 20, .int .u16 6, .int .u16 256] 61)) fun e z => e = .returned (.pointer (some ⟨pw, 0, none⟩)) ∧ WX w2 (memB sq L sp de dn 20 6 256) z) := Lib.hid (by
          have := wx_u16 HX5.out (bel_alloc (Below.refl _ _) (.cells #[.int .u16 20, .int .u16 6, .int .u16 256] 61)) (by rw [List.length_append, HL2.out]; simp; omega) w5.heap.size 3 3 (Nat.le_refl _) [20, 6, 256] (rowK_blk (l := [20, 6, 256]) (by simp) (heap_alloc_new _ _)) (by omega)
          rw [← HPW.out, HXD.out] at this
          unfold memB
          rw [HLL.out.1]
          exact this)
        have q1 : IntKind.u16.wrap 20 = 20 := by decide
        have q2 : IntKind.u16.wrap 6 = 6 := by decide
        have q3 : IntKind.u16.wrap 256 = 256 := by decide
        go_wp2_with fail
        ((with_reducible refine HCW.out.mono ?_))
        rintro e w6 ⟨rfl, h6⟩
        have HX6 := Lib.hid h6
        clear h6 z0 z1 z2 z3 z4 y0 y1 y2 y3 HCW q1 q2 q3
        obtain ⟨z0, z1, z2, z3, z4, y0, y1, y2, y3⟩ := (HSX.out _ HX6.out.bel).cells
        obtain ⟨Y, hY⟩ : ∃ Y, Y = memB sq L sp de dn 20 6 256 := ⟨_, rfl⟩
        have hYl : Y.length = 14 + k := by rw [hY]; unfold memB; simp [Crc.les_len, HLL.out.1]; omega
        rw [← hY] at HX6 ⊢
        have HYL := Lib.hid hYl
        have HYE := Lib.hid hY
        clear hY hYl
        have HCP : Hid (Calls Try.prog 21 #[.pointer (some ⟨pw, 0, none⟩), .int .i64 256] w6 fun e z => e = .returned (.pointer (some ⟨pw, 0, none⟩)) ∧ WX w2 (padTo Y 256) z) := Lib.hid (by
          have := wx_pad HX6.out (by rw [HYL.out]; omega) 256 (by omega)
          rw [← HPW.out] at this
          exact this)
        go_wp2_with fail
        ((with_reducible refine HCP.out.mono ?_))
        rintro e w7 ⟨rfl, h7⟩
        have HX7 := Lib.hid h7
        clear h7 z0 z1 z2 z3 z4 y0 y1 y2 y3 HCP
        have hDl : (padTo Y 256).length = 256 := by unfold padTo; rw [List.length_append, List.length_replicate, HYL.out]; show 14 + k + (256 - (14 + k)) = 256; omega
        have HCB : Hid (Calls Try.prog 22 #[.pointer (some ⟨pw, 0, none⟩)] w7 (RetOwn w7 (padTo Y 256))) := Lib.hid (by
          have := wx_bytes HX7.out (by rw [hDl]; omega)
          rw [← HPW.out] at this
          exact this)
        have HDL := Lib.hid hDl
        clear hDl
        go_wp2_with fail
        ((with_reducible refine HCB.out.mono ?_))
        rintro e w8 ⟨dv, rfl, ho8, hb8⟩
        obtain ⟨da, dc, rfl, hrow8, _⟩ := row_of_own ho8
        have HX8 := Lib.hid (HX7.out.step hb8)
        have HO8 := Lib.hid (And.intro ho8 hb8)
        rw [HDL.out] at hrow8 HO8 ⊢
        have HR8 := Lib.hid hrow8
        clear ho8 hb8 hrow8 HCB
        obtain ⟨z0, z1, z2, z3, z4, y0, y1, y2, y3⟩ := (HSX.out _ HX8.out.bel).cells
        have HSE : Hid (Calls Try.prog 23 #[.agg #[.int .u8 2, .int .u32 (sq : Int), .int .u32 0, .int .u16 0, .int .u16 1, .int .u32 0, .int .u32 0], .slice da 256 dc, .slice none 0 0] w8 (RetOwn w8 (sealB (memH sq) (padTo Y 256) []))) := Lib.hid (seal_any (memH sq) ⟨by show 2 < _; omega, hq, by show 0 < _; omega, by show 0 < _; omega, by show 1 < _; omega, by show 0 < _; omega, by show 0 < _; omega⟩ da 256 dc (padTo Y 256) none 0 0 [] w8 HR8.out (by omega) ⟨rfl, by simp, fun h => by omega⟩ (Nat.le_refl _) (by unfold maxLen; omega) (fun _ => rfl) (by omega))
        go_wp2_with fail
        ((with_reducible refine HSE.out.mono ?_))
        rintro e w9 ⟨ov, rfl, ho9, hb9⟩
        have HO9 := Lib.hid (And.intro ho9 hb9)
        clear ho9 hb9 z0 z1 z2 z3 z4 y0 y1 y2 y3 HSE
        go_wp2_with fail
        go_ret3
        have hs7 : w.heap.size ≤ w7.heap.size := Nat.le_trans HB2.out.size HX7.out.size
        have hs8 : w.heap.size ≤ w8.heap.size := Nat.le_trans hs7 HO8.out.2.size
        rw [HYE.out] at HO8 HO9
        refine ⟨.slice da 256 dc, ov, rfl, own_mono (own_up HO8.out.1 HO9.out.2) hs7, own_mono HO9.out.1 hs8, HB2.out.trans ((HX8.out.bel.mono HB2.out.size).trans (HO9.out.2.mono hs8))⟩
end Go.Proofs.Ytdljihemnfpkaaa
