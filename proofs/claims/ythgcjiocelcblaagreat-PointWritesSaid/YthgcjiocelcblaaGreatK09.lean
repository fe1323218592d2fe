/- Parts of the proof: PtDecode, Wx, PtEnc, PtBack. -/
import Derived.Test.YthgcjiocelcblaaGreatK08
import Derived.Test.YthgcjiocelcblaaGreatK02
import Derived.Deep.DeepCutAuto
import Derived.Deep.RegionHeld3
import Derived.Test.YthgcjiocelcblaaGreatK04
namespace Go.Proofs.YthgcjiocelcblaaGreat
open Go.RowKit

/-- The three blocks that Decode begins with. -/
def pt3 (w : World) : World := ((w.alloc (.cells #[.int .u32 0, .int .u32 0, .slice none 0 0, .slice none 0 0] 25)).alloc (.cells #[.int .u32 0, .int .u32 0, .slice none 0 0, .slice none 0 0] 25)).alloc (.cells #[.bool false] 4)
structure Pt3 (w : World) (b0 : Nat) (x : World) : Prop where
  at0 : x.heap[b0]? = some (.cells (pCs 0 0 (.slice none 0 0) (.slice none 0 0)) 25 (0, 0))
  size : x.heap.size = b0 + 3
  bel : Below w.heap.size w x
  b : b0 = w.heap.size
  at1 : x.heap[b0 + 1]? = some (.cells (pCs 0 0 (.slice none 0 0) (.slice none 0 0)) 25 (0, 0))
  at2 : x.heap[b0 + 2]? = some (.cells #[.bool false] 4 (0, 0))
theorem pt3_of (w : World) : Pt3 w w.heap.size (pt3 w) := by
  unfold pt3
  obtain ⟨W1, hW1⟩ : ∃ x, x = w.alloc (.cells #[.int .u32 0, .int .u32 0, .slice none 0 0, .slice none 0 0] 25) := ⟨_, rfl⟩
  obtain ⟨W2, hW2⟩ : ∃ x, x = W1.alloc (.cells #[.int .u32 0, .int .u32 0, .slice none 0 0, .slice none 0 0] 25) := ⟨_, rfl⟩
  obtain ⟨W3, hW3⟩ : ∃ x, x = W2.alloc (.cells #[.bool false] 4) := ⟨_, rfl⟩
  obtain ⟨b0, hb0⟩ : ∃ x, x = w.heap.size := ⟨_, rfl⟩
  have s1 : W1.heap.size = b0 + 1 := by rw [hW1, hb0]; simp
  have s2 : W2.heap.size = b0 + 2 := by rw [hW2]; simp [s1]
  have s3 : W3.heap.size = b0 + 3 := by rw [hW3]; simp [s2]
  have h0 : W1.heap[b0]? = some (.cells (pCs 0 0 (.slice none 0 0) (.slice none 0 0)) 25 (0, 0)) := by rw [hW1, hb0]; exact heap_alloc_new _ _
  have h1 : W2.heap[b0 + 1]? = some (.cells (pCs 0 0 (.slice none 0 0) (.slice none 0 0)) 25 (0, 0)) := by rw [hW2, ← s1]; exact heap_alloc_new _ _
  have h2 : W3.heap[b0 + 2]? = some (.cells #[.bool false] 4 (0, 0)) := by rw [hW3, ← s2]; exact heap_alloc_new _ _
  have b01 : Below w.heap.size w W1 := by rw [hW1]; exact bel_alloc (Below.refl _ _) _
  have b12 : Below W1.heap.size W1 W2 := by rw [hW2]; exact bel_alloc (Below.refl _ _) _
  have b23 : Below W2.heap.size W2 W3 := by rw [hW3]; exact bel_alloc (Below.refl _ _) _
  have h0' := (b23.block b0 (by omega)).trans ((b12.block b0 (by omega)).trans h0)
  have h1' := (b23.block (b0 + 1) (by omega)).trans h1
  rw [← hW1, ← hW2, ← hW3, ← hb0]
  exact ⟨h0', s3, (b01.trans (b12.mono (by omega))).trans (b23.mono (by omega)), hb0, h1', h2⟩
theorem pt4_at {x : World} {b sq ba : Nat} {v1 v2 : Value} (h : x.heap[b]? = some (.cells (pCs sq ba v1 v2) 25 (0, 0))) :
    (x.cell? ⟨b, 0, none⟩ = some (.int .u32 (sq : Int)) ∧ x.cell? ⟨b, 1, none⟩ = some (.int .u32 (ba : Int)) ∧ x.cell? ⟨b, 2, none⟩ = some v1 ∧ x.cell? ⟨b, 3, none⟩ = some v2) ∧ x.frozen? ⟨b, 0, none⟩ = false ∧ x.frozen? ⟨b, 1, none⟩ = false ∧ x.frozen? ⟨b, 2, none⟩ = false ∧ x.frozen? ⟨b, 3, none⟩ = false := by
  unfold pCs at h
  refine ⟨⟨?_, ?_, ?_, ?_⟩, ?_, ?_, ?_, ?_⟩ <;> simp [World.cell?, World.frozen?, h]
theorem pt4_set {B b : Nat} {w x : World} (hb : Below B w x) (hle : B ≤ b) (v0 v1 v2 v3 : Value) : Below B w ((((x.setCell ⟨b, 0, none⟩ v0).setCell ⟨b, 1, none⟩ v1).setCell ⟨b, 2, none⟩ v2).setCell ⟨b, 3, none⟩ v3) :=
  (((hb.setCell (p := ⟨b, 0, none⟩) hle _).setCell (p := ⟨b, 1, none⟩) hle _).setCell (p := ⟨b, 2, none⟩) hle _).setCell (p := ⟨b, 3, none⟩) hle _
theorem ownU_at {B : Nat} {x y : World} {v : Value} {l : List Nat} (h : OwnU B x v l) (hk : ∀ k, B ≤ k → k < x.heap.size → y.heap[k]? = x.heap[k]?) : OwnU B y v l := by
  rcases h with ⟨e, h | ⟨g, cap, cur, a, b, c, d⟩⟩
  · exact ⟨e, .inl h⟩
  · exact ⟨e, .inr ⟨g, cap, cur, a, b, (hk g b (Array.getElem?_eq_some_iff.1 c).1).trans c, d⟩⟩
theorem ownU_sets {B b : Nat} {x : World} {v : Value} {l : List Nat} (h : OwnU B x v l) (hb : b < B) (v0 v1 v2 v3 : Value) : OwnU B ((((x.setCell ⟨b, 0, none⟩ v0).setCell ⟨b, 1, none⟩ v1).setCell ⟨b, 2, none⟩ v2).setCell ⟨b, 3, none⟩ v3) v l :=
  ownU_at h fun k hk _ => by
    rw [Below.heap_setCell _ _ _ _ (by show k ≠ b; omega), Below.heap_setCell _ _ _ _ (by show k ≠ b; omega), Below.heap_setCell _ _ _ _ (by show k ≠ b; omega), Below.heap_setCell _ _ _ _ (by show k ≠ b; omega)]
def ptNone : Value := .tuple #[.agg #[.int .u32 0, .int .u32 0, .slice none 0 0, .slice none 0 0], .int .i64 62]
/-- The bytes are a point's, with noughts behind. -/
def ptFits (bs : List Nat) : Prop := 16 ≤ bs.length ∧ 16 + 4 * ptN bs 2 + 4 * ptN bs 3 ≤ bs.length
set_option maxRecDepth 100000 in
set_option maxHeartbeats 4000000 in
theorem ptDecode_dies (a : Option Addr) (len cap : Nat) (bs : List Nat) (w : World) (hr : Row w a len bs) (hn : a = none → cap = 0) (hl : len ≤ 100000) (hk : ¬ ptFits bs) :
    Calls Tryz.prog 11 #[.slice a len cap] w fun e w' => e = .returned ptNone ∧ Below w.heap.size w w' := by
  have H3 := pt3_of w
  obtain ⟨b0, hb0⟩ : ∃ x, x = w.heap.size := ⟨_, rfl⟩
  obtain ⟨W3, hW3⟩ : ∃ x, x = pt3 w := ⟨_, rfl⟩
  rw [← hb0, ← hW3] at H3
  unfold pt3 at hW3
  have HRD := Lib.hid (read_dies a len cap bs 29 #[.pointer (some ⟨b0 + 1, 0, none⟩), .pointer (some ⟨b0 + 2, 0, none⟩)] W3 _ (row_keep hr H3.bel (Nat.le_refl _)) hn hl (fun _ _ => rfl) (ptBy_dies W3 (b0 + 1) bs (by rw [hr.1]; exact hl) hk (by rw [H3.size]) H3.at1 H3.at2))
  have HS := Lib.hid H3
  clear hr hn hl hk H3
  go_enter Tryz.func11, Tryz.ntmps11
  go_wp2_with fail
  rw [← hW3, ← hb0]
  rw [show b0 + 1 + 1 = b0 + 2 from rfl]
  have hle : w.heap.size ≤ b0 := Nat.le_of_eq hb0.symm
  clear hW3 hb0
  ((with_reducible refine HRD.out.mono ?_))
  rintro e w4 ⟨rfl, w5, hq, hb5, -⟩
  have hs4 := HS.out.size
  have hsb := HS.out.b
  have HB4 : Hid (Below w.heap.size w w4) := Lib.hid (HS.out.bel.trans ((hq.mono (by omega)).trans (hb5.mono (by omega))))
  have hr4 := (hb5.block b0 (by omega)).trans ((hq.block b0 (by omega)).trans HS.out.at0)
  obtain ⟨⟨z0, z1, z2, z3⟩, f0, f1, f2, f3⟩ := pt4_at hr4
  clear hq hb5 hs4 hr4 hsb
  go_wp2_with fail
  exact bodyPost_ret (v := ptNone) (by simp [ptNone, results, Tryz.results11, go_sem, z0, z1, z2, z3]) rfl ⟨rfl, pt4_set HB4.out hle _ _ _ _⟩
set_option maxRecDepth 100000 in
set_option maxHeartbeats 4000000 in
theorem ptDecode_ok (a : Option Addr) (len cap : Nat) (bs : List Nat) (w : World) (hr : Row w a len bs) (hn : a = none → cap = 0) (hl : len ≤ 100000) (hk : ptFits bs) :
    Calls Tryz.prog 11 #[.slice a len cap] w fun e w' => Below w.heap.size w w' ∧ (zeros (bs.drop (16 + 4 * ptN bs 2 + 4 * ptN bs 3)) = false ∧ e = .returned ptNone ∨
      zeros (bs.drop (16 + 4 * ptN bs 2 + 4 * ptN bs 3)) = true ∧ ∃ v1 v2, e = .returned (.tuple #[.agg #[.int .u32 (ptN bs 0 : Int), .int .u32 (ptN bs 1 : Int), v1, v2], .int .i64 0]) ∧ OwnU w.heap.size w' v1 (numsU bs 16 (ptN bs 2)) ∧ OwnU w.heap.size w' v2 (numsU bs (16 + 4 * ptN bs 2) (ptN bs 3))) := by
  have H3 := pt3_of w
  obtain ⟨b0, hb0⟩ : ∃ x, x = w.heap.size := ⟨_, rfl⟩
  obtain ⟨W3, hW3⟩ : ∃ x, x = pt3 w := ⟨_, rfl⟩
  rw [← hb0, ← hW3] at H3
  unfold pt3 at hW3
  have HRD := Lib.hid (read_ok a len cap bs 29 #[.pointer (some ⟨b0 + 1, 0, none⟩), .pointer (some ⟨b0 + 2, 0, none⟩)] W3 _ (row_keep hr H3.bel (Nat.le_refl _)) hn hl (fun _ _ => rfl) (ptBy_ok W3 (b0 + 1) bs (by rw [hr.1]; exact hl) hk.1 hk.2 (by rw [H3.size]) H3.at1 H3.at2))
  have HS := Lib.hid H3
  obtain ⟨sq, e0⟩ : ∃ y, ptN bs 0 = y := ⟨_, rfl⟩
  obtain ⟨ba, e1⟩ : ∃ y, ptN bs 1 = y := ⟨_, rfl⟩
  obtain ⟨mn, e2⟩ : ∃ y, ptN bs 2 = y := ⟨_, rfl⟩
  obtain ⟨en, e3⟩ : ∃ y, ptN bs 3 = y := ⟨_, rfl⟩
  rw [e0, e1, e2, e3] at HRD ⊢
  obtain ⟨l1, e4⟩ : ∃ y, numsU bs 16 mn = y := ⟨_, rfl⟩
  obtain ⟨l2, e5⟩ : ∃ y, numsU bs (16 + 4 * mn) en = y := ⟨_, rfl⟩
  obtain ⟨zz, e6⟩ : ∃ y, zeros (bs.drop (16 + 4 * mn + 4 * en)) = y := ⟨_, rfl⟩
  rw [e4, e5, e6] at HRD ⊢
  clear hr hn hl hk H3 e0 e1 e2 e3 e4 e5 e6
  go_enter Tryz.func11, Tryz.ntmps11
  go_wp2_with fail
  rw [← hW3, ← hb0]
  rw [show b0 + 1 + 1 = b0 + 2 from rfl]
  have hle : w.heap.size ≤ b0 := Nat.le_of_eq hb0.symm
  clear hW3 hb0
  ((with_reducible refine HRD.out.mono ?_))
  rintro e w4 ⟨rfl, w5, ⟨v1, v2, hq1, hq2, ho1, ho2, hq⟩, hb5, hk5⟩
  have hs4 := HS.out.size
  have hsb := HS.out.b
  have HB4 : Hid (Below w.heap.size w w4) := Lib.hid (HS.out.bel.trans ((hq.mono (by omega)).trans (hb5.mono (by omega))))
  have hr4 := (hb5.block b0 (by omega)).trans ((hq.block b0 (by omega)).trans HS.out.at0)
  have hp4 := (hb5.block (b0 + 1) (by omega)).trans hq1
  have hz4 := (hb5.block (b0 + 1 + 1) (by omega)).trans hq2
  have zz0 : w4.cell? ⟨b0 + 2, 0, none⟩ = some (.bool zz) := by simp [World.cell?, show w4.heap[b0 + 2]? = _ from hz4]
  obtain ⟨⟨z0, z1, z2, z3⟩, f0, f1, f2, f3⟩ := pt4_at hr4
  obtain ⟨⟨y0, y1, y2, y3⟩, -⟩ := pt4_at hp4
  have ho1' : OwnU (W3.heap.size + 3) w4 v1 l1 := ownU_at ho1 hk5
  have ho2' : OwnU (W3.heap.size + 3) w4 v2 l2 := ownU_at ho2 hk5
  obtain ⟨qa, qn, qc, rfl⟩ := ownU_sl ho1
  obtain ⟨ra, rn, rc, rfl⟩ := ownU_sl ho2
  have HO := Lib.hid (And.intro ho1' ho2')
  have HB0 : Hid (b0 < W3.heap.size + 3 ∧ w.heap.size ≤ W3.heap.size + 3) := Lib.hid (by omega)
  clear hq hq1 hq2 ho1 ho2 hb5 hk5 hs4 hr4 hp4 hz4 hsb ho1' ho2'
  cases zz with
  | false =>
    go_wp2_with fail
    exact bodyPost_ret (v := ptNone) (by simp [ptNone, results, Tryz.results11, go_sem, z0, z1, z2, z3]) rfl ⟨pt4_set HB4.out hle _ _ _ _, rfl⟩
  | true =>
    go_wp2_with fail
    exact bodyPost_ret (v := .tuple #[.agg #[.int .u32 (sq : Int), .int .u32 (ba : Int), .slice qa qn qc, .slice ra rn rc], .int .i64 0]) (by simp [results, Tryz.results11, go_sem, z0, z1, z2, z3]) rfl ⟨pt4_set HB4.out hle _ _ _ _, _, _, rfl, ownU_base (ownU_sets HO.out.1 HB0.out.1 _ _ _ _) HB0.out.2, ownU_base (ownU_sets HO.out.2 HB0.out.1 _ _ _ _) HB0.out.2⟩
end Go.Proofs.YthgcjiocelcblaaGreat

namespace Go.Proofs.YthgcjiocelcblaaGreat
open Go.RowKit

/-- A writer that was made behind all that stands in w0: X is laid. -/
def WX (w0 : World) (X : List Nat) (x : World) : Prop := ∃ sv, WR w0.heap.size x w0.heap.size sv X ∧ Below w0.heap.size w0 x
theorem WX.size {w0 x : World} {X : List Nat} (h : WX w0 X x) : w0.heap.size ≤ x.heap.size := by
  obtain ⟨_, _, hb⟩ := h; exact hb.size
theorem WX.step {w0 x y : World} {X : List Nat} (h : WX w0 X x) (hb : Below x.heap.size x y) : WX w0 X y := by
  obtain ⟨sv, h1, h2⟩ := h
  exact ⟨sv, wr_keep h1 hb, h2.trans (hb.mono h2.size)⟩
theorem WX.bel {w0 x : World} {X : List Nat} (h : WX w0 X x) : Below w0.heap.size w0 x := h.elim fun _ h => h.2
theorem wx_new (w0 : World) : WX w0 [] (w0.alloc (.cells #[.slice none 0 0] 72)) :=
  ⟨_, ⟨Nat.le_refl _, heap_alloc_new _ _, own_nil _ _, by simp [Value.ownBlock]⟩, bel_alloc (Below.refl _ _) _⟩
theorem wx_of {w0 x y : World} {X : List Nat} {sv : Value} {e : Ending} (h : WR w0.heap.size x w0.heap.size sv X) (hb : Below w0.heap.size w0 x) {Y : List Nat} (hr : WRet x w0.heap.size w0.heap.size sv Y e y) : e = .returned (.pointer (some ⟨w0.heap.size, 0, none⟩)) ∧ WX w0 Y y := by
  obtain ⟨rfl, sv', h1, h2⟩ := hr
  exact ⟨rfl, sv', h1, hb.trans (h2.below h hb.size)⟩
theorem row_new1 (w : World) (n : Nat) (hn : n < 256) : Row (w.alloc (.cells #[.int .u8 (n : Int)] 5)) (some ⟨w.heap.size, 0, none⟩) 1 [n] := by
  refine ⟨rfl, by simpa using hn, fun _ => ⟨_, _, rfl, fun i hi => ?_⟩⟩
  obtain rfl : i = 0 := by omega
  exact cell_new1 w _ _
theorem wx_u8 {w0 x : World} {X : List Nat} (h : WX w0 X x) (hX : X.length ≤ 100000) (xa : Option Addr) (m c : Nat) (cs : List Nat) (hr : Row x xa m cs) (hc : xa = none → c = 0) (hm : m ≤ 1000) :
    Calls Tryz.prog 90 #[.pointer (some ⟨w0.heap.size, 0, none⟩), .slice xa m c] x fun e y => e = .returned (.pointer (some ⟨w0.heap.size, 0, none⟩)) ∧ WX w0 (X ++ cs) y := by
  obtain ⟨sv, h1, h2⟩ := h
  exact (wU8_any _ _ sv X x h1 h2.size xa m c cs hr hc (by omega)).mono fun e y hr => wx_of h1 h2 hr
theorem wx_far {B pw : Nat} {x : World} {X : List Nat} {sv : Value} (h : WR B x pw sv X) (k : Nat) (hk : sv.ownBlock = some k) : k < x.heap.size := (h.2.2.1.1.lt k hk).2
theorem wx_u32 {w0 x0 x : World} {X : List Nat} (h : WX w0 X x0) (hb : Below x0.heap.size x0 x) (hX : X.length ≤ 100000) (q m c : Nat) (hq : x0.heap.size ≤ q) (ns : List Nat) (hr : RowK .u32 4294967296 x (some ⟨q, 0, none⟩) m ns) (hm : m ≤ 1000) :
    Calls Tryz.prog 26 #[.pointer (some ⟨w0.heap.size, 0, none⟩), .slice (some ⟨q, 0, none⟩) m c] x fun e y => e = .returned (.pointer (some ⟨w0.heap.size, 0, none⟩)) ∧ WX w0 (X ++ ns.flatMap (Crc.les 4)) y ∧ ∀ k, x0.heap.size ≤ k → k < x.heap.size → y.heap[k]? = x.heap[k]? := by
  obtain ⟨sv, h1, h2⟩ := h
  have hl := (Array.getElem?_eq_some_iff.1 h1.2.1).1
  have hf := wx_far h1
  have h1' := wr_keep h1 hb
  have h2' := h2.trans (hb.mono h2.size)
  refine (wU32_any _ _ sv X x h1' h2'.size (some ⟨q, 0, none⟩) m c ns hr (fun _ z hz => ?_) (by omega) (by omega)).mono fun e y hr => ⟨(wx_of h1' h2' hr).1, (wx_of h1' h2' hr).2, fun k hk1 hk2 => ?_⟩
  · cases hz
    exact ⟨by show q ≠ _; omega, fun e => by have := hf q e.symm; omega⟩
  · obtain ⟨_, sv2, _, hmv⟩ := hr
    exact hmv.block k hk2 (by omega) (fun e => by have := hf k e.symm; omega)
theorem wx_u16 {w0 x0 x : World} {X : List Nat} (h : WX w0 X x0) (hb : Below x0.heap.size x0 x) (hX : X.length ≤ 100000) (q m c : Nat) (hq : x0.heap.size ≤ q) (ns : List Nat) (hr : RowK .u16 65536 x (some ⟨q, 0, none⟩) m ns) (hm : m ≤ 1000) :
    Calls Tryz.prog 89 #[.pointer (some ⟨w0.heap.size, 0, none⟩), .slice (some ⟨q, 0, none⟩) m c] x fun e y => e = .returned (.pointer (some ⟨w0.heap.size, 0, none⟩)) ∧ WX w0 (X ++ ns.flatMap (Crc.les 2)) y := by
  obtain ⟨sv, h1, h2⟩ := h
  have hl := (Array.getElem?_eq_some_iff.1 h1.2.1).1
  have hf := wx_far h1
  have h1' := wr_keep h1 hb
  have h2' := h2.trans (hb.mono h2.size)
  refine (wU16_any _ _ sv X x h1' h2'.size (some ⟨q, 0, none⟩) m c ns hr (fun _ z hz => ?_) (by omega) (by omega)).mono fun e y hr => wx_of h1' h2' hr
  cases hz
  exact ⟨by show q ≠ _; omega, fun e => by have := hf q e.symm; omega⟩
theorem wx_pad {w0 x : World} {X : List Nat} (h : WX w0 X x) (hX : X.length ≤ 100000) (n : Nat) (hn : n ≤ 100000) :
    Calls Tryz.prog 52 #[.pointer (some ⟨w0.heap.size, 0, none⟩), .int .i64 (n : Int)] x fun e y => e = .returned (.pointer (some ⟨w0.heap.size, 0, none⟩)) ∧ WX w0 (padTo X (n : Int)) y := by
  obtain ⟨sv, h1, h2⟩ := h
  exact (wPad_any _ _ sv X x h1 h2.size (n : Int) (by omega) (by omega) (by omega)).mono fun e y hr => wx_of h1 h2 hr
theorem wx_bytes {w0 x : World} {X : List Nat} (h : WX w0 X x) (hX : X.length ≤ 200000) :
    Calls Tryz.prog 27 #[.pointer (some ⟨w0.heap.size, 0, none⟩)] x (RetOwn x X) := by
  obtain ⟨sv, h1, _⟩ := h
  exact wBytes_any _ _ sv X x h1 (by omega)
theorem row_u8 {x : World} {q : Nat} {l : List Nat} (hl : ∀ y ∈ l, y < 256) (h : x.heap[q]? = some (.cells (l.map u8v).toArray 5 (0, 0))) : Row x (some ⟨q, 0, none⟩) l.length l := by
  refine ⟨rfl, hl, fun _ => ⟨q, 0, rfl, fun i hi => ?_⟩⟩
  simp [World.cell?, h, hi, u8v, List.getD]
theorem rowK_blk {K : IntKind} {M : Nat} {x : World} {q : Nat} {t : TypeId} {l : List Nat} (hl : ∀ y ∈ l, y < M) (h : x.heap[q]? = some (.cells (l.map fun (y : Nat) => Value.int K (y : Int)).toArray t (0, 0))) : RowK K M x (some ⟨q, 0, none⟩) l.length l := by
  refine ⟨rfl, hl, fun _ => ⟨q, 0, rfl, fun i hi => ?_⟩⟩
  simp [World.cell?, h, hi, List.getD]
theorem new_at2 (w : World) (o1 o2 : Obj) : ((w.alloc o1).alloc o2).drew.heap[w.heap.size + 1]? = some o2 := by
  have := heap_alloc_new (w.alloc o1) o2
  rw [show (w.alloc o1).heap.size = w.heap.size + 1 by simp] at this
  exact this
end Go.Proofs.YthgcjiocelcblaaGreat

namespace Go.Proofs.YthgcjiocelcblaaGreat
open Go.RowKit

theorem rowK_lt {K : IntKind} {M : Nat} {w : World} {a : Option Addr} {len : Nat} {ns : List Nat} (h : RowK K M w a len ns) (h0 : 0 < len) {x : Addr} (hx : a = some x) : x.block < w.heap.size := by
  obtain ⟨_, _, h3⟩ := h
  obtain ⟨b, off, h4, h5⟩ := h3 h0
  rw [hx] at h4
  cases h4
  exact World.block_lt_of_cell? w _ (h5 0 h0)
theorem wx_u32_far {w0 x : World} {X : List Nat} (h : WX w0 X x) (hX : X.length ≤ 100000) (xa : Option Addr) (m c : Nat) (ns : List Nat) (hr : RowK .u32 4294967296 w0 xa m ns) (hm : m ≤ 1000) :
    Calls Tryz.prog 26 #[.pointer (some ⟨w0.heap.size, 0, none⟩), .slice xa m c] x fun e y => e = .returned (.pointer (some ⟨w0.heap.size, 0, none⟩)) ∧ WX w0 (X ++ ns.flatMap (Crc.les 4)) y := by
  obtain ⟨sv, h1, h2⟩ := h
  refine (wU32_any _ _ sv X x h1 h2.size xa m c ns (rowK_below hr h2) (fun h0 z hz => ?_) (by omega) (by omega)).mono fun e y hr => wx_of h1 h2 hr
  have hl := rowK_lt hr h0 hz
  refine ⟨by omega, fun e => ?_⟩
  have hk := (h1.2.2.1.1.lt z.block e.symm).1
  omega

/-- A point: its numbers, and where they lie. -/
structure PT where
  sq : Nat
  ba : Nat
  ma : Option Addr
  mn : Nat
  mc : Nat
  ml : List Nat
  ea : Option Addr
  en : Nat
  ec : Nat
  el : List Nat
def PT.v (p : PT) : Value := .agg #[.int .u32 (p.sq : Int), .int .u32 (p.ba : Int), .slice p.ma p.mn p.mc, .slice p.ea p.en p.ec]
structure PT.Ok (p : PT) (w : World) : Prop where
  sq_ : p.sq < 4294967296
  ba_ : p.ba < 4294967296
  ml_ : RowK .u32 4294967296 w p.ma p.mn p.ml
  el_ : RowK .u32 4294967296 w p.ea p.en p.el
theorem PT.Ok.step {p : PT} {w x : World} (h : p.Ok w) (hb : Below w.heap.size w x) : p.Ok x := ⟨h.1, h.2, rowK_below h.3 hb, rowK_below h.4 hb⟩
/-- A point's bytes. -/
def ptB (sq ba : Nat) (ml el : List Nat) : List Nat :=
  (([] ++ [sq, ba, ml.length, el.length].flatMap (Crc.les 4)) ++ ml.flatMap (Crc.les 4)) ++ el.flatMap (Crc.les 4)
theorem ptB_len (sq ba : Nat) (ml el : List Nat) : (ptB sq ba ml el).length = 16 + 4 * ml.length + 4 * el.length := by
  unfold ptB
  rw [List.nil_append, List.length_append, List.length_append, flat_les_len, flat_les_len, flat_les_len]
  simp
theorem ptB_lt (sq ba : Nat) (ml el : List Nat) : ∀ y ∈ ptB sq ba ml el, y < 256 := by
  intro y hy
  unfold ptB at hy
  simp only [List.nil_append, List.mem_append, List.mem_flatMap] at hy
  rcases hy with (⟨z, _, hy⟩ | ⟨z, _, hy⟩) | ⟨z, _, hy⟩ <;> exact Crc.les_lt _ _ _ hy
set_option maxRecDepth 100000 in
set_option maxHeartbeats 2000000 in
theorem ptEncode_any (sq ba : Nat) (ma : Option Addr) (mn mc : Nat) (ml : List Nat) (ea : Option Addr) (en ec : Nat) (el : List Nat) (w : World) (h : PT.Ok ⟨sq, ba, ma, mn, mc, ml, ea, en, ec, el⟩ w) (hm : mn ≤ 1000) (he : en ≤ 1000) :
    Calls Tryz.prog 10 #[.agg #[.int .u32 (sq : Int), .int .u32 (ba : Int), .slice ma mn mc, .slice ea en ec]] w (RetOwn w (ptB sq ba ml el)) := by
  have hml : ml.length = mn := h.ml_.1
  have hel : el.length = en := h.el_.1
  have u1 : IntKind.u32.wrap (mn : Int) = (mn : Int) := by rw [IntKind.wrap_u32]; omega
  have u2 : IntKind.u32.wrap (en : Int) = (en : Int) := by rw [IntKind.wrap_u32]; omega
  obtain ⟨w1, hw1⟩ : ∃ x, x = w.alloc (.cells #[.int .u32 (sq : Int), .int .u32 (ba : Int), .slice ma mn mc, .slice ea en ec] 25) := ⟨_, rfl⟩
  obtain ⟨b, hb⟩ : ∃ x, x = w.heap.size := ⟨_, rfl⟩
  have hB1 : Below w.heap.size w w1 := by rw [hw1]; exact bel_alloc (Below.refl _ _) _
  have l0 : w1.heap[b]? = some (.cells #[.int .u32 (sq : Int), .int .u32 (ba : Int), .slice ma mn mc, .slice ea en ec] 25 (0, 0)) := by rw [hw1, hb]; exact heap_alloc_new _ _
  have hok := h.step hB1
  obtain ⟨w2, hw2⟩ : ∃ x, x = w1.alloc (.cells #[.slice none 0 0] 72) := ⟨_, rfl⟩
  obtain ⟨pw, hpw⟩ : ∃ x, x = w1.heap.size := ⟨_, rfl⟩
  have hx2 : WX w1 [] w2 := by rw [hw2]; exact wx_new w1
  have HC : Hid (∀ (X : List Nat) (x : World), WX w1 X x → x.cell? ⟨b, 0, none⟩ = some (.int .u32 (sq : Int)) ∧ x.cell? ⟨b, 1, none⟩ = some (.int .u32 (ba : Int)) ∧ x.cell? ⟨b, 2, none⟩ = some (.slice ma mn mc) ∧ x.cell? ⟨b, 3, none⟩ = some (.slice ea en ec)) := Lib.hid fun X x hx => by
    have hk := (hx.bel.block _ (Array.getElem?_eq_some_iff.1 l0).1).trans l0
    refine ⟨?_, ?_, ?_, ?_⟩ <;> simp [World.cell?, hk]
  have l4 : ([] ++ [sq, ba, mn, en].flatMap (Crc.les 4)).length = 16 := by rw [List.nil_append, flat_les_len]; rfl
  have HA : Hid (Calls Tryz.prog 26 #[.pointer (some ⟨pw, 0, none⟩), .slice (some ⟨w2.heap.size, 0, none⟩) 4 4] (w2.alloc (.cells #[.int .u32 (sq : Int), .int .u32 (ba : Int), .int .u32 (mn : Int), .int .u32 (en : Int)] 22)) fun e z => e = .returned (.pointer (some ⟨pw, 0, none⟩)) ∧ WX w1 ([] ++ [sq, ba, mn, en].flatMap (Crc.les 4)) z) := Lib.hid (by
    have := wx_u32 hx2 (bel_alloc (Below.refl _ _) (.cells #[.int .u32 (sq : Int), .int .u32 (ba : Int), .int .u32 (mn : Int), .int .u32 (en : Int)] 22)) (by simp) w2.heap.size 4 4 (Nat.le_refl _) [sq, ba, mn, en] (rowK_blk (l := [sq, ba, mn, en]) (by
      have := hok.sq_
      have := hok.ba_
      simp only [] at *
      simp
      omega) (heap_alloc_new _ _)) (by omega)
    rw [← hpw] at this
    exact this.mono fun e z h => ⟨h.1, h.2.1⟩)
  have HM : Hid (∀ x : World, WX w1 ([] ++ [sq, ba, mn, en].flatMap (Crc.les 4)) x → Calls Tryz.prog 26 #[.pointer (some ⟨pw, 0, none⟩), .slice ma mn mc] x fun e z => e = .returned (.pointer (some ⟨pw, 0, none⟩)) ∧ WX w1 (([] ++ [sq, ba, mn, en].flatMap (Crc.les 4)) ++ ml.flatMap (Crc.les 4)) z) := Lib.hid fun x hx => by
    have := wx_u32_far hx (by rw [l4]; omega) ma mn mc ml hok.ml_ hm
    rw [← hpw] at this
    exact this
  have HE : Hid (∀ x : World, WX w1 (([] ++ [sq, ba, mn, en].flatMap (Crc.les 4)) ++ ml.flatMap (Crc.les 4)) x → Calls Tryz.prog 26 #[.pointer (some ⟨pw, 0, none⟩), .slice ea en ec] x fun e z => e = .returned (.pointer (some ⟨pw, 0, none⟩)) ∧ WX w1 (ptB sq ba ml el) z) := Lib.hid fun x hx => by
    have := wx_u32_far hx (by rw [List.length_append, l4, flat_les_len, hml]; omega) ea en ec el hok.el_ he
    rw [← hpw] at this
    unfold ptB
    rw [hml, hel]
    exact this
  have HW : Hid (∀ x : World, WX w1 (ptB sq ba ml el) x → Calls Tryz.prog 27 #[.pointer (some ⟨pw, 0, none⟩)] x (RetOwn x (ptB sq ba ml el))) := Lib.hid fun x hx => by
    have := wx_bytes hx (by rw [ptB_len, hml, hel]; omega)
    rw [← hpw] at this
    exact this
  have hp : pw = b + 1 := by rw [hpw, hw1, hb]; simp
  have HX2 := Lib.hid hx2
  have HB1 := Lib.hid hB1
  have hz2 := HC.out _ _ hx2
  clear h hok hm he hml hel l4 hB1 l0 hx2
  go_enter Tryz.func10, Tryz.ntmps10
  go_upto_region 2 with fail
  rw [← hw1, ← hb]
  rw [← hw2, ← hp]
  clear hw1 hb hw2 hp hpw
  obtain ⟨z0, z1, z2, z3⟩ := hz2
  go_wp2_with fail
  ((with_reducible refine HA.out.mono ?_))
  rintro e w3 ⟨rfl, h3⟩
  have HX3 := Lib.hid h3
  clear z0 z1 z2 z3
  obtain ⟨z0, z1, z2, z3⟩ := HC.out _ _ h3
  clear h3 z0 z1
  have hS0 : w3.drew.cell? ⟨b, 2, none⟩ = some (.slice ma mn mc) ∧ w3.drew.cell? ⟨b, 3, none⟩ = some (.slice ea en ec) := ⟨z2, z3⟩
  have HX3D : Hid (WX w1 ([] ++ [sq, ba, mn, en].flatMap (Crc.les 4)) w3.drew) := Lib.hid (HX3.out.step (Below.refl _ _).drew)
  go_upto_region 3 with fail
  go_region_held3 (fun x => x.cell? ⟨b, 2, none⟩ = some (.slice ma mn mc) ∧ x.cell? ⟨b, 3, none⟩ = some (.slice ea en ec))
    (first | with_reducible exact hS0 | with_reducible exact hS1 | go_keep)
    (first
      | (go_simp; go_at_call 26; ((with_reducible refine (HM.out _ HX3D.out).mono ?_)); (intro e z hr; obtain ⟨rfl, hx⟩ := hr; have HX4 := Lib.hid hx; have hS1 := (HC.out _ z hx).2.2; clear hx))
      | (go_simp; go_at_call 26; ((with_reducible refine (HE.out _ HX4.out).mono ?_)); (intro e z hr; obtain ⟨rfl, hx⟩ := hr; have HX5 := Lib.hid hx; have hS1 := (HC.out _ z hx).2.2; clear hx))
      | (go_simp; go_at_call 27; ((with_reducible refine (HW.out _ HX5.out).mono ?_)); (intro e z hr; obtain ⟨sv, rfl, ho, hb⟩ := hr; have HO := Lib.hid (And.intro ho hb); have hS1 := (HC.out _ z (HX5.out.step hb)).2.2; clear ho hb)))
  all_goals
    go_wp2_with fail
    go_ret
    have hs := Nat.le_trans HB1.out.size HX5.out.size
    exact ⟨_, rfl, own_mono HO.out.1 hs, HB1.out.trans ((HX5.out.bel.mono HB1.out.size).trans (HO.out.2.mono hs))⟩
end Go.Proofs.YthgcjiocelcblaaGreat

namespace Go.Proofs.YthgcjiocelcblaaGreat
open Go.RowKit

theorem les4_len (v : Nat) : (Crc.les 4 v).length = 4 := by rfl
theorem ptflat_at : ∀ (l : List Nat) (R : List Nat) (i : Nat) (h : i < l.length), ((l.flatMap (Crc.les 4) ++ R).drop (4 * i)).take 4 = Crc.les 4 l[i]
  | y :: l, R, 0, _ => by
    rw [List.flatMap_cons, List.append_assoc, Nat.mul_zero, List.drop_zero]
    rw [List.take_append_of_le_length (by rw [les4_len]; exact Nat.le_refl _), List.take_of_length_le (by rw [les4_len]; exact Nat.le_refl _)]
    rfl
  | y :: l, R, i + 1, h => by
    rw [List.flatMap_cons, List.append_assoc, show 4 * (i + 1) = (Crc.les 4 y).length + 4 * i by rw [les4_len]; omega, ← List.drop_drop, List.drop_left]
    exact ptflat_at l R i (by simpa using h)
theorem les4_num {v : Nat} (h : v < 4294967296) : leVal (Crc.les 4 v) = v := by rw [leVal_les]; omega
theorem nums_back (A l R : List Nat) (h : ∀ y ∈ l, y < 4294967296) (k : Nat) (hk : k = A.length) (n : Nat) (hn : n = l.length) : numsU (A ++ (l.flatMap (Crc.les 4) ++ R)) k n = l := by
  subst hk hn
  unfold numsU
  apply List.ext_getElem (by simp)
  intro i h1 h2
  rw [List.getElem_map, List.getElem_range, ← List.drop_drop, List.drop_left, ptflat_at l R i h2]
  exact les4_num (h _ (List.getElem_mem h2))
theorem ptB_parts (sq ba : Nat) (ml el Z : List Nat) : ptB sq ba ml el ++ Z = [sq, ba, ml.length, el.length].flatMap (Crc.les 4) ++ (ml.flatMap (Crc.les 4) ++ (el.flatMap (Crc.les 4) ++ Z)) := by
  unfold ptB
  rw [List.nil_append, List.append_assoc, List.append_assoc]
theorem ptB_num (sq ba : Nat) (ml el Z : List Nat) (i : Nat) (h : i < 4) (hv : [sq, ba, ml.length, el.length][i] < 4294967296) : ptN (ptB sq ba ml el ++ Z) i = [sq, ba, ml.length, el.length][i] := by
  unfold ptN
  rw [ptB_parts, ptflat_at [sq, ba, ml.length, el.length] _ i (by simpa using h)]
  exact les4_num hv
theorem ptB_map (sq ba : Nat) (ml el Z : List Nat) (h : ∀ y ∈ ml, y < 4294967296) : numsU (ptB sq ba ml el ++ Z) 16 ml.length = ml := by
  rw [ptB_parts]
  exact nums_back _ ml _ h 16 (by rw [flat_les_len]; rfl) _ rfl
theorem ptB_erases (sq ba : Nat) (ml el Z : List Nat) (h : ∀ y ∈ el, y < 4294967296) : numsU (ptB sq ba ml el ++ Z) (16 + 4 * ml.length) el.length = el := by
  rw [ptB_parts, ← List.append_assoc]
  exact nums_back _ el _ h _ (by rw [List.length_append, flat_les_len, flat_les_len]; rfl) _ rfl
theorem ptB_rest (sq ba : Nat) (ml el Z : List Nat) : (ptB sq ba ml el ++ Z).drop (16 + 4 * ml.length + 4 * el.length) = Z := by
  rw [← ptB_len sq ba ml el, List.drop_left]
theorem ptB_fits (sq ba : Nat) (ml el Z : List Nat) (hm : ml.length < 4294967296) (he : el.length < 4294967296) : ptFits (ptB sq ba ml el ++ Z) := by
  have h2 := ptB_num sq ba ml el Z 2 (by decide) hm
  have h3 := ptB_num sq ba ml el Z 3 (by decide) he
  simp only [List.getElem_cons_succ, List.getElem_cons_zero] at h2 h3
  unfold ptFits
  rw [h2, h3, List.length_append, ptB_len]
  omega
/-- Noughts behind a point's bytes: the same point. -/
theorem ptDecode_back (a : Option Addr) (len cap : Nat) (sq ba : Nat) (ml el Z : List Nat) (w : World) (hr : Row w a len (ptB sq ba ml el ++ Z)) (hn : a = none → cap = 0) (hl : len ≤ 100000) (hsq : sq < 4294967296) (hba : ba < 4294967296)
    (hm : ∀ y ∈ ml, y < 4294967296) (he : ∀ y ∈ el, y < 4294967296) (hz : zeros Z = true) :
    Calls Tryz.prog 11 #[.slice a len cap] w fun e w' => Below w.heap.size w w' ∧ ∃ v1 v2, e = .returned (.tuple #[.agg #[.int .u32 (sq : Int), .int .u32 (ba : Int), v1, v2], .int .i64 0]) ∧ OwnU w.heap.size w' v1 ml ∧ OwnU w.heap.size w' v2 el := by
  have hlen : 16 + 4 * ml.length + 4 * el.length + Z.length = len := by
    rw [← hr.1, List.length_append, ptB_len]
  have h0 := ptB_num sq ba ml el Z 0 (by decide) hsq
  have h1 := ptB_num sq ba ml el Z 1 (by decide) hba
  have h2 := ptB_num sq ba ml el Z 2 (by decide) (by show ml.length < _; omega)
  have h3 := ptB_num sq ba ml el Z 3 (by decide) (by show el.length < _; omega)
  simp only [List.getElem_cons_succ, List.getElem_cons_zero] at h0 h1 h2 h3
  have h := ptDecode_ok a len cap _ w hr hn hl (ptB_fits sq ba ml el Z (by omega) (by omega))
  rw [h0, h1, h2, h3, ptB_map _ _ _ _ _ hm, ptB_erases _ _ _ _ _ he, ptB_rest, hz] at h
  refine h.mono fun e w' hp => ⟨hp.1, ?_⟩
  rcases hp.2 with ⟨h, _⟩ | ⟨_, h⟩
  · cases h
  · exact h
theorem ownU_row {B : Nat} {x : World} {v : Value} {l : List Nat} (h : OwnU B x v l) (hb : ∀ y ∈ l, y < 4294967296) : ∃ a c, v = .slice a l.length c ∧ RowK .u32 4294967296 x a l.length l := by
  obtain ⟨_, h⟩ := h
  rcases h with ⟨rfl, h0⟩ | ⟨g, cap, cur, rfl, _, hg, hc, hm, hs, ht⟩
  · exact ⟨none, 0, by rw [h0], ⟨rfl, hb, fun h => by omega⟩⟩
  · refine ⟨_, cap, rfl, ⟨rfl, hb, fun _ => ⟨g, 0, rfl, fun i hi => ?_⟩⟩⟩
    have h1 : x.cell? ⟨g, 0 + i, none⟩ = cur[i]? := by simp [World.cell?, hg]
    have h2 : cur[i]? = (cur.toList.take (l.length * 1))[i]? := by
      rw [List.getElem?_take_of_lt (by omega), Array.getElem?_toList]
    rw [h1, h2, ht]
    unfold valU
    rw [List.getElem?_map, List.getElem?_eq_getElem hi, getD_in _ _ hi]
    rfl
/-- What Decode gave back, as a point's numbers and rows. -/
theorem ptDecode_pt (a : Option Addr) (len cap : Nat) (sq ba : Nat) (ml el Z : List Nat) (w : World) (hr : Row w a len (ptB sq ba ml el ++ Z)) (hn : a = none → cap = 0) (hl : len ≤ 100000) (hsq : sq < 4294967296) (hba : ba < 4294967296)
    (hm : ∀ y ∈ ml, y < 4294967296) (he : ∀ y ∈ el, y < 4294967296) (hz : zeros Z = true) :
    Calls Tryz.prog 11 #[.slice a len cap] w fun e w' => Below w.heap.size w w' ∧ ∃ ma mc ea ec, e = .returned (.tuple #[.agg #[.int .u32 (sq : Int), .int .u32 (ba : Int), .slice ma ml.length mc, .slice ea el.length ec], .int .i64 0]) ∧ PT.Ok ⟨sq, ba, ma, ml.length, mc, ml, ea, el.length, ec, el⟩ w' := by
  refine (ptDecode_back a len cap sq ba ml el Z w hr hn hl hsq hba hm he hz).mono fun e w' hp => ⟨hp.1, ?_⟩
  obtain ⟨v1, v2, h, h1, h2⟩ := hp.2
  obtain ⟨ma, mc, rfl, r1⟩ := ownU_row h1 hm
  obtain ⟨ea, ec, rfl, r2⟩ := ownU_row h2 he
  exact ⟨ma, mc, ea, ec, h, hsq, hba, r1, r2⟩
end Go.Proofs.YthgcjiocelcblaaGreat
