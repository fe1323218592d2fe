/- stripe: what is found on a member. -/
import Derived.Test.YthgcjiocelcblaaGreatK26
namespace Go.Proofs.YthgcjiocelcblaaGreat
open Go.RowKit Go.Deep

/-- What is found: a page, its header, and whether it is sealed. -/
structure FD where
  d : PS
  o : PS
  h : RH
  b : Bool
def FD.nil : FD := ⟨PS.nil, PS.nil, RH.zero, false⟩
def fdOf (D O : PS) : FD := ⟨D, O, openH D.l O.l, decide (OpenOk D.l O.l)⟩
theorem two_cells {W : World} {b : Nat} {v0 v1 : Value} {t : TypeId} (h : W.heap[b]? = some (.cells #[v0, v1] t (0, 0))) : W.cell? ⟨b, 0, none⟩ = some v0 ∧ W.cell? ⟨b, 1, none⟩ = some v1 := ⟨(two_at h).1, (two_at h).2.1⟩
theorem ten_at {W : World} {b : Nat} {v0 v1 v2 v3 v4 v5 v6 v7 v8 v9 : Value} {t : TypeId} (h : W.heap[b]? = some (.cells #[v0, v1, v2, v3, v4, v5, v6, v7, v8, v9] t (0, 0))) :
    W.cell? ⟨b, 0, none⟩ = some v0 ∧ W.cell? ⟨b, 1, none⟩ = some v1 ∧ W.cell? ⟨b, 2, none⟩ = some v2 ∧ W.cell? ⟨b, 3, none⟩ = some v3 ∧ W.cell? ⟨b, 4, none⟩ = some v4 ∧ W.cell? ⟨b, 5, none⟩ = some v5 ∧ W.cell? ⟨b, 6, none⟩ = some v6 ∧ W.cell? ⟨b, 7, none⟩ = some v7 ∧ W.cell? ⟨b, 8, none⟩ = some v8 ∧ W.cell? ⟨b, 9, none⟩ = some v9 := by
  simp [World.cell?, h]
theorem bel_ten {w w1 : World} (hb : Below w.heap.size w w1) (b : Nat) (h : w.heap.size ≤ b) (v0 v1 v2 v3 v4 v5 v6 v7 v8 v9 : Value) :
    Below w.heap.size w ((((((((((w1.setCell ⟨b, 0, none⟩ v0).setCell ⟨b, 1, none⟩ v1).setCell ⟨b, 2, none⟩ v2).setCell ⟨b, 3, none⟩ v3).setCell ⟨b, 4, none⟩ v4).setCell ⟨b, 5, none⟩ v5).setCell ⟨b, 6, none⟩ v6).setCell ⟨b, 7, none⟩ v7).setCell ⟨b, 8, none⟩ v8).setCell ⟨b, 9, none⟩ v9) :=
  (((((((((hb.setCell (p := ⟨b, 0, none⟩) h _).setCell (p := ⟨b, 1, none⟩) h _).setCell (p := ⟨b, 2, none⟩) h _).setCell (p := ⟨b, 3, none⟩) h _).setCell (p := ⟨b, 4, none⟩) h _).setCell (p := ⟨b, 5, none⟩) h _).setCell (p := ⟨b, 6, none⟩) h _).setCell (p := ⟨b, 7, none⟩) h _).setCell (p := ⟨b, 8, none⟩) h _).setCell (p := ⟨b, 9, none⟩) h _
theorem ten_other (w1 : World) (b k : Nat) (h : k ≠ b) (v0 v1 v2 v3 v4 v5 v6 v7 v8 v9 : Value) :
    ((((((((((w1.setCell ⟨b, 0, none⟩ v0).setCell ⟨b, 1, none⟩ v1).setCell ⟨b, 2, none⟩ v2).setCell ⟨b, 3, none⟩ v3).setCell ⟨b, 4, none⟩ v4).setCell ⟨b, 5, none⟩ v5).setCell ⟨b, 6, none⟩ v6).setCell ⟨b, 7, none⟩ v7).setCell ⟨b, 8, none⟩ v8).setCell ⟨b, 9, none⟩ v9).heap[k]? = w1.heap[k]? := by
  repeat rw [heap_setCell_other _ _ k _ h]
def OpenRet (D O : PS) (w : World) (e : Ending) (w' : World) : Prop :=
  e = .returned (.agg #[.slice D.a D.n D.c, .slice O.a O.n O.c, .int .u8 ((openH D.l O.l).ki : Int), .int .u32 ((openH D.l O.l).ep : Int), .int .u32 ((openH D.l O.l).ba : Int), .int .u16 ((openH D.l O.l).ix : Int), .int .u16 ((openH D.l O.l).ct : Int), .int .u32 ((openH D.l O.l).bl : Int), .int .u32 ((openH D.l O.l).mo : Int), .bool (decide (OpenOk D.l O.l))]) ∧ Below w.heap.size w w'
set_option maxRecDepth 100000 in
theorem stOpen_any (D O : PS) (w : World) (hd : PartOk w D) (ho : PartOk w O) (hn : D.n ≤ 1000) :
    Calls Tryz.prog 103 #[.agg #[.slice D.a D.n D.c, .slice O.a O.n O.c]] w (OpenRet D O w) := by
  obtain ⟨H, bb, hH, hb, _⟩ := open_parts w D O hd ho hn
  have HO : Hid (∀ x : World, Below w.heap.size w x → Calls Tryz.prog 111 #[.slice D.a D.n D.c, .slice O.a O.n O.c] x fun e w' => e = .returned (.tuple #[.agg #[.int .u8 (H.ki : Int), .int .u32 (H.ep : Int), .int .u32 (H.ba : Int), .int .u16 (H.ix : Int), .int .u16 (H.ct : Int), .int .u32 (H.bl : Int), .int .u32 (H.mo : Int)], .bool bb]) ∧ Below x.heap.size x w') := Lib.hid fun x hx => by
    obtain ⟨H2, b2, e1, e2, h⟩ := open_parts x D O (hd.keep hx (Nat.le_refl _)) (ho.keep hx (Nat.le_refl _)) hn
    rw [hH, hb, ← e1, ← e2]
    exact h
  unfold OpenRet
  rw [← hH, ← hb]
  clear hH hb hd ho
  go_enter Tryz.func103, Tryz.ntmps103
  go_wp2_with fail
  obtain ⟨w0, hw0⟩ : ∃ x, x = (w.alloc (.cells #[.slice D.a D.n D.c, .slice O.a O.n O.c] 137)).alloc (.cells #[.slice none 0 0, .slice none 0 0, .int .u8 0, .int .u32 0, .int .u32 0, .int .u16 0, .int .u16 0, .int .u32 0, .int .u32 0, .bool false] 184) := ⟨_, rfl⟩
  have k0 : Below w.heap.size w w0 ∧ w0.heap[w.heap.size]? = some (.cells #[.slice D.a D.n D.c, .slice O.a O.n O.c] 137 (0, 0)) ∧ w0.heap[w.heap.size + 1]? = some (.cells #[.slice none 0 0, .slice none 0 0, .int .u8 0, .int .u32 0, .int .u32 0, .int .u16 0, .int .u16 0, .int .u32 0, .int .u32 0, .bool false] 184 (0, 0)) := by
    rw [hw0]
    refine ⟨bel_alloc (bel_alloc (Below.refl _ w) _) _, ?_, ?_⟩
    · rw [heap_alloc_old' (by simp)]; exact heap_alloc_new w _
    · have := heap_alloc_new (w.alloc (.cells #[.slice D.a D.n D.c, .slice O.a O.n O.c] 137)) (.cells #[.slice none 0 0, .slice none 0 0, .int .u8 0, .int .u32 0, .int .u32 0, .int .u16 0, .int .u16 0, .int .u32 0, .int .u32 0, .bool false] 184)
      simpa using this
  rw [← hw0]
  clear hw0
  obtain ⟨k1, k2, k3⟩ := k0
  ((with_reducible refine (HO.out _ k1).mono ?_))
  rintro e w1 ⟨rfl, hb1⟩
  have j1 := (hb1.block _ (Array.getElem?_eq_some_iff.1 k2).1).trans k2
  have j2 := (hb1.block _ (Array.getElem?_eq_some_iff.1 k3).1).trans k3
  have HB1 := Lib.hid (bel_trans k1 hb1)
  clear k1 k2 k3 hb1
  obtain ⟨w2, hw2⟩ : ∃ x, x = w1.alloc (.cells #[.int .u8 (H.ki : Int), .int .u32 (H.ep : Int), .int .u32 (H.ba : Int), .int .u16 (H.ix : Int), .int .u16 (H.ct : Int), .int .u32 (H.bl : Int), .int .u32 (H.mo : Int)] 93) := ⟨_, rfl⟩
  have l0 := heap_alloc_new w1 (.cells #[.int .u8 (H.ki : Int), .int .u32 (H.ep : Int), .int .u32 (H.ba : Int), .int .u16 (H.ix : Int), .int .u16 (H.ct : Int), .int .u32 (H.bl : Int), .int .u32 (H.mo : Int)] 93)
  have l1 := (heap_alloc_old' (Array.getElem?_eq_some_iff.1 j1).1 (.cells #[.int .u8 (H.ki : Int), .int .u32 (H.ep : Int), .int .u32 (H.ba : Int), .int .u16 (H.ix : Int), .int .u16 (H.ct : Int), .int .u32 (H.bl : Int), .int .u32 (H.mo : Int)] 93)).trans j1
  have l2 := (heap_alloc_old' (Array.getElem?_eq_some_iff.1 j2).1 (.cells #[.int .u8 (H.ki : Int), .int .u32 (H.ep : Int), .int .u32 (H.ba : Int), .int .u16 (H.ix : Int), .int .u16 (H.ct : Int), .int .u32 (H.bl : Int), .int .u32 (H.mo : Int)] 93)).trans j2
  have hb2 := bel_alloc HB1.out (.cells #[.int .u8 (H.ki : Int), .int .u32 (H.ep : Int), .int .u32 (H.ba : Int), .int .u16 (H.ix : Int), .int .u16 (H.ct : Int), .int .u32 (H.bl : Int), .int .u32 (H.mo : Int)] 93)
  go_upto_region 2 with fail
  rw [← hw2] at l0 l1 l2 hb2 ⊢
  clear hw2 j1 j2
  obtain ⟨x0, x1⟩ := two_cells l1
  obtain ⟨h0, h1, h2, h3, h4, h5, h6⟩ := seven_at l0
  obtain ⟨z0, z1, z2, z3, z4, z5, z6, z7, z8, z9⟩ := ten_at l2
  have zf := free_at l2
  have HB2 := Lib.hid hb2
  clear l0 l1 l2 hb2
  go_wp2
  refine bodyPost_ret (v := .agg #[.slice D.a D.n D.c, .slice O.a O.n O.c, .int .u8 (H.ki : Int), .int .u32 (H.ep : Int), .int .u32 (H.ba : Int), .int .u16 (H.ix : Int), .int .u16 (H.ct : Int), .int .u32 (H.bl : Int), .int .u32 (H.mo : Int), .bool bb]) (by simp [results, Tryz.results103, go_sem, z0, z1, z2, z3, z4, z5, z6, z7, z8, z9]) rfl ⟨rfl, ?_⟩
  exact bel_ten HB2.out (w.heap.size + 1) (by simp) _ _ _ _ _ _ _ _ _ _
def LookRet (s : RS) (k : Nat × Nat × Nat) (w : World) (e : Ending) (w' : World) : Prop :=
  ∃ (D O : PS) (H : RH) (bb : Bool), e = .returned (.tuple #[.agg #[.slice D.a D.n D.c, .slice O.a O.n O.c, .int .u8 (H.ki : Int), .int .u32 (H.ep : Int), .int .u32 (H.ba : Int), .int .u16 (H.ix : Int), .int .u16 (H.ct : Int), .int .u32 (H.bl : Int), .int .u32 (H.mo : Int), .bool bb], .int .i64 0]) ∧ H = openH D.l O.l ∧ bb = decide (OpenOk D.l O.l) ∧ D.l = (s.page k).take s.sz ∧ O.l = (s.page k).drop s.sz ∧ D.n = s.sz ∧ O.n = 64 ∧ PartOk w' D ∧ PartOk w' O ∧ Far w.heap.size D ∧ Far w.heap.size O ∧ Below w.heap.size w w'
section
variable {B : Nat} {s : RS} {w : World}
theorem ramRead_live (h : Ram B s w) (m b p : Nat) (hm : m < s.n) (hb : b + 5 < s.bl) (hp : p < s.pg) (hg : s.gone m = 0) :
    Calls Tryz.prog 137 #[.pointer (some ⟨s.rb, 0, none⟩), .int .i64 (m : Int), .int .i64 (b : Int), .int .i64 (p : Int)] w (ReadRet s (m, b, p) w) := by
  cases hF : s.F (m, b, p) with
  | none => exact ramRead_none h m b p hm hb hp hg hF
  | some p0 => exact ramRead_some h m b p hm hb hp hg p0 hF
set_option maxRecDepth 100000 in
theorem look_dead (h : Ram B s w) (m b p : Nat) (hm : m < s.n) (hb : b + 5 < s.bl) (hp : p < s.pg) (hg : s.gone m ≠ 0) :
    Calls Tryz.prog 109 #[.iface 51 (.pointer (some ⟨s.rb, 0, none⟩)), .int .i64 (m : Int), .int .i64 (b : Int), .int .i64 (p : Int)] w fun e w' => e = .returned (.tuple #[.agg #[.slice none 0 0, .slice none 0 0, .int .u8 0, .int .u32 0, .int .u32 0, .int .u16 0, .int .u16 0, .int .u32 0, .int .u32 0, .bool false], .int .i64 71]) ∧ Below w.heap.size w w' := by
  have HR := Lib.hid fun (x : World) (hx : Below w.heap.size w x) => ramRead_dead (h.step hx) m b p hm hb hp hg
  have tm := fun k => m_read k ⟨s.rb, 0, none⟩
  clear h hm hb hp hg
  go_enter Tryz.func109, Tryz.ntmps109
  go_wp2_with fail
  obtain ⟨w0, hw0⟩ : ∃ x, x = w.alloc (.cells #[.slice none 0 0, .slice none 0 0, .int .u8 0, .int .u32 0, .int .u32 0, .int .u16 0, .int .u16 0, .int .u32 0, .int .u32 0, .bool false] 184) := ⟨_, rfl⟩
  have k1 := bel_alloc (Below.refl _ w) (.cells #[.slice none 0 0, .slice none 0 0, .int .u8 0, .int .u32 0, .int .u32 0, .int .u16 0, .int .u16 0, .int .u32 0, .int .u32 0, .bool false] 184)
  have k2 := heap_alloc_new w (.cells #[.slice none 0 0, .slice none 0 0, .int .u8 0, .int .u32 0, .int .u32 0, .int .u16 0, .int .u16 0, .int .u32 0, .int .u32 0, .bool false] 184)
  rw [← hw0] at k1 k2 ⊢
  clear hw0
  ((with_reducible refine (HR.out _ k1).mono ?_))
  rintro e w1 ⟨rfl, hb1⟩
  have j2 := (hb1.block _ (Array.getElem?_eq_some_iff.1 k2).1).trans k2
  have HB1 := Lib.hid (bel_trans k1 hb1)
  obtain ⟨z0, z1, z2, z3, z4, z5, z6, z7, z8, z9⟩ := ten_at j2
  have zf := free_at j2
  clear k1 k2 hb1 j2
  go_wp2
  refine bodyPost_ret (v := .tuple #[.agg #[.slice none 0 0, .slice none 0 0, .int .u8 0, .int .u32 0, .int .u32 0, .int .u16 0, .int .u16 0, .int .u32 0, .int .u32 0, .bool false], .int .i64 71]) (by simp [results, Tryz.results109, go_sem, z0, z1, z2, z3, z4, z5, z6, z7, z8, z9]) rfl ⟨rfl, ?_⟩
  exact bel_ten HB1.out w.heap.size (Nat.le_refl _) _ _ _ _ _ _ _ _ _ _
set_option maxRecDepth 100000 in
theorem look_live (h : Ram B s w) (hsz : s.sz ≤ 1000) (m b p : Nat) (hm : m < s.n) (hb : b + 5 < s.bl) (hp : p < s.pg) (hg : s.gone m = 0) :
    Calls Tryz.prog 109 #[.iface 51 (.pointer (some ⟨s.rb, 0, none⟩)), .int .i64 (m : Int), .int .i64 (b : Int), .int .i64 (p : Int)] w (LookRet s (m, b, p) w) := by
  have HR := Lib.hid fun (x : World) (hx : Below w.heap.size w x) => ramRead_live (h.step hx) m b p hm hb hp hg
  have tm := fun k => m_read k ⟨s.rb, 0, none⟩
  clear h hm hb hp hg
  go_enter Tryz.func109, Tryz.ntmps109
  go_wp2_with fail
  obtain ⟨w0, hw0⟩ : ∃ x, x = w.alloc (.cells #[.slice none 0 0, .slice none 0 0, .int .u8 0, .int .u32 0, .int .u32 0, .int .u16 0, .int .u16 0, .int .u32 0, .int .u32 0, .bool false] 184) := ⟨_, rfl⟩
  have k1 := bel_alloc (Below.refl _ w) (.cells #[.slice none 0 0, .slice none 0 0, .int .u8 0, .int .u32 0, .int .u32 0, .int .u16 0, .int .u16 0, .int .u32 0, .int .u32 0, .bool false] 184)
  have k2 := heap_alloc_new w (.cells #[.slice none 0 0, .slice none 0 0, .int .u8 0, .int .u32 0, .int .u32 0, .int .u16 0, .int .u16 0, .int .u32 0, .int .u32 0, .bool false] 184)
  have k3 : w0.heap.size = w.heap.size + 1 := by rw [hw0]; simp
  rw [← hw0] at k1 k2 ⊢
  clear hw0
  ((with_reducible refine (HR.out _ k1).mono ?_))
  rintro e w1 ⟨D, O, rfl, q1, q2, q3, q4, q5, q6, q7, q8, hb1⟩
  have j2 := (hb1.block _ (Array.getElem?_eq_some_iff.1 k2).1).trans k2
  have HB1 := Lib.hid (bel_trans k1 hb1)
  have HOP := Lib.hid (stOpen_any D O w1 q5 q6 (by omega))
  have HQ := Lib.hid (And.intro q1 (And.intro q2 (And.intro q3 (And.intro q4 (And.intro q5 (And.intro q6 (And.intro (show Far (w.heap.size + 1) D from fun x hx => Nat.le_trans (Nat.le_of_eq k3.symm) (q7 x hx)) (show Far (w.heap.size + 1) O from fun x hx => Nat.le_trans (Nat.le_of_eq k3.symm) (q8 x hx)))))))))
  have J2 := Lib.hid j2
  clear k1 k2 k3 hb1 j2 q1 q2 q3 q4 q5 q6 q7 q8
  go_wp2_with fail
  ((with_reducible refine HOP.out.mono ?_))
  intro e w2 hr
  obtain ⟨H, hH⟩ : ∃ H, H = openH D.l O.l := ⟨_, rfl⟩
  obtain ⟨bb, hbb⟩ : ∃ bb, bb = decide (OpenOk D.l O.l) := ⟨_, rfl⟩
  unfold OpenRet at hr
  rw [← hH, ← hbb] at hr
  obtain ⟨rfl, hb2⟩ := hr
  have j3 := (hb2.block _ (Array.getElem?_eq_some_iff.1 J2.out).1).trans J2.out
  have HB2 := Lib.hid (bel_trans HB1.out hb2)
  have HP := Lib.hid (And.intro (HQ.out.2.2.2.2.1.step hb2) (HQ.out.2.2.2.2.2.1.step hb2))
  have HE := Lib.hid (And.intro hH hbb)
  obtain ⟨z0, z1, z2, z3, z4, z5, z6, z7, z8, z9⟩ := ten_at j3
  have zf := free_at j3
  clear j3 hb2 hH hbb
  go_wp2
  refine bodyPost_ret (v := .tuple #[.agg #[.slice D.a D.n D.c, .slice O.a O.n O.c, .int .u8 (H.ki : Int), .int .u32 (H.ep : Int), .int .u32 (H.ba : Int), .int .u16 (H.ix : Int), .int .u16 (H.ct : Int), .int .u32 (H.bl : Int), .int .u32 (H.mo : Int), .bool bb], .int .i64 0]) (by simp [results, Tryz.results109, go_sem, z0, z1, z2, z3, z4, z5, z6, z7, z8, z9]) rfl ?_
  have hpk : ∀ q : PS, PartOk w2 q → Far (w.heap.size + 1) q → PartOk ((((((((((w2.setCell ⟨w.heap.size, 0, none⟩ (.slice D.a D.n D.c)).setCell ⟨w.heap.size, 1, none⟩ (.slice O.a O.n O.c)).setCell ⟨w.heap.size, 2, none⟩ (.int .u8 (H.ki : Int))).setCell ⟨w.heap.size, 3, none⟩ (.int .u32 (H.ep : Int))).setCell ⟨w.heap.size, 4, none⟩ (.int .u32 (H.ba : Int))).setCell ⟨w.heap.size, 5, none⟩ (.int .u16 (H.ix : Int))).setCell ⟨w.heap.size, 6, none⟩ (.int .u16 (H.ct : Int))).setCell ⟨w.heap.size, 7, none⟩ (.int .u32 (H.bl : Int))).setCell ⟨w.heap.size, 8, none⟩ (.int .u32 (H.mo : Int))).setCell ⟨w.heap.size, 9, none⟩ (.bool bb)) q := fun q q1 q2 =>
    q1.at_ fun _ x hx => ten_other w2 w.heap.size x.block (by have := q2 x hx; omega) _ _ _ _ _ _ _ _ _ _
  exact ⟨D, O, H, bb, rfl, HE.out.1, HE.out.2, HQ.out.1, HQ.out.2.1, HQ.out.2.2.1, HQ.out.2.2.2.1, hpk D HP.out.1 HQ.out.2.2.2.2.2.2.1, hpk O HP.out.2 HQ.out.2.2.2.2.2.2.2, fun x hx => by have := HQ.out.2.2.2.2.2.2.1 x hx; omega, fun x hx => by have := HQ.out.2.2.2.2.2.2.2 x hx; omega, bel_ten HB2.out w.heap.size (Nat.le_refl _) _ _ _ _ _ _ _ _ _ _⟩
end
end Go.Proofs.YthgcjiocelcblaaGreat

namespace Go.Proofs.YthgcjiocelcblaaGreat
open Go.RowKit Go.Deep

def FPageRet (D : PS) (H : RH) (w : World) (e : Ending) (w' : World) : Prop :=
  ∃ E : PS, e = .returned (.agg #[.int .u8 (H.ki : Int), .int .u32 (H.ep : Int), .int .u32 (H.ba : Int), .int .u16 (H.ix : Int), .int .u16 (H.ct : Int), .int .u32 (H.bl : Int), .int .u32 (H.mo : Int), .slice E.a E.n E.c]) ∧ E.l = D.l ∧ E.n = D.n ∧ PartOk w' E ∧ Far w.heap.size E ∧ Below w.heap.size w w'
theorem eight_other (w1 : World) (b k : Nat) (h : k ≠ b) (v0 v1 v2 v3 v4 v5 v6 v7 : Value) :
    ((((((((w1.setCell ⟨b, 0, none⟩ v0).setCell ⟨b, 1, none⟩ v1).setCell ⟨b, 2, none⟩ v2).setCell ⟨b, 3, none⟩ v3).setCell ⟨b, 4, none⟩ v4).setCell ⟨b, 5, none⟩ v5).setCell ⟨b, 6, none⟩ v6).setCell ⟨b, 7, none⟩ v7).heap[k]? = w1.heap[k]? := by
  repeat rw [heap_setCell_other _ _ k _ h]
theorem eight_keep {W : World} {k b : Nat} {v0 v1 v2 v3 v4 v5 v6 v7 u0 u1 u2 u3 u4 u5 u6 u7 : Value}
    (h : W.cell? ⟨k, 0, none⟩ = some v0 ∧ W.cell? ⟨k, 2, none⟩ = some v1 ∧ W.cell? ⟨k, 3, none⟩ = some v2 ∧ W.cell? ⟨k, 4, none⟩ = some v3 ∧ W.cell? ⟨k, 5, none⟩ = some v4 ∧ W.cell? ⟨k, 6, none⟩ = some v5 ∧ W.cell? ⟨k, 7, none⟩ = some v6 ∧ W.cell? ⟨k, 8, none⟩ = some v7) (hne : k ≠ b) : ((((((((W.setCell ⟨b, 0, none⟩ u0).setCell ⟨b, 1, none⟩ u1).setCell ⟨b, 2, none⟩ u2).setCell ⟨b, 3, none⟩ u3).setCell ⟨b, 4, none⟩ u4).setCell ⟨b, 5, none⟩ u5).setCell ⟨b, 6, none⟩ u6).setCell ⟨b, 7, none⟩ u7).cell? ⟨k, 0, none⟩ = some v0 ∧ ((((((((W.setCell ⟨b, 0, none⟩ u0).setCell ⟨b, 1, none⟩ u1).setCell ⟨b, 2, none⟩ u2).setCell ⟨b, 3, none⟩ u3).setCell ⟨b, 4, none⟩ u4).setCell ⟨b, 5, none⟩ u5).setCell ⟨b, 6, none⟩ u6).setCell ⟨b, 7, none⟩ u7).cell? ⟨k, 2, none⟩ = some v1 ∧ ((((((((W.setCell ⟨b, 0, none⟩ u0).setCell ⟨b, 1, none⟩ u1).setCell ⟨b, 2, none⟩ u2).setCell ⟨b, 3, none⟩ u3).setCell ⟨b, 4, none⟩ u4).setCell ⟨b, 5, none⟩ u5).setCell ⟨b, 6, none⟩ u6).setCell ⟨b, 7, none⟩ u7).cell? ⟨k, 3, none⟩ = some v2 ∧ ((((((((W.setCell ⟨b, 0, none⟩ u0).setCell ⟨b, 1, none⟩ u1).setCell ⟨b, 2, none⟩ u2).setCell ⟨b, 3, none⟩ u3).setCell ⟨b, 4, none⟩ u4).setCell ⟨b, 5, none⟩ u5).setCell ⟨b, 6, none⟩ u6).setCell ⟨b, 7, none⟩ u7).cell? ⟨k, 4, none⟩ = some v3 ∧ ((((((((W.setCell ⟨b, 0, none⟩ u0).setCell ⟨b, 1, none⟩ u1).setCell ⟨b, 2, none⟩ u2).setCell ⟨b, 3, none⟩ u3).setCell ⟨b, 4, none⟩ u4).setCell ⟨b, 5, none⟩ u5).setCell ⟨b, 6, none⟩ u6).setCell ⟨b, 7, none⟩ u7).cell? ⟨k, 5, none⟩ = some v4 ∧ ((((((((W.setCell ⟨b, 0, none⟩ u0).setCell ⟨b, 1, none⟩ u1).setCell ⟨b, 2, none⟩ u2).setCell ⟨b, 3, none⟩ u3).setCell ⟨b, 4, none⟩ u4).setCell ⟨b, 5, none⟩ u5).setCell ⟨b, 6, none⟩ u6).setCell ⟨b, 7, none⟩ u7).cell? ⟨k, 6, none⟩ = some v5 ∧ ((((((((W.setCell ⟨b, 0, none⟩ u0).setCell ⟨b, 1, none⟩ u1).setCell ⟨b, 2, none⟩ u2).setCell ⟨b, 3, none⟩ u3).setCell ⟨b, 4, none⟩ u4).setCell ⟨b, 5, none⟩ u5).setCell ⟨b, 6, none⟩ u6).setCell ⟨b, 7, none⟩ u7).cell? ⟨k, 7, none⟩ = some v6 ∧ ((((((((W.setCell ⟨b, 0, none⟩ u0).setCell ⟨b, 1, none⟩ u1).setCell ⟨b, 2, none⟩ u2).setCell ⟨b, 3, none⟩ u3).setCell ⟨b, 4, none⟩ u4).setCell ⟨b, 5, none⟩ u5).setCell ⟨b, 6, none⟩ u6).setCell ⟨b, 7, none⟩ u7).cell? ⟨k, 8, none⟩ = some v7 := by
  have key : ∀ o v, W.cell? ⟨k, o, none⟩ = some v → ((((((((W.setCell ⟨b, 0, none⟩ u0).setCell ⟨b, 1, none⟩ u1).setCell ⟨b, 2, none⟩ u2).setCell ⟨b, 3, none⟩ u3).setCell ⟨b, 4, none⟩ u4).setCell ⟨b, 5, none⟩ u5).setCell ⟨b, 6, none⟩ u6).setCell ⟨b, 7, none⟩ u7).cell? ⟨k, o, none⟩ = some v := fun o v hv => (World.cell?_of_block (w := W) (a := ⟨k, o, none⟩) (eight_other W b k hne _ _ _ _ _ _ _ _)).trans hv
  obtain ⟨h0, h1, h2, h3, h4, h5, h6, h7⟩ := h
  exact ⟨key _ _ h0, key _ _ h1, key _ _ h2, key _ _ h3, key _ _ h4, key _ _ h5, key _ _ h6, key _ _ h7⟩
theorem bel_eight {w w1 : World} (hb : Below w.heap.size w w1) (b : Nat) (h : w.heap.size ≤ b) (v0 v1 v2 v3 v4 v5 v6 v7 : Value) :
    Below w.heap.size w ((((((((w1.setCell ⟨b, 0, none⟩ v0).setCell ⟨b, 1, none⟩ v1).setCell ⟨b, 2, none⟩ v2).setCell ⟨b, 3, none⟩ v3).setCell ⟨b, 4, none⟩ v4).setCell ⟨b, 5, none⟩ v5).setCell ⟨b, 6, none⟩ v6).setCell ⟨b, 7, none⟩ v7) :=
  (((((((hb.setCell (p := ⟨b, 0, none⟩) h _).setCell (p := ⟨b, 1, none⟩) h _).setCell (p := ⟨b, 2, none⟩) h _).setCell (p := ⟨b, 3, none⟩) h _).setCell (p := ⟨b, 4, none⟩) h _).setCell (p := ⟨b, 5, none⟩) h _).setCell (p := ⟨b, 6, none⟩) h _).setCell (p := ⟨b, 7, none⟩) h _
set_option maxRecDepth 100000 in
set_option maxHeartbeats 400000 in
theorem fpage_any (D O : PS) (H : RH) (bb : Bool) (w : World) (hd : PartOk w D) (hn : D.n ≤ 1000) :
    Calls Tryz.prog 104 #[.agg #[.slice D.a D.n D.c, .slice O.a O.n O.c, .int .u8 (H.ki : Int), .int .u32 (H.ep : Int), .int .u32 (H.ba : Int), .int .u16 (H.ix : Int), .int .u16 (H.ct : Int), .int .u32 (H.bl : Int), .int .u32 (H.mo : Int), .bool bb]] w (FPageRet D H w) := by
  have HCL := Lib.hid fun (x : World) (hx : Below w.heap.size w x) => clone_any D.a D.n D.c D.l x (hd.keep hx (Nat.le_refl _)).1 (hd.keep hx (Nat.le_refl _)).2.2.2 (by omega)
  have HDL := Lib.hid hd.1.1
  clear hd
  go_enter Tryz.func104, Tryz.ntmps104
  go_wp2_with fail
  obtain ⟨w0, hw0⟩ : ∃ x, x = (w.alloc (.cells #[.slice D.a D.n D.c, .slice O.a O.n O.c, .int .u8 (H.ki : Int), .int .u32 (H.ep : Int), .int .u32 (H.ba : Int), .int .u16 (H.ix : Int), .int .u16 (H.ct : Int), .int .u32 (H.bl : Int), .int .u32 (H.mo : Int), .bool bb] 184)).alloc (.cells #[.int .u8 0, .int .u32 0, .int .u32 0, .int .u16 0, .int .u16 0, .int .u32 0, .int .u32 0, .slice none 0 0] 95) := ⟨_, rfl⟩
  have k0 : Below w.heap.size w w0 ∧ w0.heap[w.heap.size]? = some (.cells #[.slice D.a D.n D.c, .slice O.a O.n O.c, .int .u8 (H.ki : Int), .int .u32 (H.ep : Int), .int .u32 (H.ba : Int), .int .u16 (H.ix : Int), .int .u16 (H.ct : Int), .int .u32 (H.bl : Int), .int .u32 (H.mo : Int), .bool bb] 184 (0, 0)) ∧ w0.heap[w.heap.size + 1]? = some (.cells #[.int .u8 0, .int .u32 0, .int .u32 0, .int .u16 0, .int .u16 0, .int .u32 0, .int .u32 0, .slice none 0 0] 95 (0, 0)) ∧ w0.heap.size = w.heap.size + 2 := by
    rw [hw0]
    refine ⟨bel_alloc (bel_alloc (Below.refl _ w) _) _, ?_, ?_, by simp⟩
    · rw [heap_alloc_old' (by simp)]; exact heap_alloc_new w _
    · have := heap_alloc_new (w.alloc (.cells #[.slice D.a D.n D.c, .slice O.a O.n O.c, .int .u8 (H.ki : Int), .int .u32 (H.ep : Int), .int .u32 (H.ba : Int), .int .u16 (H.ix : Int), .int .u16 (H.ct : Int), .int .u32 (H.bl : Int), .int .u32 (H.mo : Int), .bool bb] 184)) (.cells #[.int .u8 0, .int .u32 0, .int .u32 0, .int .u16 0, .int .u16 0, .int .u32 0, .int .u32 0, .slice none 0 0] 95)
      simpa using this
  rw [← hw0]
  clear hw0
  obtain ⟨k1, k2, k3, k4⟩ := k0
  have HX : Hid (∀ x : World, Below w0.heap.size w0 x → (x.cell? ⟨w.heap.size, 0, none⟩ = some (.slice D.a D.n D.c) ∧ x.cell? ⟨w.heap.size, 2, none⟩ = some (.int .u8 (H.ki : Int)) ∧ x.cell? ⟨w.heap.size, 3, none⟩ = some (.int .u32 (H.ep : Int)) ∧ x.cell? ⟨w.heap.size, 4, none⟩ = some (.int .u32 (H.ba : Int)) ∧ x.cell? ⟨w.heap.size, 5, none⟩ = some (.int .u16 (H.ix : Int)) ∧ x.cell? ⟨w.heap.size, 6, none⟩ = some (.int .u16 (H.ct : Int)) ∧ x.cell? ⟨w.heap.size, 7, none⟩ = some (.int .u32 (H.bl : Int)) ∧ x.cell? ⟨w.heap.size, 8, none⟩ = some (.int .u32 (H.mo : Int))) ∧
      x.heap[w.heap.size + 1]? = some (.cells #[.int .u8 0, .int .u32 0, .int .u32 0, .int .u16 0, .int .u16 0, .int .u32 0, .int .u32 0, .slice none 0 0] 95 (0, 0))) := Lib.hid fun x hx => by
    obtain ⟨z0, z1, z2, z3, z4, z5, z6, z7, z8, z9⟩ := ten_at ((hx.block _ (Array.getElem?_eq_some_iff.1 k2).1).trans k2)
    exact ⟨⟨z0, z2, z3, z4, z5, z6, z7, z8⟩, (hx.block _ (Array.getElem?_eq_some_iff.1 k3).1).trans k3⟩
  have K1 := Lib.hid k1
  have K4 := Lib.hid k4
  have hS0 := (HX.out w0.drew (Below.refl _ _).drew).1
  clear k1 k2 k3 k4
  go_region_held3 (fun x => x.cell? ⟨w.heap.size, 0, none⟩ = some (.slice D.a D.n D.c) ∧ x.cell? ⟨w.heap.size, 2, none⟩ = some (.int .u8 (H.ki : Int)) ∧ x.cell? ⟨w.heap.size, 3, none⟩ = some (.int .u32 (H.ep : Int)) ∧ x.cell? ⟨w.heap.size, 4, none⟩ = some (.int .u32 (H.ba : Int)) ∧ x.cell? ⟨w.heap.size, 5, none⟩ = some (.int .u16 (H.ix : Int)) ∧ x.cell? ⟨w.heap.size, 6, none⟩ = some (.int .u16 (H.ct : Int)) ∧ x.cell? ⟨w.heap.size, 7, none⟩ = some (.int .u32 (H.bl : Int)) ∧ x.cell? ⟨w.heap.size, 8, none⟩ = some (.int .u32 (H.mo : Int)))
    (first | with_reducible exact hS0 | with_reducible exact hS1 | with_reducible exact eight_keep hS1 (Nat.ne_of_lt (Nat.lt_succ_self _)) | go_keep)
    ((go_simp; go_at_call 46; ((with_reducible refine (HCL.out _ (K1.out.drew)).mono ?_)); (intro e w1 hr; obtain ⟨E, rfl, hEl, hEn, hEk, hb1, hEf⟩ := part_ret' hr; have HB1 := Lib.hid ((Below.refl w0.heap.size w0).drew.trans (hb1.mono (by simp))); have HE := Lib.hid (And.intro hEl (And.intro hEn (And.intro hEk hEf))); have hS1 := (HX.out w1 HB1.out).1; obtain ⟨z0, z1, z2, z3, z4, z5, z6, z7⟩ := eight_at (HX.out w1 HB1.out).2; have zf := free_at (HX.out w1 HB1.out).2; clear hr hEl hEn hEk hb1 hEf)))
  all_goals
    clear hS0 hS1
    go_wp2
    refine bodyPost_ret (v := .agg #[.int .u8 (H.ki : Int), .int .u32 (H.ep : Int), .int .u32 (H.ba : Int), .int .u16 (H.ix : Int), .int .u16 (H.ct : Int), .int .u32 (H.bl : Int), .int .u32 (H.mo : Int), .slice E.a E.n E.c]) (by simp [results, Tryz.results104, go_sem, z0, z1, z2, z3, z4, z5, z6, z7]) rfl ?_
    have hef : ∀ x, E.a = some x → w.heap.size + 2 ≤ x.block := fun x hx => Nat.le_trans (Nat.le_of_eq K4.out.symm) (HE.out.2.2.2 x hx)
    exact ⟨E, rfl, HE.out.1, by rw [HE.out.2.1]; exact HDL.out, HE.out.2.2.1.at_ fun _ x hx => eight_other w1 (w.heap.size + 1) x.block (by have := hef x hx; omega) _ _ _ _ _ _ _ _, fun x hx => by have := hef x hx; omega, bel_eight (bel_trans K1.out HB1.out) (w.heap.size + 1) (by simp) _ _ _ _ _ _ _ _⟩
end Go.Proofs.YthgcjiocelcblaaGreat
