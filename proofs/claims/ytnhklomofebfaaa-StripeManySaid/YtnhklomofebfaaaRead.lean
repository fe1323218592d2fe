/- stripe: Read, of a member that is alive and whose page is sealed. -/
import Derived.Test.YtnhklomofebfaaaComplete
import Derived.Test.YtnhklomofebfaaaFPage
namespace Go.Proofs.Ytnhklomofebfaaa
open Go.RowKit Go.Deep

def ReadPRet (H : RH) (l : List Nat) (w : World) (e : Ending) (w' : World) : Prop :=
  ∃ E : PS, e = .returned (.tuple #[.agg #[.int .u8 (H.ki : Int), .int .u32 (H.ep : Int), .int .u32 (H.ba : Int), .int .u16 (H.ix : Int), .int .u16 (H.ct : Int), .int .u32 (H.bl : Int), .int .u32 (H.mo : Int), .slice E.a E.n E.c], .int .i64 0]) ∧ E.l = l ∧ PartOk w' E ∧ Far w.heap.size E ∧ Below w.heap.size w w'
section
variable {B : Nat} {s : RS} {w : World}
set_option maxRecDepth 100000 in
set_option maxHeartbeats 1000000 in
theorem read_plain (h : Ram B s w) (hsz : s.sz ≤ 1000) (seg row slot p : Nat) (hseg : seg + 5 < s.bl) (hrow : row < s.pg) (hslot : slot + 1 < s.n) (hp : ((p : Nat) : Int) = ParOf s.n s.pg seg row) (hgone : s.gone (memOf p slot) = 0)
    (hok : OpenOk ((s.page (memOf p slot, seg, row)).take s.sz) ((s.page (memOf p slot, seg, row)).drop s.sz)) :
    Calls Try.prog 13 #[.iface 30 (.pointer (some ⟨s.rb, 0, none⟩)), .agg #[.int .i64 (seg : Int), .int .i64 (row : Int), .int .i64 (slot : Int)]] w
      (ReadPRet (openH ((s.page (memOf p slot, seg, row)).take s.sz) ((s.page (memOf p slot, seg, row)).drop s.sz)) ((s.page (memOf p slot, seg, row)).take s.sz) w) := by
  have hg := h.geo
  have hn16 : s.n ≤ 16 := by have := hg.2.1; omega
  have hbl : s.bl ≤ 64 := by have := hg.2.2.2.1; omega
  have hpg : s.pg ≤ 32 := by have := hg.2.2.2.2.2.1; omega
  have hmn : memOf p slot < s.n := by unfold memOf; split <;> omega
  obtain ⟨m, hm⟩ : ∃ m, m = memOf p slot := ⟨_, rfl⟩
  have HSH := Lib.hid fun (x : World) (hx : Below w.heap.size w x) => shape_ok (h.step hx) (seg : Int) (row : Int) (slot : Int) (by omega) (by omega) (by omega)
  have HME := Lib.hid fun (x : World) => member_any s.n s.bl s.pg s.sz seg row p slot x hg (by omega) (by omega) (by omega) (by omega) hp (by omega)
  rw [← hm] at hgone hok hmn HME ⊢
  have HLK := Lib.hid fun (x : World) (hx : Below w.heap.size w x) => look_live (h.step hx) hsz m seg row hmn hseg hrow hgone
  have HOK := Lib.hid hok
  have HSZ := Lib.hid hsz
  clear hg hm hmn hgone hok h hp hseg hrow hslot
  go_enter Try.func13, Try.ntmps13
  go_wp2_with fail
  obtain ⟨w0, hw0⟩ : ∃ x, x = (w.alloc (.cells #[.int .i64 (seg : Int), .int .i64 (row : Int), .int .i64 (slot : Int)] 56)).alloc (.cells #[.int .u8 0, .int .u32 0, .int .u32 0, .int .u16 0, .int .u16 0, .int .u32 0, .int .u32 0, .slice none 0 0] 47) := ⟨_, rfl⟩
  obtain ⟨pb, hpb⟩ : ∃ x, x = w.heap.size := ⟨_, rfl⟩
  have k0 : Below w.heap.size w w0 ∧ w0.heap[pb]? = some (.cells #[.int .i64 (seg : Int), .int .i64 (row : Int), .int .i64 (slot : Int)] 56 (0, 0)) ∧ w0.heap[pb + 1]? = some (.cells #[.int .u8 0, .int .u32 0, .int .u32 0, .int .u16 0, .int .u16 0, .int .u32 0, .int .u32 0, .slice none 0 0] 47 (0, 0)) ∧ w.heap.size ≤ pb := by
    rw [hw0, hpb]
    refine ⟨bel_alloc (bel_alloc (Below.refl _ w) _) _, ?_, ?_, Nat.le_refl _⟩
    · rw [heap_alloc_old' (by simp)]; exact heap_alloc_new w _
    · have := heap_alloc_new (w.alloc (.cells #[.int .i64 (seg : Int), .int .i64 (row : Int), .int .i64 (slot : Int)] 56)) (.cells #[.int .u8 0, .int .u32 0, .int .u32 0, .int .u16 0, .int .u16 0, .int .u32 0, .int .u32 0, .slice none 0 0] 47)
      simpa using this
  rw [← hw0, ← hpb]
  clear hw0 hpb
  obtain ⟨k1, k2, k3, k4⟩ := k0
  have HX : Hid (∀ x : World, Below w0.heap.size w0 x → (x.cell? ⟨pb, 0, none⟩ = some (.int .i64 (seg : Int)) ∧ x.cell? ⟨pb, 1, none⟩ = some (.int .i64 (row : Int)) ∧ x.cell? ⟨pb, 2, none⟩ = some (.int .i64 (slot : Int))) ∧
      x.heap[pb + 1]? = some (.cells #[.int .u8 0, .int .u32 0, .int .u32 0, .int .u16 0, .int .u16 0, .int .u32 0, .int .u32 0, .slice none 0 0] 47 (0, 0))) := Lib.hid fun x hx => by
    exact ⟨three_at ((hx.block _ (Array.getElem?_eq_some_iff.1 k2).1).trans k2), (hx.block _ (Array.getElem?_eq_some_iff.1 k3).1).trans k3⟩
  have K1 := Lib.hid k1
  have K4 := Lib.hid k4
  have K3 := Lib.hid (Array.getElem?_eq_some_iff.1 k3).1
  clear k1 k2 k3 k4
  ((with_reducible refine (HSH.out _ K1.out).mono ?_))
  rintro e w1 ⟨rfl, hb1⟩
  have hbx := heap_alloc_new w1 (.cells #[.int .i64 (s.n : Int), .int .i64 (s.bl : Int), .int .i64 (s.pg : Int), .int .i64 (s.sz : Int)] 28)
  have hb2 := bel_alloc hb1 (.cells #[.int .i64 (s.n : Int), .int .i64 (s.bl : Int), .int .i64 (s.pg : Int), .int .i64 (s.sz : Int)] 28)
  go_upto_region 2 with fail
  obtain ⟨gb, hgb⟩ : ∃ x, x = w1.heap.size := ⟨_, rfl⟩
  obtain ⟨w2, hw2⟩ : ∃ x, x = w1.alloc (.cells #[.int .i64 (s.n : Int), .int .i64 (s.bl : Int), .int .i64 (s.pg : Int), .int .i64 (s.sz : Int)] 28) := ⟨_, rfl⟩
  rw [← hw2, ← hgb] at hbx
  rw [← hw2] at hb2
  rw [← hw2, ← hgb]
  have HGB : Hid (∀ x : World, Below w2.heap.size w2 x → x.cell? ⟨gb, 0, none⟩ = some (.int .i64 (s.n : Int)) ∧ x.cell? ⟨gb, 1, none⟩ = some (.int .i64 (s.bl : Int)) ∧ x.cell? ⟨gb, 2, none⟩ = some (.int .i64 (s.pg : Int)) ∧ x.cell? ⟨gb, 3, none⟩ = some (.int .i64 (s.sz : Int))) := Lib.hid fun x hx => four_at ((hx.block gb (Array.getElem?_eq_some_iff.1 hbx).1).trans hbx)
  have HB2 := Lib.hid hb2
  clear hb1 hb2 hw2 hbx hgb
  obtain ⟨g0, g1, g2, g3⟩ := HGB.out w2 (Below.refl _ _)
  obtain ⟨⟨z0, z1, z2⟩, _⟩ := HX.out w2 HB2.out
  go_wp2_with fail
  ((with_reducible refine (HME.out w2).mono ?_))
  rintro e w3 ⟨rfl, hb3⟩
  have HB23 := Lib.hid hb3
  have HB3 := Lib.hid (bel_trans HB2.out hb3)
  clear hb3 g0 g1 g2 g3 z0 z1 z2
  obtain ⟨⟨z0, z1, z2⟩, _⟩ := HX.out w3 HB3.out
  go_wp2_with fail
  ((with_reducible refine (HLK.out _ (bel_trans K1.out HB3.out)).mono ?_))
  rintro e w4 ⟨D, O, H, bb, rfl, a1, a2, a3, a4, a5, a6, a7, a8, a9, a10, hb4⟩
  have hbb : bb = true := by rw [a2, a3, a4]; simpa using HOK.out
  subst hbb
  have hfb := heap_alloc_new w4 (.cells #[.slice D.a D.n D.c, .slice O.a O.n O.c, .int .u8 (H.ki : Int), .int .u32 (H.ep : Int), .int .u32 (H.ba : Int), .int .u16 (H.ix : Int), .int .u16 (H.ct : Int), .int .u32 (H.bl : Int), .int .u32 (H.mo : Int), .bool true] 77)
  have hb5 := bel_alloc hb4 (.cells #[.slice D.a D.n D.c, .slice O.a O.n O.c, .int .u8 (H.ki : Int), .int .u32 (H.ep : Int), .int .u32 (H.ba : Int), .int .u16 (H.ix : Int), .int .u16 (H.ct : Int), .int .u32 (H.bl : Int), .int .u32 (H.mo : Int), .bool true] 77)
  have a11 := a7.step (bel_alloc (Below.refl _ w4) (.cells #[.slice D.a D.n D.c, .slice O.a O.n O.c, .int .u8 (H.ki : Int), .int .u32 (H.ep : Int), .int .u32 (H.ba : Int), .int .u16 (H.ix : Int), .int .u16 (H.ct : Int), .int .u32 (H.bl : Int), .int .u32 (H.mo : Int), .bool true] 77))
  have HH : Hid (H = openH ((s.page (m, seg, row)).take s.sz) ((s.page (m, seg, row)).drop s.sz) ∧ D.l = (s.page (m, seg, row)).take s.sz) := Lib.hid ⟨by rw [a1, a3, a4], a3⟩
  have HDN : Hid (D.n ≤ 1000) := Lib.hid (by rw [a5]; exact HSZ.out)
  have HD := Lib.hid a11
  clear hb4 a1 a2 a3 a4 a5 a6 a7 a8 a9 a10 a11
  go_upto_region 6 with fail
  obtain ⟨xb, hxb⟩ : ∃ x, x = w4.heap.size := ⟨_, rfl⟩
  obtain ⟨w5, hw5⟩ : ∃ x, x = w4.alloc (.cells #[.slice D.a D.n D.c, .slice O.a O.n O.c, .int .u8 (H.ki : Int), .int .u32 (H.ep : Int), .int .u32 (H.ba : Int), .int .u16 (H.ix : Int), .int .u16 (H.ct : Int), .int .u32 (H.bl : Int), .int .u32 (H.mo : Int), .bool true] 77) := ⟨_, rfl⟩
  rw [← hw5, ← hxb] at hfb
  rw [← hw5] at hb5 HD
  rw [← hw5, ← hxb]
  have HFB := Lib.hid hfb
  have HB35 := Lib.hid hb5
  have HB5 := Lib.hid (bel_trans HB3.out hb5)
  clear hw5 hxb hb5 z0 z1 z2
  obtain ⟨x0, x1, x2, x3, x4, x5, x6, x7, x8, x9⟩ := ten_at hfb
  clear hfb
  go_wp2_with fail
  ((with_reducible refine (fpage_any D O H true w5 (HD.out.at_ fun _ _ _ => rfl) HDN.out).mono ?_))
  rintro e w6 ⟨E, rfl, e1, e2, e3, e4, hb6⟩
  have HB6 := Lib.hid (bel_trans HB5.out hb6)
  have HE := Lib.hid (And.intro e1 (And.intro e3 e4))
  have HL5 : Hid (pb + 1 < w5.heap.size) := Lib.hid (Nat.lt_of_lt_of_le K3.out HB5.out.size)
  have hpg2 := (HX.out w6 HB6.out).2
  obtain ⟨y0, y1, y2, y3, y4, y5, y6, y7⟩ := eight_at hpg2
  have yf := free_at hpg2
  clear e1 e2 e3 e4 hb6 hpg2 x0 x1 x2 x3 x4 x5 x6 x7 x8 x9
  go_wp2
  rw [← HH.out.1, ← HH.out.2]
  refine bodyPost_ret (v := .tuple #[.agg #[.int .u8 (H.ki : Int), .int .u32 (H.ep : Int), .int .u32 (H.ba : Int), .int .u16 (H.ix : Int), .int .u16 (H.ct : Int), .int .u32 (H.bl : Int), .int .u32 (H.mo : Int), .slice E.a E.n E.c], .int .i64 0]) (by simp [results, Try.results13, go_sem, y0, y1, y2, y3, y4, y5, y6, y7]) rfl ?_
  have hef : ∀ x, E.a = some x → w5.heap.size ≤ x.block := fun x hx => HE.out.2.2 x hx
  have hl5 := HL5.out
  exact ⟨E, rfl, HE.out.1, HE.out.2.1.at_ fun _ x hx => eight_other w6 (pb + 1) x.block (by have := hef x hx; omega) _ _ _ _ _ _ _ _, fun x hx => by have := hef x hx; have := K4.out; omega, bel_eight (bel_trans K1.out HB6.out) (pb + 1) (by have := K4.out; omega) _ _ _ _ _ _ _ _⟩
end
end Go.Proofs.Ytnhklomofebfaaa
