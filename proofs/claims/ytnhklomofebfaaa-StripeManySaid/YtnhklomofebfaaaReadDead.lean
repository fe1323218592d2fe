/- stripe: Read, out of all others (the member is dead). By gen/readback.py. -/
import Derived.Test.YtnhklomofebfaaaRead
namespace Go.Proofs.Ytnhklomofebfaaa
open Go.RowKit Go.Deep

section
variable {B : Nat} {s : RS} {w : World}
set_option maxRecDepth 100000 in
set_option maxHeartbeats 2000000 in
theorem read_dead (h : Ram B s w) (hsz : s.sz ≤ 1000) (seg row slot p : Nat) (hseg : seg + 5 < s.bl) (hrow : row < s.pg) (hslot : slot + 1 < s.n) (hp : ((p : Nat) : Int) = ParOf s.n s.pg seg row) (hpn : p < s.n) (hgone : s.gone (memOf p slot) ≠ 0)
    (hlive : ∀ j, j < s.n → j ≠ memOf p slot → s.gone j = 0 ∧ OpenOk ((s.page (j, seg, row)).take s.sz) ((s.page (j, seg, row)).drop s.sz)) (hki : (takeH ((s.page (p, seg, row)).drop s.sz)).ki = 5) (dl ol : List Nat) (hdl : dl.length ≤ 1000)
    (hout : ∀ F : Nat → FD, (∀ j, j < s.n → j ≠ memOf p slot → (F j).d.l = (s.page (j, seg, row)).take s.sz ∧ (F j).o.l = (s.page (j, seg, row)).drop s.sz) → outD (F p).pg (restL F (memOf p slot) p s.n) = dl ∧ outO (F p).pg (restL F (memOf p slot) p s.n) = ol ∧ OpenOk (outD (F p).pg (restL F (memOf p slot) p s.n)) (outO (F p).pg (restL F (memOf p slot) p s.n))) :
    Calls Try.prog 13 #[.iface 30 (.pointer (some ⟨s.rb, 0, none⟩)), .agg #[.int .i64 (seg : Int), .int .i64 (row : Int), .int .i64 (slot : Int)]] w (ReadPRet (openH dl ol) dl w) := by
  have hg := h.geo
  have hn16 : s.n ≤ 16 := by have := hg.2.1; omega
  have hbl : s.bl ≤ 64 := by have := hg.2.2.2.1; omega
  have hpg : s.pg ≤ 32 := by have := hg.2.2.2.2.2.1; omega
  have hmn : memOf p slot < s.n := by unfold memOf; split <;> omega
  have hmp : memOf p slot ≠ p := by unfold memOf; split <;> omega
  obtain ⟨m, hm⟩ : ∃ m, m = memOf p slot := ⟨_, rfl⟩
  have HSH := Lib.hid fun (x : World) (hx : Below w.heap.size w x) => shape_ok (h.step hx) (seg : Int) (row : Int) (slot : Int) (by omega) (by omega) (by omega)
  have HME := Lib.hid fun (x : World) => member_any s.n s.bl s.pg s.sz seg row p slot x hg (by omega) (by omega) (by omega) (by omega) hp (by omega)
  rw [← hm] at hgone hlive hout hmn hmp HME
  have HLK := Lib.hid fun (x : World) (hx : Below w.heap.size w x) => look_dead (h.step hx) m seg row hmn hseg hrow hgone
  have HGA := Lib.hid fun (W : World) (hW : Below w.heap.size w W) (lb : Nat) (hlb : w.heap.size ≤ lb) (hbox : LineBox lb s seg row (.slice none 0 0) (m : Int) W) => gather_any h hsz W hW lb seg row hlb hseg hrow (m : Int) none 0 0 hbox (fun j hj hne => (hlive j hj (fun e => hne (by rw [e]))).1) ⟨by omega, by omega⟩
  have HCO := Lib.hid fun (V W : World) (lb ob oc : Nat) (F : Nat → FD) (hI : LineI V lb ob s seg row oc (m : Int) s.n F W) => complete_back hI hg hsz (by omega) (by omega) p hpn hp
    (fun j hj hne => by
      have h1 := hI.found j hj hne
      rw [h1.2.1, h1.2.2.1, h1.2.2.2.1]
      simpa using (hlive j hj (fun e => hne (by rw [e]))).2)
    hmn hmp
    (by have h1 := hI.found p hpn (fun e => hmp (by omega)); rw [h1.2.2.2.1]; exact hki)
    (hout F fun j hj hne => by have h1 := hI.found j hj (fun e => hne (by omega)); exact ⟨h1.2.2.1, h1.2.2.2.1⟩).2.2
  have HOUT := Lib.hid hout
  have HDL := Lib.hid hdl
  have HPN := Lib.hid (And.intro hpn hmp)
  have HSZ := Lib.hid hsz
  clear hg hm hgone hlive hki hout hdl h hp hseg hrow hslot hpn hmp
  go_enter Try.func13, Try.ntmps13
  go_wp2_with fail
  obtain ⟨w0, hw0⟩ : ∃ x, x = (w.alloc (.cells #[.int .i64 (seg : Int), .int .i64 (row : Int), .int .i64 (slot : Int)] 56)).alloc (.cells #[.int .u8 0, .int .u32 0, .int .u32 0, .int .u16 0, .int .u16 0, .int .u32 0, .int .u32 0, .slice none 0 0] 47) := ⟨_, rfl⟩
  obtain ⟨pb, hpb⟩ : ∃ x, x = w.heap.size := ⟨_, rfl⟩
  have k0 : Below w.heap.size w w0 ∧ w0.heap[pb]? = some (.cells #[.int .i64 (seg : Int), .int .i64 (row : Int), .int .i64 (slot : Int)] 56 (0, 0)) ∧ w0.heap[pb + 1]? = some (.cells #[.int .u8 0, .int .u32 0, .int .u32 0, .int .u16 0, .int .u16 0, .int .u32 0, .int .u32 0, .slice none 0 0] 47 (0, 0)) ∧ w.heap.size ≤ pb := by
    rw [hw0, hpb]
    refine ⟨bel_alloc (bel_alloc (Below.refl _ w) _) _, ?_, ?_, Nat.le_refl _⟩
    · rw [heap_alloc_old' (by simp)]; exact heap_alloc_new w _
    · have := heap_alloc_new (w.alloc (.cells #[.int .i64 (seg : Int), .int .i64 (row : Int), .int .i64 (slot : Int)] 56)) (.cells #[.int .u8 0, .int .u32 0, .int .u32 0, .int .u16 0, .int .u16 0, .int .u32 0, .int .u32 0, .slice none 0 0] 47)
      simpa using this
  rw [← hw0, ← hpb]
  clear hw0 hpb
  obtain ⟨k1, k2, k3, k4⟩ := k0
  have HX : Hid (∀ x : World, Below w0.heap.size w0 x → (x.cell? ⟨pb, 0, none⟩ = some (.int .i64 (seg : Int)) ∧ x.cell? ⟨pb, 1, none⟩ = some (.int .i64 (row : Int)) ∧ x.cell? ⟨pb, 2, none⟩ = some (.int .i64 (slot : Int))) ∧
      x.heap[pb + 1]? = some (.cells #[.int .u8 0, .int .u32 0, .int .u32 0, .int .u16 0, .int .u16 0, .int .u32 0, .int .u32 0, .slice none 0 0] 47 (0, 0))) := Lib.hid fun x hx => by
    exact ⟨three_at ((hx.block _ (Array.getElem?_eq_some_iff.1 k2).1).trans k2), (hx.block _ (Array.getElem?_eq_some_iff.1 k3).1).trans k3⟩
  have K1 := Lib.hid k1
  have K4 := Lib.hid k4
  have K3 := Lib.hid (Array.getElem?_eq_some_iff.1 k3).1
  clear k1 k2 k3 k4
  ((with_reducible refine (HSH.out _ K1.out).mono ?_))
  rintro e w1 ⟨rfl, hb1⟩
  have hbx := heap_alloc_new w1 (.cells #[.int .i64 (s.n : Int), .int .i64 (s.bl : Int), .int .i64 (s.pg : Int), .int .i64 (s.sz : Int)] 28)
  have hb2 := bel_alloc hb1 (.cells #[.int .i64 (s.n : Int), .int .i64 (s.bl : Int), .int .i64 (s.pg : Int), .int .i64 (s.sz : Int)] 28)
  go_upto_region 2 with fail
  obtain ⟨gb, hgb⟩ : ∃ x, x = w1.heap.size := ⟨_, rfl⟩
  obtain ⟨w2, hw2⟩ : ∃ x, x = w1.alloc (.cells #[.int .i64 (s.n : Int), .int .i64 (s.bl : Int), .int .i64 (s.pg : Int), .int .i64 (s.sz : Int)] 28) := ⟨_, rfl⟩
  rw [← hw2, ← hgb] at hbx
  rw [← hw2] at hb2
  rw [← hw2, ← hgb]
  have HGB : Hid (∀ x : World, Below w2.heap.size w2 x → x.cell? ⟨gb, 0, none⟩ = some (.int .i64 (s.n : Int)) ∧ x.cell? ⟨gb, 1, none⟩ = some (.int .i64 (s.bl : Int)) ∧ x.cell? ⟨gb, 2, none⟩ = some (.int .i64 (s.pg : Int)) ∧ x.cell? ⟨gb, 3, none⟩ = some (.int .i64 (s.sz : Int))) := Lib.hid fun x hx => four_at ((hx.block gb (Array.getElem?_eq_some_iff.1 hbx).1).trans hbx)
  have HB2 := Lib.hid hb2
  clear hb1 hb2 hw2 hbx hgb
  obtain ⟨g0, g1, g2, g3⟩ := HGB.out w2 (Below.refl _ _)
  obtain ⟨⟨z0, z1, z2⟩, _⟩ := HX.out w2 HB2.out
  go_wp2_with fail
  ((with_reducible refine (HME.out w2).mono ?_))
  rintro e w3 ⟨rfl, hb3⟩
  have HB23 := Lib.hid hb3
  have HB3 := Lib.hid (bel_trans HB2.out hb3)
  clear hb3 g0 g1 g2 g3 z0 z1 z2
  obtain ⟨⟨z0, z1, z2⟩, _⟩ := HX.out w3 HB3.out
  go_wp2_with fail
  ((with_reducible refine (HLK.out _ (bel_trans K1.out HB3.out)).mono ?_))
  rintro e w4 ⟨rfl, hb4⟩
  have hfb := heap_alloc_new w4 (.cells #[.slice none 0 0, .slice none 0 0, .int .u8 0, .int .u32 0, .int .u32 0, .int .u16 0, .int .u16 0, .int .u32 0, .int .u32 0, .bool false] 77)
  have hb5 := bel_alloc hb4 (.cells #[.slice none 0 0, .slice none 0 0, .int .u8 0, .int .u32 0, .int .u32 0, .int .u16 0, .int .u16 0, .int .u32 0, .int .u32 0, .bool false] 77)
  clear hb4
  go_upto_region 6 with fail
  obtain ⟨xb, hxb⟩ : ∃ x, x = w4.heap.size := ⟨_, rfl⟩
  obtain ⟨w5, hw5⟩ : ∃ x, x = w4.alloc (.cells #[.slice none 0 0, .slice none 0 0, .int .u8 0, .int .u32 0, .int .u32 0, .int .u16 0, .int .u16 0, .int .u32 0, .int .u32 0, .bool false] 77) := ⟨_, rfl⟩
  rw [← hw5, ← hxb] at hfb
  rw [← hw5] at hb5
  rw [← hw5, ← hxb]
  have HB25 := Lib.hid (bel_trans HB23.out hb5)
  have HB5 := Lib.hid (bel_trans HB3.out hb5)
  clear hw5 hxb hb5 z0 z1 z2
  obtain ⟨x0, x1, x2, x3, x4, x5, x6, x7, x8, x9⟩ := ten_at hfb
  obtain ⟨⟨z0, z1, z2⟩, _⟩ := HX.out w5 HB5.out
  obtain ⟨g0, g1, g2, g3⟩ := HGB.out w5 HB25.out
  have hln := heap_alloc_new w5 (.cells #[.int .i64 (s.n : Int), .int .i64 (s.bl : Int), .int .i64 (s.pg : Int), .int .i64 (s.sz : Int), .int .i64 (seg : Int), .int .i64 (row : Int), .slice none 0 0, .int .i64 (m : Int)] 83)
  have hb6 := bel_alloc HB5.out (.cells #[.int .i64 (s.n : Int), .int .i64 (s.bl : Int), .int .i64 (s.pg : Int), .int .i64 (s.sz : Int), .int .i64 (seg : Int), .int .i64 (row : Int), .slice none 0 0, .int .i64 (m : Int)] 83)
  clear hfb
  go_upto_region 11 with fail
  obtain ⟨lb, hlb⟩ : ∃ x, x = w5.heap.size := ⟨_, rfl⟩
  obtain ⟨w6, hw6⟩ : ∃ x, x = w5.alloc (.cells #[.int .i64 (s.n : Int), .int .i64 (s.bl : Int), .int .i64 (s.pg : Int), .int .i64 (s.sz : Int), .int .i64 (seg : Int), .int .i64 (row : Int), .slice none 0 0, .int .i64 (m : Int)] 83) := ⟨_, rfl⟩
  rw [← hw6, ← hlb] at hln
  rw [← hw6] at hb6
  rw [← hw6, ← hlb]
  have HLB : Hid (w0.heap.size ≤ lb) := Lib.hid (Nat.le_trans HB5.out.size (Nat.le_of_eq hlb.symm))
  have HLW : Hid (w.heap.size ≤ lb) := Lib.hid (Nat.le_trans K1.out.size HLB.out)
  have HB6 := Lib.hid hb6
  have HLN : Hid (LineBox lb s seg row (.slice none 0 0) (m : Int) w6) := Lib.hid hln
  clear hw6 hlb hb6 hln x0 x1 x2 x3 x4 x5 x6 x7 x8 x9 z0 z1 z2 g0 g1 g2 g3
  go_wp2_with fail
  ((with_reducible refine (HGA.out w6 (bel_trans K1.out HB6.out) lb HLW.out HLN.out).mono ?_))
  rintro e w7 ⟨ob, oc, F, rfl, hI⟩
  have HI := Lib.hid hI
  have HB7 := Lib.hid (below_of_grown HB6.out HLB.out hI.grown)
  have HOB : Hid (w0.heap.size ≤ ob) := Lib.hid (Nat.le_trans HB6.out.size hI.lo.2)
  clear hI
  go_wp2_with fail
  ((with_reducible refine (HCO.out _ w7 lb ob oc F HI.out).mono ?_))
  rintro e w8 ⟨f, rfl, c1, c2, c3, c4, c5, c6, c7, c8⟩
  have HBX := Lib.hid c1
  have HON := Lib.hid c2
  have HB8 := Lib.hid (below_of_grown HB7.out HOB.out c8)
  have hoo := HOUT.out F fun j hj hne => by have h1 := HI.out.found j hj (fun e => hne (by omega)); exact ⟨h1.2.2.1, h1.2.2.2.1⟩
  have HF : Hid (f.d.l = dl ∧ f.h = openH dl ol) := Lib.hid ⟨by rw [c3, hoo.1], by rw [c5, c3, c4, hoo.1, hoo.2.1]⟩
  have HFD := Lib.hid c7
  have HFN : Hid (f.d.n ≤ 1000) := Lib.hid (by rw [← c7.1.1, c3, hoo.1]; exact HDL.out)
  clear c1 c2 c3 c4 c5 c6 c7 c8 hoo
  obtain ⟨_, _, _, _, _, _, b6, _⟩ := eightL_at HBX.out
  have j0 : (0 : Int) ≤ (m : Int) := by omega
  have j1 : (m : Int) < (s.n : Int) := by omega
  have r0 := HON.out.cell (show m * 10 + 0 < s.n * 10 by omega)
  have r1 := HON.out.cell (show m * 10 + 1 < s.n * 10 by omega)
  have r2 := HON.out.cell (show m * 10 + 2 < s.n * 10 by omega)
  have r3 := HON.out.cell (show m * 10 + 3 < s.n * 10 by omega)
  have r4 := HON.out.cell (show m * 10 + 4 < s.n * 10 by omega)
  have r5 := HON.out.cell (show m * 10 + 5 < s.n * 10 by omega)
  have r6 := HON.out.cell (show m * 10 + 6 < s.n * 10 by omega)
  have r7 := HON.out.cell (show m * 10 + 7 < s.n * 10 by omega)
  have r8 := HON.out.cell (show m * 10 + 8 < s.n * 10 by omega)
  have r9 := HON.out.cell (show m * 10 + 9 < s.n * 10 by omega)
  rw [fdC_at _ _ _ (by omega), show fdSet F m f m = f from if_pos rfl] at r0 r1 r2 r3 r4 r5 r6 r7 r8 r9
  rw [Nat.add_zero] at r0
  obtain ⟨D', O', H', b'⟩ := f
  replace r0 : w8.cell? ⟨ob, m * 10, none⟩ = some (.slice D'.a D'.n D'.c) := r0
  replace r1 : w8.cell? ⟨ob, m * 10 + 1, none⟩ = some (.slice O'.a O'.n O'.c) := r1
  replace r2 : w8.cell? ⟨ob, m * 10 + 2, none⟩ = some (.int .u8 (H'.ki : Int)) := r2
  replace r3 : w8.cell? ⟨ob, m * 10 + 3, none⟩ = some (.int .u32 (H'.ep : Int)) := r3
  replace r4 : w8.cell? ⟨ob, m * 10 + 4, none⟩ = some (.int .u32 (H'.ba : Int)) := r4
  replace r5 : w8.cell? ⟨ob, m * 10 + 5, none⟩ = some (.int .u16 (H'.ix : Int)) := r5
  replace r6 : w8.cell? ⟨ob, m * 10 + 6, none⟩ = some (.int .u16 (H'.ct : Int)) := r6
  replace r7 : w8.cell? ⟨ob, m * 10 + 7, none⟩ = some (.int .u32 (H'.bl : Int)) := r7
  replace r8 : w8.cell? ⟨ob, m * 10 + 8, none⟩ = some (.int .u32 (H'.mo : Int)) := r8
  replace r9 : w8.cell? ⟨ob, m * 10 + 9, none⟩ = some (.bool b') := r9
  go_wp2_with fail
  ((with_reducible refine (fpage_any D' O' H' b' w8 HFD.out HFN.out).mono ?_))
  rintro e w9 ⟨E, rfl, e1, e2, e3, e4, hb9⟩
  have HB9 := Lib.hid (bel_trans HB8.out hb9)
  have HE := Lib.hid (And.intro e1 (And.intro e3 e4))
  have HL8 : Hid (pb + 1 < w8.heap.size) := Lib.hid (Nat.lt_of_lt_of_le K3.out HB8.out.size)
  have hpg2 := (HX.out w9 HB9.out).2
  obtain ⟨y0, y1, y2, y3, y4, y5, y6, y7⟩ := eight_at hpg2
  have yf := free_at hpg2
  clear e1 e2 e3 e4 hb9 hpg2 r0 r1 r2 r3 r4 r5 r6 r7 r8 r9 b6
  go_wp2
  rw [← HF.out.2]
  refine bodyPost_ret (v := .tuple #[.agg #[.int .u8 (H'.ki : Int), .int .u32 (H'.ep : Int), .int .u32 (H'.ba : Int), .int .u16 (H'.ix : Int), .int .u16 (H'.ct : Int), .int .u32 (H'.bl : Int), .int .u32 (H'.mo : Int), .slice E.a E.n E.c], .int .i64 0]) (by simp [results, Try.results13, go_sem, y0, y1, y2, y3, y4, y5, y6, y7]) rfl ?_
  have hef : ∀ x, E.a = some x → w8.heap.size ≤ x.block := fun x hx => HE.out.2.2 x hx
  have hl8 := HL8.out
  exact ⟨E, rfl, HE.out.1.trans HF.out.1, HE.out.2.1.at_ fun _ x hx => eight_other w9 (pb + 1) x.block (by have := hef x hx; omega) _ _ _ _ _ _ _ _, fun x hx => by have := hef x hx; have := K4.out; omega, bel_eight (bel_trans K1.out HB9.out) (pb + 1) (by have := K4.out; omega) _ _ _ _ _ _ _ _⟩
end
end Go.Proofs.Ytnhklomofebfaaa
