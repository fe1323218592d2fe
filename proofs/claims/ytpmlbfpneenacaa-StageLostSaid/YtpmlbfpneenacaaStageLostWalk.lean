/- StageLost: the walk. -/
import Derived.Test.YtpmlbfpneenacaaStgLost
namespace Go.Proofs.Ytpmlbfpneenacaa
open Go.RowKit Go.Deep

set_option maxRecDepth 100000 in
set_option maxHeartbeats 4000000 in
theorem stageLost_which (ch wv nv : Int) (w : World) (hw : wv < 0 ∨ 2 ≤ wv) :
    Calls Try.prog 10 #[.int .i64 ch, .int .i64 wv, .int .i64 nv] w fun e w' => e = .returned (.bool true) ∧ Below w.heap.size w w' := by
  have HSH := Lib.hid fun x : World => stgShapeL_any ch x
  have HTW := Lib.hid twice_any
  obtain ⟨N, P, R, hN, hP, hR, hN3, hN8, hP1, hP4, hRoom, p1, p1', p2, p3, hgood⟩ := stgHead ch
  rw [← hN] at HSH
  have HNW := Lib.hid fun x : World => ramNewZ_any N 20 5 256 x hgood
  rw [show ((20 : Nat) : Int) = 20 from rfl, show ((5 : Nat) : Int) = 5 from rfl, show ((256 : Nat) : Int) = 256 from rfl] at HNW
  have HRM := Lib.hid fun x : World => room_any N 20 5 256 x hgood
  rw [hRoom, show ((20 : Nat) : Int) = 20 from rfl, show ((5 : Nat) : Int) = 5 from rfl, show ((256 : Nat) : Int) = 256 from rfl] at HRM
  have HPA := Lib.hid fun x : World => stgPage_any 1 1 x (by omega) (by omega)
  rw [show ((1 : Nat) : Int) = 1 from rfl] at HPA
  have HPZ := Lib.hid fun x : World => stgPage_any 0 0 x (by omega) (by omega)
  rw [show ((0 : Nat) : Int) = 0 from rfl] at HPZ
  have HGN := Lib.hid fun x : World => stgGet_nil 0 0 x
  have HAN := Lib.hid fun x : World => stgAll_nil 0 x
  have HPN : Hid (∀ (x : World) (D : PS), Calls Try.prog 42 #[.nilIface, .int .i64 0, .int .i64 0, .agg #[.int .u8 4, .int .u32 0, .int .u32 0, .int .u16 0, .int .u16 0, .int .u32 0, .int .u32 0, .slice D.a D.n D.c]] x fun e w' => e = .returned (.int .i64 60) ∧ Below x.heap.size x w') := Lib.hid fun x D => stgPut_nil 0 0 ⟨pgHdr 0 0, D⟩ x
  obtain ⟨b0, hb0⟩ : ∃ b, b = decide ((0 : Int) ≤ wv) := ⟨_, rfl⟩
  obtain ⟨b1, hb1⟩ : ∃ b, b = decide (wv < 2) := ⟨_, rfl⟩
  have t0 : decide ((0 : Int) ≤ wv) = b0 := hb0.symm
  have t1 : decide (wv < 2) = b1 := hb1.symm
  have hor : b0 = false ∨ (b0 = true ∧ b1 = false) := by
    rw [hb0, hb1]
    by_cases q : 0 ≤ wv
    · right; exact ⟨by simpa using q, by simp; omega⟩
    · left; simpa using q
  clear hb0 hb1
  have HMODE : Hid (∀ (B rb pb gb : Nat) (x : World), Ram B (rsNew rb pb gb N 20 5 256) x →
      Calls Try.prog 45 #[.iface 56 (.pointer (some ⟨rb, 0, none⟩)), .int .i64 wv, .int .i64 nv] x (fun e w' => e = .returned (.tuple #[.agg #[.int .u8 0, .int .u32 0, .int .u32 0, .int .u16 0, .int .u16 0, .int .u32 0, .int .u32 0, .slice none 0 0], .int .i64 34]) ∧ Below x.heap.size x w') ∧
      Calls Try.prog 44 #[.iface 56 (.pointer (some ⟨rb, 0, none⟩)), .int .i64 wv] x (fun e w' => ∃ sv, e = .returned (.tuple #[sv, .int .i64 34]) ∧ Below x.heap.size x w') ∧
      (∀ D : PS, D.n = 255 → Calls Try.prog 42 #[.iface 56 (.pointer (some ⟨rb, 0, none⟩)), .int .i64 wv, .int .i64 nv, .agg #[.int .u8 4, .int .u32 1, .int .u32 0, .int .u16 0, .int .u16 0, .int .u32 1, .int .u32 0, .slice D.a 255 D.c]] x (fun e w' => e = .returned (.int .i64 34) ∧ Below x.heap.size x w')) ∧
      (∀ D : PS, Calls Try.prog 42 #[.iface 56 (.pointer (some ⟨rb, 0, none⟩)), .int .i64 wv, .int .i64 nv, .agg #[.int .u8 4, .int .u32 0, .int .u32 0, .int .u16 0, .int .u16 0, .int .u32 0, .int .u32 0, .slice D.a D.n D.c]] x (fun e w' => e = .returned (.int .i64 34) ∧ Below x.heap.size x w'))) := Lib.hid fun B rb pb gb x hr => by
    refine ⟨stgGet_which hr wv nv hw, (stgAll_which hr wv hw).mono fun e w' hh => ⟨_, hh.1, hh.2⟩, fun D hD => ?_, fun D => stgPut_which hr wv nv ⟨pgHdr 0 0, D⟩ hw⟩
    have := stgPut_which hr wv nv ⟨pgHdr 1 1, D⟩ hw
    rw [hD] at this
    exact this
  clear hN hP hR hN3 hN8 hP1 hP4 hRoom hgood p1 p1' p2 p3 hw
  rcases hor with rfl | ⟨rfl, rfl⟩
  · go_enter Try.func10, Try.ntmps10
    go_wp2_with fail
    ((with_reducible refine (HTW.out _).mono ?_))
    rintro e w1 ⟨rfl, hb1⟩
    go_wp2_with fail
    ((with_reducible refine (HSH.out _).mono ?_))
    rintro e w2 ⟨rfl, hb2⟩
    have l3 := heap_alloc_new w2 (.cells #[.int .i64 (N : Int), .int .i64 20, .int .i64 5, .int .i64 256] 54)
    have hb3 := bel_trans hb1 (bel_trans hb2 (bel_alloc (Below.refl _ w2) (.cells #[.int .i64 (N : Int), .int .i64 20, .int .i64 5, .int .i64 256] 54)))
    go_upto_region 4 with fail
    obtain ⟨w3, hw3⟩ : ∃ x, x = w2.alloc (.cells #[.int .i64 (N : Int), .int .i64 20, .int .i64 5, .int .i64 256] 54) := ⟨_, rfl⟩
    obtain ⟨qb, hqb⟩ : ∃ x, x = w2.heap.size := ⟨_, rfl⟩
    rw [← hw3, ← hqb] at l3
    rw [← hw3] at hb3
    rw [← hw3, ← hqb]
    have HL3 := Lib.hid l3
    have HB3 := Lib.hid hb3
    obtain ⟨g0, g1, g2, g3⟩ := four_at l3
    clear hw3 hqb l3 hb1 hb2 hb3
    go_wp2_with fail
    ((with_reducible refine (HNW.out _).mono ?_))
    rintro e w4 ⟨rb, pb, gb, rfl, hr4, hz4, hb4⟩
    obtain ⟨B, hB⟩ : ∃ B, B = w3.heap.size := ⟨_, rfl⟩
    rw [← hB] at hr4
    have HR4 := Lib.hid hr4
    have HZ4 := Lib.hid hz4
    have HL4 := Lib.hid ((hb4.block _ (Array.getElem?_eq_some_iff.1 HL3.out).1).trans HL3.out)
    have HWB : Hid (w.heap.size ≤ B ∧ B ≤ w4.heap.size) := Lib.hid ⟨by rw [hB]; exact HB3.out.size, by rw [hB]; exact hb4.size⟩
    have HB4 := Lib.hid (bel_trans HB3.out hb4)
    have HDEV := Lib.hid fun (x : World) (hx : Below w4.heap.size w4 x) => HMODE.out B rb pb gb x (HR4.out.step hx)
    clear g0 g1 g2 g3 hr4 hz4 hb4 hB
    obtain ⟨g0, g1, g2, g3⟩ := four_at HL4.out
    obtain ⟨w5, hw5⟩ : ∃ x, x = w4 := ⟨_, rfl⟩
    have hb5 : Below w4.heap.size w4 w5 := by rw [hw5]; exact Below.refl _ _
    rw [← hw5]
    have HB5 := Lib.hid hb5
    clear g0 g1 g2 g3 hb5
    have g0 := (four_at ((HB5.out.block _ (Array.getElem?_eq_some_iff.1 HL4.out).1).trans HL4.out)).1
    clear hw5
    go_wp2_with fail
    ((with_reducible refine (HDEV.out _ HB5.out).1.mono ?_))
    rintro e w6 ⟨rfl, hb6⟩
    have hb7 := bel_trans HB5.out (bel_trans hb6 (bel_alloc (Below.refl _ w6) (.cells #[.int .u8 0, .int .u32 0, .int .u32 0, .int .u16 0, .int .u16 0, .int .u32 0, .int .u32 0, .slice none 0 0] 77)))
    clear g0
    go_upto_region 7 with fail
    obtain ⟨w7, hw7⟩ : ∃ x, x = w6.alloc (.cells #[.int .u8 0, .int .u32 0, .int .u32 0, .int .u16 0, .int .u16 0, .int .u32 0, .int .u32 0, .slice none 0 0] 77) := ⟨_, rfl⟩
    rw [← hw7] at hb7 ⊢
    have HB7 := Lib.hid hb7
    clear hw7 hb6 hb7
    go_wp2_with fail
    ((with_reducible refine (HDEV.out _ HB7.out).2.1.mono ?_))
    rintro e w8 ⟨sv8, rfl, hb8⟩
    have HB8 := Lib.hid (bel_trans HB7.out hb8)
    clear hb8
    go_wp2_with fail
    ((with_reducible refine (HPA.out _).mono ?_))
    rintro e w9 ⟨D, rfl, d1, d2, d3, d4, hb9⟩
    obtain ⟨db, dof, hda, hdc⟩ := d3.1.2.2 (by rw [d2]; omega)
    obtain ⟨da, dn, dc, dl⟩ := D
    simp only at d1 d2 hda hdc
    have hdcap : 256 ≤ dc := by have := d3.2.1; simp only at this; omega
    subst hda d2
    have l10 := heap_alloc_new w9 (.cells #[.int .u8 4, .int .u32 1, .int .u32 0, .int .u16 0, .int .u16 0, .int .u32 1, .int .u32 0, .slice (some ⟨db, dof, none⟩) 256 dc] 77)
    have hb10 := bel_trans HB8.out (bel_trans hb9 (bel_alloc (Below.refl _ w9) (.cells #[.int .u8 4, .int .u32 1, .int .u32 0, .int .u16 0, .int .u16 0, .int .u32 1, .int .u32 0, .slice (some ⟨db, dof, none⟩) 256 dc] 77)))
    go_upto_region 9 with fail
    obtain ⟨w10, hw10⟩ : ∃ x, x = w9.alloc (.cells #[.int .u8 4, .int .u32 1, .int .u32 0, .int .u16 0, .int .u16 0, .int .u32 1, .int .u32 0, .slice (some ⟨db, dof, none⟩) 256 dc] 77) := ⟨_, rfl⟩
    obtain ⟨sb, hsb⟩ : ∃ x, x = w9.heap.size := ⟨_, rfl⟩
    have HSB : Hid (w4.heap.size ≤ sb) := Lib.hid (by rw [hsb]; exact Nat.le_trans HB8.out.size hb9.size)
    rw [← hw10, ← hsb] at l10
    rw [← hw10] at hb10
    rw [← hw10, ← hsb]
    obtain ⟨s0, s1, s2, s3, s4, s5, s6, s7⟩ := eight_at l10
    have sf := free_at l10
    have HL10 := Lib.hid l10
    have HB10 := Lib.hid hb10
    have hdc2 : ((255 : Int) ≤ (dc : Int)) := by omega
    clear hw10 hsb l10 hb9 hb10 d1 d3 d4 hdc
    go_upto_region 10 with fail
    obtain ⟨w11, hw11⟩ : ∃ x, x = w10.setCell ⟨sb, 7, none⟩ (.slice (some ⟨db, dof, none⟩) 255 dc) := ⟨_, rfl⟩
    rw [← hw11]
    have l11 : w11.heap[sb]? = some (.cells #[.int .u8 4, .int .u32 1, .int .u32 0, .int .u16 0, .int .u16 0, .int .u32 1, .int .u32 0, .slice (some ⟨db, dof, none⟩) 255 dc] 77 (0, 0)) := by
      rw [hw11]
      have := heap_setCell_same w10 sb 7 _ _ (.slice (some ⟨db, dof, none⟩) 255 dc) HL10.out
      simpa using this
    have HB11 : Hid (Below w4.heap.size w4 w11) := Lib.hid (by rw [hw11]; exact HB10.out.setCell (p := ⟨sb, 7, none⟩) HSB.out _)
    clear s0 s1 s2 s3 s4 s5 s6 s7 sf hw11 hdc2 hdcap
    obtain ⟨s0, s1, s2, s3, s4, s5, s6, s7⟩ := eight_at l11
    clear l11
    go_wp2_with fail
    ((with_reducible refine ((HDEV.out _ HB11.out).2.2.1 ⟨some ⟨db, dof, none⟩, 255, dc, dl⟩ rfl).mono ?_))
    rintro e w12 ⟨rfl, hb12⟩
    have HB12 := Lib.hid (bel_trans HB11.out hb12)
    clear hb12 s0 s1 s2 s3 s4 s5 s6 s7
    go_wp2_with fail
    ((with_reducible refine (HGN.out _).mono ?_))
    rintro e w13 ⟨rfl, hb13⟩
    have hb14 := bel_trans HB12.out (bel_trans hb13 (bel_alloc (Below.refl _ w13) (.cells #[.int .u8 0, .int .u32 0, .int .u32 0, .int .u16 0, .int .u16 0, .int .u32 0, .int .u32 0, .slice none 0 0] 77)))
    go_upto_region 14 with fail
    obtain ⟨w14, hw14⟩ : ∃ x, x = w13.alloc (.cells #[.int .u8 0, .int .u32 0, .int .u32 0, .int .u16 0, .int .u16 0, .int .u32 0, .int .u32 0, .slice none 0 0] 77) := ⟨_, rfl⟩
    rw [← hw14] at hb14 ⊢
    have HB14 := Lib.hid hb14
    clear hw14 hb13 hb14
    go_wp2_with fail
    ((with_reducible refine (HAN.out _).mono ?_))
    rintro e w15 ⟨rfl, hb15⟩
    have HB15 := Lib.hid (bel_trans HB14.out hb15)
    clear hb15
    go_wp2_with fail
    ((with_reducible refine (HPZ.out _).mono ?_))
    rintro e w16 ⟨D6, rfl, d1, d2, d3, d4, hb16⟩
    have HB16 := Lib.hid (bel_trans HB15.out hb16)
    clear hb16 d1 d2 d3 d4
    go_wp2_with fail
    ((with_reducible refine (HPN.out _ D6).mono ?_))
    rintro e w17 ⟨rfl, hb17⟩
    have HB17 := Lib.hid (bel_trans HB16.out hb17)
    clear hb17
    go_wp2_with fail
    ((with_reducible refine (HPZ.out _).mono ?_))
    rintro e w18 ⟨D7, rfl, d1, d2, d3, d4, hb18⟩
    have HB18 := Lib.hid (bel_trans HB17.out hb18)
    clear hb18 d1 d2 d3 d4
    go_wp2_with fail
    ((with_reducible refine ((HDEV.out _ HB18.out).2.2.2 D7).mono ?_))
    rintro e w19 ⟨rfl, hb19⟩
    have HB19 := Lib.hid (bel_trans HB18.out hb19)
    clear hb19
    go_wp2
    go_ret
    exact ⟨rfl, bel_trans HB4.out HB19.out⟩
  · go_enter Try.func10, Try.ntmps10
    go_wp2_with fail
    ((with_reducible refine (HTW.out _).mono ?_))
    rintro e w1 ⟨rfl, hb1⟩
    go_wp2_with fail
    ((with_reducible refine (HSH.out _).mono ?_))
    rintro e w2 ⟨rfl, hb2⟩
    have l3 := heap_alloc_new w2 (.cells #[.int .i64 (N : Int), .int .i64 20, .int .i64 5, .int .i64 256] 54)
    have hb3 := bel_trans hb1 (bel_trans hb2 (bel_alloc (Below.refl _ w2) (.cells #[.int .i64 (N : Int), .int .i64 20, .int .i64 5, .int .i64 256] 54)))
    go_upto_region 4 with fail
    obtain ⟨w3, hw3⟩ : ∃ x, x = w2.alloc (.cells #[.int .i64 (N : Int), .int .i64 20, .int .i64 5, .int .i64 256] 54) := ⟨_, rfl⟩
    obtain ⟨qb, hqb⟩ : ∃ x, x = w2.heap.size := ⟨_, rfl⟩
    rw [← hw3, ← hqb] at l3
    rw [← hw3] at hb3
    rw [← hw3, ← hqb]
    have HL3 := Lib.hid l3
    have HB3 := Lib.hid hb3
    obtain ⟨g0, g1, g2, g3⟩ := four_at l3
    clear hw3 hqb l3 hb1 hb2 hb3
    go_wp2_with fail
    ((with_reducible refine (HNW.out _).mono ?_))
    rintro e w4 ⟨rb, pb, gb, rfl, hr4, hz4, hb4⟩
    obtain ⟨B, hB⟩ : ∃ B, B = w3.heap.size := ⟨_, rfl⟩
    rw [← hB] at hr4
    have HR4 := Lib.hid hr4
    have HZ4 := Lib.hid hz4
    have HL4 := Lib.hid ((hb4.block _ (Array.getElem?_eq_some_iff.1 HL3.out).1).trans HL3.out)
    have HWB : Hid (w.heap.size ≤ B ∧ B ≤ w4.heap.size) := Lib.hid ⟨by rw [hB]; exact HB3.out.size, by rw [hB]; exact hb4.size⟩
    have HB4 := Lib.hid (bel_trans HB3.out hb4)
    have HDEV := Lib.hid fun (x : World) (hx : Below w4.heap.size w4 x) => HMODE.out B rb pb gb x (HR4.out.step hx)
    clear g0 g1 g2 g3 hr4 hz4 hb4 hB
    obtain ⟨g0, g1, g2, g3⟩ := four_at HL4.out
    obtain ⟨w5, hw5⟩ : ∃ x, x = w4 := ⟨_, rfl⟩
    have hb5 : Below w4.heap.size w4 w5 := by rw [hw5]; exact Below.refl _ _
    rw [← hw5]
    have HB5 := Lib.hid hb5
    clear g0 g1 g2 g3 hb5
    have g0 := (four_at ((HB5.out.block _ (Array.getElem?_eq_some_iff.1 HL4.out).1).trans HL4.out)).1
    clear hw5
    go_wp2_with fail
    ((with_reducible refine (HDEV.out _ HB5.out).1.mono ?_))
    rintro e w6 ⟨rfl, hb6⟩
    have hb7 := bel_trans HB5.out (bel_trans hb6 (bel_alloc (Below.refl _ w6) (.cells #[.int .u8 0, .int .u32 0, .int .u32 0, .int .u16 0, .int .u16 0, .int .u32 0, .int .u32 0, .slice none 0 0] 77)))
    clear g0
    go_upto_region 7 with fail
    obtain ⟨w7, hw7⟩ : ∃ x, x = w6.alloc (.cells #[.int .u8 0, .int .u32 0, .int .u32 0, .int .u16 0, .int .u16 0, .int .u32 0, .int .u32 0, .slice none 0 0] 77) := ⟨_, rfl⟩
    rw [← hw7] at hb7 ⊢
    have HB7 := Lib.hid hb7
    clear hw7 hb6 hb7
    go_wp2_with fail
    ((with_reducible refine (HDEV.out _ HB7.out).2.1.mono ?_))
    rintro e w8 ⟨sv8, rfl, hb8⟩
    have HB8 := Lib.hid (bel_trans HB7.out hb8)
    clear hb8
    go_wp2_with fail
    ((with_reducible refine (HPA.out _).mono ?_))
    rintro e w9 ⟨D, rfl, d1, d2, d3, d4, hb9⟩
    obtain ⟨db, dof, hda, hdc⟩ := d3.1.2.2 (by rw [d2]; omega)
    obtain ⟨da, dn, dc, dl⟩ := D
    simp only at d1 d2 hda hdc
    have hdcap : 256 ≤ dc := by have := d3.2.1; simp only at this; omega
    subst hda d2
    have l10 := heap_alloc_new w9 (.cells #[.int .u8 4, .int .u32 1, .int .u32 0, .int .u16 0, .int .u16 0, .int .u32 1, .int .u32 0, .slice (some ⟨db, dof, none⟩) 256 dc] 77)
    have hb10 := bel_trans HB8.out (bel_trans hb9 (bel_alloc (Below.refl _ w9) (.cells #[.int .u8 4, .int .u32 1, .int .u32 0, .int .u16 0, .int .u16 0, .int .u32 1, .int .u32 0, .slice (some ⟨db, dof, none⟩) 256 dc] 77)))
    go_upto_region 9 with fail
    obtain ⟨w10, hw10⟩ : ∃ x, x = w9.alloc (.cells #[.int .u8 4, .int .u32 1, .int .u32 0, .int .u16 0, .int .u16 0, .int .u32 1, .int .u32 0, .slice (some ⟨db, dof, none⟩) 256 dc] 77) := ⟨_, rfl⟩
    obtain ⟨sb, hsb⟩ : ∃ x, x = w9.heap.size := ⟨_, rfl⟩
    have HSB : Hid (w4.heap.size ≤ sb) := Lib.hid (by rw [hsb]; exact Nat.le_trans HB8.out.size hb9.size)
    rw [← hw10, ← hsb] at l10
    rw [← hw10] at hb10
    rw [← hw10, ← hsb]
    obtain ⟨s0, s1, s2, s3, s4, s5, s6, s7⟩ := eight_at l10
    have sf := free_at l10
    have HL10 := Lib.hid l10
    have HB10 := Lib.hid hb10
    have hdc2 : ((255 : Int) ≤ (dc : Int)) := by omega
    clear hw10 hsb l10 hb9 hb10 d1 d3 d4 hdc
    go_upto_region 10 with fail
    obtain ⟨w11, hw11⟩ : ∃ x, x = w10.setCell ⟨sb, 7, none⟩ (.slice (some ⟨db, dof, none⟩) 255 dc) := ⟨_, rfl⟩
    rw [← hw11]
    have l11 : w11.heap[sb]? = some (.cells #[.int .u8 4, .int .u32 1, .int .u32 0, .int .u16 0, .int .u16 0, .int .u32 1, .int .u32 0, .slice (some ⟨db, dof, none⟩) 255 dc] 77 (0, 0)) := by
      rw [hw11]
      have := heap_setCell_same w10 sb 7 _ _ (.slice (some ⟨db, dof, none⟩) 255 dc) HL10.out
      simpa using this
    have HB11 : Hid (Below w4.heap.size w4 w11) := Lib.hid (by rw [hw11]; exact HB10.out.setCell (p := ⟨sb, 7, none⟩) HSB.out _)
    clear s0 s1 s2 s3 s4 s5 s6 s7 sf hw11 hdc2 hdcap
    obtain ⟨s0, s1, s2, s3, s4, s5, s6, s7⟩ := eight_at l11
    clear l11
    go_wp2_with fail
    ((with_reducible refine ((HDEV.out _ HB11.out).2.2.1 ⟨some ⟨db, dof, none⟩, 255, dc, dl⟩ rfl).mono ?_))
    rintro e w12 ⟨rfl, hb12⟩
    have HB12 := Lib.hid (bel_trans HB11.out hb12)
    clear hb12 s0 s1 s2 s3 s4 s5 s6 s7
    go_wp2_with fail
    ((with_reducible refine (HGN.out _).mono ?_))
    rintro e w13 ⟨rfl, hb13⟩
    have hb14 := bel_trans HB12.out (bel_trans hb13 (bel_alloc (Below.refl _ w13) (.cells #[.int .u8 0, .int .u32 0, .int .u32 0, .int .u16 0, .int .u16 0, .int .u32 0, .int .u32 0, .slice none 0 0] 77)))
    go_upto_region 14 with fail
    obtain ⟨w14, hw14⟩ : ∃ x, x = w13.alloc (.cells #[.int .u8 0, .int .u32 0, .int .u32 0, .int .u16 0, .int .u16 0, .int .u32 0, .int .u32 0, .slice none 0 0] 77) := ⟨_, rfl⟩
    rw [← hw14] at hb14 ⊢
    have HB14 := Lib.hid hb14
    clear hw14 hb13 hb14
    go_wp2_with fail
    ((with_reducible refine (HAN.out _).mono ?_))
    rintro e w15 ⟨rfl, hb15⟩
    have HB15 := Lib.hid (bel_trans HB14.out hb15)
    clear hb15
    go_wp2_with fail
    ((with_reducible refine (HPZ.out _).mono ?_))
    rintro e w16 ⟨D6, rfl, d1, d2, d3, d4, hb16⟩
    have HB16 := Lib.hid (bel_trans HB15.out hb16)
    clear hb16 d1 d2 d3 d4
    go_wp2_with fail
    ((with_reducible refine (HPN.out _ D6).mono ?_))
    rintro e w17 ⟨rfl, hb17⟩
    have HB17 := Lib.hid (bel_trans HB16.out hb17)
    clear hb17
    go_wp2_with fail
    ((with_reducible refine (HPZ.out _).mono ?_))
    rintro e w18 ⟨D7, rfl, d1, d2, d3, d4, hb18⟩
    have HB18 := Lib.hid (bel_trans HB17.out hb18)
    clear hb18 d1 d2 d3 d4
    go_wp2_with fail
    ((with_reducible refine ((HDEV.out _ HB18.out).2.2.2 D7).mono ?_))
    rintro e w19 ⟨rfl, hb19⟩
    have HB19 := Lib.hid (bel_trans HB18.out hb19)
    clear hb19
    go_wp2
    go_ret
    exact ⟨rfl, bel_trans HB4.out HB19.out⟩
set_option maxRecDepth 100000 in
set_option maxHeartbeats 4000000 in
theorem stageLost_place (ch wv nv : Int) (w : World) (wh : Nat) (hwv : wv = (wh : Int)) (hw : wh ≤ 1) (hk : nv < 0 ∨ (roomN (stgN ch) 5 : Int) ≤ nv) :
    Calls Try.prog 10 #[.int .i64 ch, .int .i64 wv, .int .i64 nv] w fun e w' => e = .returned (.bool true) ∧ Below w.heap.size w w' := by
  have HSH := Lib.hid fun x : World => stgShapeL_any ch x
  have HTW := Lib.hid twice_any
  obtain ⟨N, P, R, hN, hP, hR, hN3, hN8, hP1, hP4, hRoom, p1, p1', p2, p3, hgood⟩ := stgHead ch
  rw [← hN] at HSH
  rw [← hN, hRoom] at hk
  have HNW := Lib.hid fun x : World => ramNewZ_any N 20 5 256 x hgood
  rw [show ((20 : Nat) : Int) = 20 from rfl, show ((5 : Nat) : Int) = 5 from rfl, show ((256 : Nat) : Int) = 256 from rfl] at HNW
  have HRM := Lib.hid fun x : World => room_any N 20 5 256 x hgood
  rw [hRoom, show ((20 : Nat) : Int) = 20 from rfl, show ((5 : Nat) : Int) = 5 from rfl, show ((256 : Nat) : Int) = 256 from rfl] at HRM
  have HPA := Lib.hid fun x : World => stgPage_any 1 1 x (by omega) (by omega)
  rw [show ((1 : Nat) : Int) = 1 from rfl] at HPA
  have HPZ := Lib.hid fun x : World => stgPage_any 0 0 x (by omega) (by omega)
  rw [show ((0 : Nat) : Int) = 0 from rfl] at HPZ
  have HGN := Lib.hid fun x : World => stgGet_nil 0 0 x
  have HAN := Lib.hid fun x : World => stgAll_nil 0 x
  have HPN : Hid (∀ (x : World) (D : PS), Calls Try.prog 42 #[.nilIface, .int .i64 0, .int .i64 0, .agg #[.int .u8 4, .int .u32 0, .int .u32 0, .int .u16 0, .int .u16 0, .int .u32 0, .int .u32 0, .slice D.a D.n D.c]] x fun e w' => e = .returned (.int .i64 60) ∧ Below x.heap.size x w') := Lib.hid fun x D => stgPut_nil 0 0 ⟨pgHdr 0 0, D⟩ x
  have t0 : decide ((0 : Int) ≤ wv) = true := by rw [hwv]; simp
  have t1 : decide (wv < 2) = true := by rw [hwv]; simp; omega
  obtain ⟨b0, hb0⟩ : ∃ b, b = decide ((0 : Int) ≤ nv) := ⟨_, rfl⟩
  obtain ⟨b1, hb1⟩ : ∃ b, b = decide (nv < (R : Int)) := ⟨_, rfl⟩
  have t2 : decide ((0 : Int) ≤ nv) = b0 := hb0.symm
  have t3 : decide (nv < (R : Int)) = b1 := hb1.symm
  have hor : b0 = false ∨ (b0 = true ∧ b1 = false) := by
    rw [hb0, hb1]
    by_cases q : 0 ≤ nv
    · right; exact ⟨by simpa using q, by simp; omega⟩
    · left; simpa using q
  clear hb0 hb1
  have HMODE : Hid (∀ (B rb pb gb : Nat) (x : World), Ram B (rsNew rb pb gb N 20 5 256) x →
      Calls Try.prog 45 #[.iface 56 (.pointer (some ⟨rb, 0, none⟩)), .int .i64 wv, .int .i64 nv] x (fun e w' => e = .returned (.tuple #[.agg #[.int .u8 0, .int .u32 0, .int .u32 0, .int .u16 0, .int .u16 0, .int .u32 0, .int .u32 0, .slice none 0 0], .int .i64 34]) ∧ Below x.heap.size x w') ∧
      Calls Try.prog 44 #[.iface 56 (.pointer (some ⟨rb, 0, none⟩)), .int .i64 wv] x (fun e w' => ∃ sv, e = .returned (.tuple #[sv, .int .i64 0]) ∧ Below x.heap.size x w') ∧
      (∀ D : PS, D.n = 255 → Calls Try.prog 42 #[.iface 56 (.pointer (some ⟨rb, 0, none⟩)), .int .i64 wv, .int .i64 nv, .agg #[.int .u8 4, .int .u32 1, .int .u32 0, .int .u16 0, .int .u16 0, .int .u32 1, .int .u32 0, .slice D.a 255 D.c]] x (fun e w' => e = .returned (.int .i64 34) ∧ Below x.heap.size x w')) ∧
      (∀ D : PS, Calls Try.prog 42 #[.iface 56 (.pointer (some ⟨rb, 0, none⟩)), .int .i64 wv, .int .i64 nv, .agg #[.int .u8 4, .int .u32 0, .int .u32 0, .int .u16 0, .int .u16 0, .int .u32 0, .int .u32 0, .slice D.a D.n D.c]] x (fun e w' => e = .returned (.int .i64 34) ∧ Below x.heap.size x w'))) := Lib.hid fun B rb pb gb x hr => by
    have hall : Calls Try.prog 44 #[.iface 56 (.pointer (some ⟨rb, 0, none⟩)), .int .i64 wv] x (fun e w' => ∃ sv, e = .returned (.tuple #[sv, .int .i64 0]) ∧ Below x.heap.size x w') := by
      rw [hwv]
      refine (stgAll_ok hr wh 0 hw (by show 256 ≤ 1000; omega) (fun _ => none) (fun k _ => ?_) (Nat.zero_le _) (fun j hj => absurd hj (Nat.not_lt_zero _)) (fun _ => rfl)).mono fun e w' hh => ?_
      · unfold getPg; rw [memPg_none rfl rfl, memPg_none rfl rfl]
      · obtain ⟨sv, L, h1, _, h2⟩ := hh; exact ⟨sv, h1, h2⟩
    have hk' : nv < 0 ∨ (roomN (rsNew rb pb gb N 20 5 256).n (rsNew rb pb gb N 20 5 256).pg : Int) ≤ nv := by show nv < 0 ∨ (roomN N 5 : Int) ≤ nv; rw [hRoom]; exact hk
    refine ⟨by rw [hwv]; exact stgGet_place hr wh nv hw hk', hall, fun D hD => ?_, fun D => by rw [hwv]; exact stgPut_place hr wh nv ⟨pgHdr 0 0, D⟩ hw hk'⟩
    have := stgPut_place hr wh nv ⟨pgHdr 1 1, D⟩ hw hk'
    rw [hD] at this
    rw [hwv]
    exact this
  clear hN hP hR hN3 hN8 hP1 hP4 hRoom hgood p1 p1' p2 p3 hw hk hwv
  rcases hor with rfl | ⟨rfl, rfl⟩
  · go_enter Try.func10, Try.ntmps10
    go_wp2_with fail
    ((with_reducible refine (HTW.out _).mono ?_))
    rintro e w1 ⟨rfl, hb1⟩
    go_wp2_with fail
    ((with_reducible refine (HSH.out _).mono ?_))
    rintro e w2 ⟨rfl, hb2⟩
    have l3 := heap_alloc_new w2 (.cells #[.int .i64 (N : Int), .int .i64 20, .int .i64 5, .int .i64 256] 54)
    have hb3 := bel_trans hb1 (bel_trans hb2 (bel_alloc (Below.refl _ w2) (.cells #[.int .i64 (N : Int), .int .i64 20, .int .i64 5, .int .i64 256] 54)))
    go_upto_region 4 with fail
    obtain ⟨w3, hw3⟩ : ∃ x, x = w2.alloc (.cells #[.int .i64 (N : Int), .int .i64 20, .int .i64 5, .int .i64 256] 54) := ⟨_, rfl⟩
    obtain ⟨qb, hqb⟩ : ∃ x, x = w2.heap.size := ⟨_, rfl⟩
    rw [← hw3, ← hqb] at l3
    rw [← hw3] at hb3
    rw [← hw3, ← hqb]
    have HL3 := Lib.hid l3
    have HB3 := Lib.hid hb3
    obtain ⟨g0, g1, g2, g3⟩ := four_at l3
    clear hw3 hqb l3 hb1 hb2 hb3
    go_wp2_with fail
    ((with_reducible refine (HNW.out _).mono ?_))
    rintro e w4 ⟨rb, pb, gb, rfl, hr4, hz4, hb4⟩
    obtain ⟨B, hB⟩ : ∃ B, B = w3.heap.size := ⟨_, rfl⟩
    rw [← hB] at hr4
    have HR4 := Lib.hid hr4
    have HZ4 := Lib.hid hz4
    have HL4 := Lib.hid ((hb4.block _ (Array.getElem?_eq_some_iff.1 HL3.out).1).trans HL3.out)
    have HWB : Hid (w.heap.size ≤ B ∧ B ≤ w4.heap.size) := Lib.hid ⟨by rw [hB]; exact HB3.out.size, by rw [hB]; exact hb4.size⟩
    have HB4 := Lib.hid (bel_trans HB3.out hb4)
    have HDEV := Lib.hid fun (x : World) (hx : Below w4.heap.size w4 x) => HMODE.out B rb pb gb x (HR4.out.step hx)
    clear g0 g1 g2 g3 hr4 hz4 hb4 hB
    obtain ⟨g0, g1, g2, g3⟩ := four_at HL4.out
    obtain ⟨w5, hw5⟩ : ∃ x, x = w4 := ⟨_, rfl⟩
    have hb5 : Below w4.heap.size w4 w5 := by rw [hw5]; exact Below.refl _ _
    rw [← hw5]
    have HB5 := Lib.hid hb5
    clear g0 g1 g2 g3 hb5
    have g0 := (four_at ((HB5.out.block _ (Array.getElem?_eq_some_iff.1 HL4.out).1).trans HL4.out)).1
    clear hw5
    go_wp2_with fail
    ((with_reducible refine (HDEV.out _ HB5.out).1.mono ?_))
    rintro e w6 ⟨rfl, hb6⟩
    have hb7 := bel_trans HB5.out (bel_trans hb6 (bel_alloc (Below.refl _ w6) (.cells #[.int .u8 0, .int .u32 0, .int .u32 0, .int .u16 0, .int .u16 0, .int .u32 0, .int .u32 0, .slice none 0 0] 77)))
    clear g0
    go_upto_region 7 with fail
    obtain ⟨w7, hw7⟩ : ∃ x, x = w6.alloc (.cells #[.int .u8 0, .int .u32 0, .int .u32 0, .int .u16 0, .int .u16 0, .int .u32 0, .int .u32 0, .slice none 0 0] 77) := ⟨_, rfl⟩
    rw [← hw7] at hb7 ⊢
    have HB7 := Lib.hid hb7
    clear hw7 hb6 hb7
    go_wp2_with fail
    ((with_reducible refine (HDEV.out _ HB7.out).2.1.mono ?_))
    rintro e w8 ⟨sv8, rfl, hb8⟩
    have HB8 := Lib.hid (bel_trans HB7.out hb8)
    clear hb8
    go_wp2_with fail
    ((with_reducible refine (HPA.out _).mono ?_))
    rintro e w9 ⟨D, rfl, d1, d2, d3, d4, hb9⟩
    obtain ⟨db, dof, hda, hdc⟩ := d3.1.2.2 (by rw [d2]; omega)
    obtain ⟨da, dn, dc, dl⟩ := D
    simp only at d1 d2 hda hdc
    have hdcap : 256 ≤ dc := by have := d3.2.1; simp only at this; omega
    subst hda d2
    have l10 := heap_alloc_new w9 (.cells #[.int .u8 4, .int .u32 1, .int .u32 0, .int .u16 0, .int .u16 0, .int .u32 1, .int .u32 0, .slice (some ⟨db, dof, none⟩) 256 dc] 77)
    have hb10 := bel_trans HB8.out (bel_trans hb9 (bel_alloc (Below.refl _ w9) (.cells #[.int .u8 4, .int .u32 1, .int .u32 0, .int .u16 0, .int .u16 0, .int .u32 1, .int .u32 0, .slice (some ⟨db, dof, none⟩) 256 dc] 77)))
    go_upto_region 9 with fail
    obtain ⟨w10, hw10⟩ : ∃ x, x = w9.alloc (.cells #[.int .u8 4, .int .u32 1, .int .u32 0, .int .u16 0, .int .u16 0, .int .u32 1, .int .u32 0, .slice (some ⟨db, dof, none⟩) 256 dc] 77) := ⟨_, rfl⟩
    obtain ⟨sb, hsb⟩ : ∃ x, x = w9.heap.size := ⟨_, rfl⟩
    have HSB : Hid (w4.heap.size ≤ sb) := Lib.hid (by rw [hsb]; exact Nat.le_trans HB8.out.size hb9.size)
    rw [← hw10, ← hsb] at l10
    rw [← hw10] at hb10
    rw [← hw10, ← hsb]
    obtain ⟨s0, s1, s2, s3, s4, s5, s6, s7⟩ := eight_at l10
    have sf := free_at l10
    have HL10 := Lib.hid l10
    have HB10 := Lib.hid hb10
    have hdc2 : ((255 : Int) ≤ (dc : Int)) := by omega
    clear hw10 hsb l10 hb9 hb10 d1 d3 d4 hdc
    go_upto_region 10 with fail
    obtain ⟨w11, hw11⟩ : ∃ x, x = w10.setCell ⟨sb, 7, none⟩ (.slice (some ⟨db, dof, none⟩) 255 dc) := ⟨_, rfl⟩
    rw [← hw11]
    have l11 : w11.heap[sb]? = some (.cells #[.int .u8 4, .int .u32 1, .int .u32 0, .int .u16 0, .int .u16 0, .int .u32 1, .int .u32 0, .slice (some ⟨db, dof, none⟩) 255 dc] 77 (0, 0)) := by
      rw [hw11]
      have := heap_setCell_same w10 sb 7 _ _ (.slice (some ⟨db, dof, none⟩) 255 dc) HL10.out
      simpa using this
    have HB11 : Hid (Below w4.heap.size w4 w11) := Lib.hid (by rw [hw11]; exact HB10.out.setCell (p := ⟨sb, 7, none⟩) HSB.out _)
    clear s0 s1 s2 s3 s4 s5 s6 s7 sf hw11 hdc2 hdcap
    obtain ⟨s0, s1, s2, s3, s4, s5, s6, s7⟩ := eight_at l11
    clear l11
    go_wp2_with fail
    ((with_reducible refine ((HDEV.out _ HB11.out).2.2.1 ⟨some ⟨db, dof, none⟩, 255, dc, dl⟩ rfl).mono ?_))
    rintro e w12 ⟨rfl, hb12⟩
    have HB12 := Lib.hid (bel_trans HB11.out hb12)
    clear hb12 s0 s1 s2 s3 s4 s5 s6 s7
    go_wp2_with fail
    ((with_reducible refine (HGN.out _).mono ?_))
    rintro e w13 ⟨rfl, hb13⟩
    have hb14 := bel_trans HB12.out (bel_trans hb13 (bel_alloc (Below.refl _ w13) (.cells #[.int .u8 0, .int .u32 0, .int .u32 0, .int .u16 0, .int .u16 0, .int .u32 0, .int .u32 0, .slice none 0 0] 77)))
    go_upto_region 14 with fail
    obtain ⟨w14, hw14⟩ : ∃ x, x = w13.alloc (.cells #[.int .u8 0, .int .u32 0, .int .u32 0, .int .u16 0, .int .u16 0, .int .u32 0, .int .u32 0, .slice none 0 0] 77) := ⟨_, rfl⟩
    rw [← hw14] at hb14 ⊢
    have HB14 := Lib.hid hb14
    clear hw14 hb13 hb14
    go_wp2_with fail
    ((with_reducible refine (HAN.out _).mono ?_))
    rintro e w15 ⟨rfl, hb15⟩
    have HB15 := Lib.hid (bel_trans HB14.out hb15)
    clear hb15
    go_wp2_with fail
    ((with_reducible refine (HPZ.out _).mono ?_))
    rintro e w16 ⟨D6, rfl, d1, d2, d3, d4, hb16⟩
    have HB16 := Lib.hid (bel_trans HB15.out hb16)
    clear hb16 d1 d2 d3 d4
    go_wp2_with fail
    ((with_reducible refine (HPN.out _ D6).mono ?_))
    rintro e w17 ⟨rfl, hb17⟩
    have HB17 := Lib.hid (bel_trans HB16.out hb17)
    clear hb17
    go_wp2_with fail
    ((with_reducible refine (HPZ.out _).mono ?_))
    rintro e w18 ⟨D7, rfl, d1, d2, d3, d4, hb18⟩
    have HB18 := Lib.hid (bel_trans HB17.out hb18)
    clear hb18 d1 d2 d3 d4
    go_wp2_with fail
    ((with_reducible refine ((HDEV.out _ HB18.out).2.2.2 D7).mono ?_))
    rintro e w19 ⟨rfl, hb19⟩
    have HB19 := Lib.hid (bel_trans HB18.out hb19)
    clear hb19
    go_wp2
    go_ret
    exact ⟨rfl, bel_trans HB4.out HB19.out⟩
  · go_enter Try.func10, Try.ntmps10
    go_wp2_with fail
    ((with_reducible refine (HTW.out _).mono ?_))
    rintro e w1 ⟨rfl, hb1⟩
    go_wp2_with fail
    ((with_reducible refine (HSH.out _).mono ?_))
    rintro e w2 ⟨rfl, hb2⟩
    have l3 := heap_alloc_new w2 (.cells #[.int .i64 (N : Int), .int .i64 20, .int .i64 5, .int .i64 256] 54)
    have hb3 := bel_trans hb1 (bel_trans hb2 (bel_alloc (Below.refl _ w2) (.cells #[.int .i64 (N : Int), .int .i64 20, .int .i64 5, .int .i64 256] 54)))
    go_upto_region 4 with fail
    obtain ⟨w3, hw3⟩ : ∃ x, x = w2.alloc (.cells #[.int .i64 (N : Int), .int .i64 20, .int .i64 5, .int .i64 256] 54) := ⟨_, rfl⟩
    obtain ⟨qb, hqb⟩ : ∃ x, x = w2.heap.size := ⟨_, rfl⟩
    rw [← hw3, ← hqb] at l3
    rw [← hw3] at hb3
    rw [← hw3, ← hqb]
    have HL3 := Lib.hid l3
    have HB3 := Lib.hid hb3
    obtain ⟨g0, g1, g2, g3⟩ := four_at l3
    clear hw3 hqb l3 hb1 hb2 hb3
    go_wp2_with fail
    ((with_reducible refine (HNW.out _).mono ?_))
    rintro e w4 ⟨rb, pb, gb, rfl, hr4, hz4, hb4⟩
    obtain ⟨B, hB⟩ : ∃ B, B = w3.heap.size := ⟨_, rfl⟩
    rw [← hB] at hr4
    have HR4 := Lib.hid hr4
    have HZ4 := Lib.hid hz4
    have HL4 := Lib.hid ((hb4.block _ (Array.getElem?_eq_some_iff.1 HL3.out).1).trans HL3.out)
    have HWB : Hid (w.heap.size ≤ B ∧ B ≤ w4.heap.size) := Lib.hid ⟨by rw [hB]; exact HB3.out.size, by rw [hB]; exact hb4.size⟩
    have HB4 := Lib.hid (bel_trans HB3.out hb4)
    have HDEV := Lib.hid fun (x : World) (hx : Below w4.heap.size w4 x) => HMODE.out B rb pb gb x (HR4.out.step hx)
    clear g0 g1 g2 g3 hr4 hz4 hb4 hB
    obtain ⟨g0, g1, g2, g3⟩ := four_at HL4.out
    go_wp2_with fail
    ((with_reducible refine (HRM.out _).mono ?_))
    rintro e w5 ⟨rfl, hb5⟩
    have HB5 := Lib.hid hb5
    clear g0 g1 g2 g3 hb5
    go_wp2_with fail
    ((with_reducible refine (HDEV.out _ HB5.out).1.mono ?_))
    rintro e w6 ⟨rfl, hb6⟩
    have hb7 := bel_trans HB5.out (bel_trans hb6 (bel_alloc (Below.refl _ w6) (.cells #[.int .u8 0, .int .u32 0, .int .u32 0, .int .u16 0, .int .u16 0, .int .u32 0, .int .u32 0, .slice none 0 0] 77)))
    go_upto_region 7 with fail
    obtain ⟨w7, hw7⟩ : ∃ x, x = w6.alloc (.cells #[.int .u8 0, .int .u32 0, .int .u32 0, .int .u16 0, .int .u16 0, .int .u32 0, .int .u32 0, .slice none 0 0] 77) := ⟨_, rfl⟩
    rw [← hw7] at hb7 ⊢
    have HB7 := Lib.hid hb7
    clear hw7 hb6 hb7
    go_wp2_with fail
    ((with_reducible refine (HDEV.out _ HB7.out).2.1.mono ?_))
    rintro e w8 ⟨sv8, rfl, hb8⟩
    have HB8 := Lib.hid (bel_trans HB7.out hb8)
    clear hb8
    go_wp2_with fail
    ((with_reducible refine (HPA.out _).mono ?_))
    rintro e w9 ⟨D, rfl, d1, d2, d3, d4, hb9⟩
    obtain ⟨db, dof, hda, hdc⟩ := d3.1.2.2 (by rw [d2]; omega)
    obtain ⟨da, dn, dc, dl⟩ := D
    simp only at d1 d2 hda hdc
    have hdcap : 256 ≤ dc := by have := d3.2.1; simp only at this; omega
    subst hda d2
    have l10 := heap_alloc_new w9 (.cells #[.int .u8 4, .int .u32 1, .int .u32 0, .int .u16 0, .int .u16 0, .int .u32 1, .int .u32 0, .slice (some ⟨db, dof, none⟩) 256 dc] 77)
    have hb10 := bel_trans HB8.out (bel_trans hb9 (bel_alloc (Below.refl _ w9) (.cells #[.int .u8 4, .int .u32 1, .int .u32 0, .int .u16 0, .int .u16 0, .int .u32 1, .int .u32 0, .slice (some ⟨db, dof, none⟩) 256 dc] 77)))
    go_upto_region 9 with fail
    obtain ⟨w10, hw10⟩ : ∃ x, x = w9.alloc (.cells #[.int .u8 4, .int .u32 1, .int .u32 0, .int .u16 0, .int .u16 0, .int .u32 1, .int .u32 0, .slice (some ⟨db, dof, none⟩) 256 dc] 77) := ⟨_, rfl⟩
    obtain ⟨sb, hsb⟩ : ∃ x, x = w9.heap.size := ⟨_, rfl⟩
    have HSB : Hid (w4.heap.size ≤ sb) := Lib.hid (by rw [hsb]; exact Nat.le_trans HB8.out.size hb9.size)
    rw [← hw10, ← hsb] at l10
    rw [← hw10] at hb10
    rw [← hw10, ← hsb]
    obtain ⟨s0, s1, s2, s3, s4, s5, s6, s7⟩ := eight_at l10
    have sf := free_at l10
    have HL10 := Lib.hid l10
    have HB10 := Lib.hid hb10
    have hdc2 : ((255 : Int) ≤ (dc : Int)) := by omega
    clear hw10 hsb l10 hb9 hb10 d1 d3 d4 hdc
    go_upto_region 10 with fail
    obtain ⟨w11, hw11⟩ : ∃ x, x = w10.setCell ⟨sb, 7, none⟩ (.slice (some ⟨db, dof, none⟩) 255 dc) := ⟨_, rfl⟩
    rw [← hw11]
    have l11 : w11.heap[sb]? = some (.cells #[.int .u8 4, .int .u32 1, .int .u32 0, .int .u16 0, .int .u16 0, .int .u32 1, .int .u32 0, .slice (some ⟨db, dof, none⟩) 255 dc] 77 (0, 0)) := by
      rw [hw11]
      have := heap_setCell_same w10 sb 7 _ _ (.slice (some ⟨db, dof, none⟩) 255 dc) HL10.out
      simpa using this
    have HB11 : Hid (Below w4.heap.size w4 w11) := Lib.hid (by rw [hw11]; exact HB10.out.setCell (p := ⟨sb, 7, none⟩) HSB.out _)
    clear s0 s1 s2 s3 s4 s5 s6 s7 sf hw11 hdc2 hdcap
    obtain ⟨s0, s1, s2, s3, s4, s5, s6, s7⟩ := eight_at l11
    clear l11
    go_wp2_with fail
    ((with_reducible refine ((HDEV.out _ HB11.out).2.2.1 ⟨some ⟨db, dof, none⟩, 255, dc, dl⟩ rfl).mono ?_))
    rintro e w12 ⟨rfl, hb12⟩
    have HB12 := Lib.hid (bel_trans HB11.out hb12)
    clear hb12 s0 s1 s2 s3 s4 s5 s6 s7
    go_wp2_with fail
    ((with_reducible refine (HGN.out _).mono ?_))
    rintro e w13 ⟨rfl, hb13⟩
    have hb14 := bel_trans HB12.out (bel_trans hb13 (bel_alloc (Below.refl _ w13) (.cells #[.int .u8 0, .int .u32 0, .int .u32 0, .int .u16 0, .int .u16 0, .int .u32 0, .int .u32 0, .slice none 0 0] 77)))
    go_upto_region 14 with fail
    obtain ⟨w14, hw14⟩ : ∃ x, x = w13.alloc (.cells #[.int .u8 0, .int .u32 0, .int .u32 0, .int .u16 0, .int .u16 0, .int .u32 0, .int .u32 0, .slice none 0 0] 77) := ⟨_, rfl⟩
    rw [← hw14] at hb14 ⊢
    have HB14 := Lib.hid hb14
    clear hw14 hb13 hb14
    go_wp2_with fail
    ((with_reducible refine (HAN.out _).mono ?_))
    rintro e w15 ⟨rfl, hb15⟩
    have HB15 := Lib.hid (bel_trans HB14.out hb15)
    clear hb15
    go_wp2_with fail
    ((with_reducible refine (HPZ.out _).mono ?_))
    rintro e w16 ⟨D6, rfl, d1, d2, d3, d4, hb16⟩
    have HB16 := Lib.hid (bel_trans HB15.out hb16)
    clear hb16 d1 d2 d3 d4
    go_wp2_with fail
    ((with_reducible refine (HPN.out _ D6).mono ?_))
    rintro e w17 ⟨rfl, hb17⟩
    have HB17 := Lib.hid (bel_trans HB16.out hb17)
    clear hb17
    go_wp2_with fail
    ((with_reducible refine (HPZ.out _).mono ?_))
    rintro e w18 ⟨D7, rfl, d1, d2, d3, d4, hb18⟩
    have HB18 := Lib.hid (bel_trans HB17.out hb18)
    clear hb18 d1 d2 d3 d4
    go_wp2_with fail
    ((with_reducible refine ((HDEV.out _ HB18.out).2.2.2 D7).mono ?_))
    rintro e w19 ⟨rfl, hb19⟩
    have HB19 := Lib.hid (bel_trans HB18.out hb19)
    clear hb19
    go_wp2
    go_ret
    exact ⟨rfl, bel_trans HB4.out HB19.out⟩
set_option maxRecDepth 100000 in
set_option maxHeartbeats 4000000 in
theorem stageLost_in (ch wv nv : Int) (w : World) (wh k : Nat) (hwv : wv = (wh : Int)) (hw : wh ≤ 1) (hnv : nv = (k : Int)) (hk : k < roomN (stgN ch) 5) :
    Calls Try.prog 10 #[.int .i64 ch, .int .i64 wv, .int .i64 nv] w fun e w' => e = .returned (.bool true) ∧ Below w.heap.size w w' := by
  have HSH := Lib.hid fun x : World => stgShapeL_any ch x
  have HTW := Lib.hid twice_any
  obtain ⟨N, P, R, hN, hP, hR, hN3, hN8, hP1, hP4, hRoom, p1, p1', p2, p3, hgood⟩ := stgHead ch
  rw [← hN] at HSH
  rw [← hN, hRoom] at hk
  have HNW := Lib.hid fun x : World => ramNewZ_any N 20 5 256 x hgood
  rw [show ((20 : Nat) : Int) = 20 from rfl, show ((5 : Nat) : Int) = 5 from rfl, show ((256 : Nat) : Int) = 256 from rfl] at HNW
  have HRM := Lib.hid fun x : World => room_any N 20 5 256 x hgood
  rw [hRoom, show ((20 : Nat) : Int) = 20 from rfl, show ((5 : Nat) : Int) = 5 from rfl, show ((256 : Nat) : Int) = 256 from rfl] at HRM
  have HPA := Lib.hid fun x : World => stgPage_any 1 1 x (by omega) (by omega)
  rw [show ((1 : Nat) : Int) = 1 from rfl] at HPA
  have HPZ := Lib.hid fun x : World => stgPage_any 0 0 x (by omega) (by omega)
  rw [show ((0 : Nat) : Int) = 0 from rfl] at HPZ
  have HGN := Lib.hid fun x : World => stgGet_nil 0 0 x
  have HAN := Lib.hid fun x : World => stgAll_nil 0 x
  have HPN : Hid (∀ (x : World) (D : PS), Calls Try.prog 42 #[.nilIface, .int .i64 0, .int .i64 0, .agg #[.int .u8 4, .int .u32 0, .int .u32 0, .int .u16 0, .int .u16 0, .int .u32 0, .int .u32 0, .slice D.a D.n D.c]] x fun e w' => e = .returned (.int .i64 60) ∧ Below x.heap.size x w') := Lib.hid fun x D => stgPut_nil 0 0 ⟨pgHdr 0 0, D⟩ x
  have t0 : decide ((0 : Int) ≤ wv) = true := by rw [hwv]; simp
  have t1 : decide (wv < 2) = true := by rw [hwv]; simp; omega
  have t2 : decide ((0 : Int) ≤ nv) = true := by rw [hnv]; simp
  have t3 : decide (nv < (R : Int)) = true := by rw [hnv]; simp; omega
  have HMODE : Hid (∀ (B rb pb gb : Nat) (x : World), Ram B (rsNew rb pb gb N 20 5 256) x →
      Calls Try.prog 45 #[.iface 56 (.pointer (some ⟨rb, 0, none⟩)), .int .i64 wv, .int .i64 nv] x (fun e w' => e = .returned (.tuple #[.agg #[.int .u8 0, .int .u32 0, .int .u32 0, .int .u16 0, .int .u16 0, .int .u32 0, .int .u32 0, .slice none 0 0], .int .i64 5]) ∧ Below x.heap.size x w') ∧
      Calls Try.prog 44 #[.iface 56 (.pointer (some ⟨rb, 0, none⟩)), .int .i64 wv] x (fun e w' => ∃ sv, e = .returned (.tuple #[sv, .int .i64 0]) ∧ Below x.heap.size x w') ∧
      (∀ D : PS, D.n = 255 → Calls Try.prog 42 #[.iface 56 (.pointer (some ⟨rb, 0, none⟩)), .int .i64 wv, .int .i64 nv, .agg #[.int .u8 4, .int .u32 1, .int .u32 0, .int .u16 0, .int .u16 0, .int .u32 1, .int .u32 0, .slice D.a 255 D.c]] x (fun e w' => e = .returned (.int .i64 34) ∧ Below x.heap.size x w'))) := Lib.hid fun B rb pb gb x hr => by
    have hall : Calls Try.prog 44 #[.iface 56 (.pointer (some ⟨rb, 0, none⟩)), .int .i64 wv] x (fun e w' => ∃ sv, e = .returned (.tuple #[sv, .int .i64 0]) ∧ Below x.heap.size x w') := by
      rw [hwv]
      refine (stgAll_ok hr wh 0 hw (by show 256 ≤ 1000; omega) (fun _ => none) (fun k _ => ?_) (Nat.zero_le _) (fun j hj => absurd hj (Nat.not_lt_zero _)) (fun _ => rfl)).mono fun e w' hh => ?_
      · unfold getPg; rw [memPg_none rfl rfl, memPg_none rfl rfl]
      · obtain ⟨sv, L, h1, _, h2⟩ := hh; exact ⟨sv, h1, h2⟩
    have hk' : k < roomN (rsNew rb pb gb N 20 5 256).n (rsNew rb pb gb N 20 5 256).pg := by show k < roomN N 5; rw [hRoom]; exact hk
    refine ⟨?_, hall, fun D hD => ?_⟩
    · rw [hwv, hnv]
      have := stgGet_ok hr wh k hw hk' (by show 256 ≤ 1000; omega) none (by unfold getPg; rw [memPg_none rfl rfl, memPg_none rfl rfl])
      exact this
    · have := stgPut_short hr wh k ⟨pgHdr 1 1, D⟩ hw hk' (by show D.n ≠ 256; omega)
      rw [hD] at this
      rw [hwv, hnv]
      exact this
  have HSP := Lib.hid fun x : World => spot_ok N 20 5 256 k x hgood (by rw [hRoom]; exact hk)
  rw [show ((20 : Nat) : Int) = 20 from rfl, show ((5 : Nat) : Int) = 5 from rfl, show ((256 : Nat) : Int) = 256 from rfl, ← hnv] at HSP
  have HF1 := (spot_in hgood (show k < roomN N 5 by rw [hRoom]; exact hk)).2
  obtain ⟨m, hm⟩ : ∃ m, m = firN N k := ⟨_, rfl⟩
  obtain ⟨ro, hro⟩ : ∃ m, m = rowN N k := ⟨_, rfl⟩
  rw [← hm, ← hro] at HSP
  rw [← hm] at HF1
  have HLOST : Hid (∀ (B rb pb gb : Nat) (x : World) (D : PS), Ram B (((rsNew rb pb gb N 20 5 256).kill m).kill (m + 1)) x → B ≤ x.heap.size → D.n = 256 → PartOk x D → (∀ y, D.a = some y → ¬ ((rsNew rb pb gb N 20 5 256).kill m |>.kill (m + 1)).ob y.block) →
      Calls Try.prog 42 #[.iface 56 (.pointer (some ⟨rb, 0, none⟩)), .int .i64 wv, .int .i64 nv, .agg #[.int .u8 4, .int .u32 0, .int .u32 0, .int .u16 0, .int .u16 0, .int .u32 0, .int .u32 0, .slice D.a D.n D.c]] x fun e w' => e = .returned (.int .i64 74) ∧ Below B x w') := Lib.hid fun B rb pb gb x D hr hB hn hD hf => by
    rw [hwv, hnv]
    refine (putPg_any hr hB wh k 0 0 D hw (by show k < roomN N 5; rw [hRoom]; exact hk) rfl (by omega) (by omega) hn hD hf (Nat.zero_le _)).mono fun e w' hh => ?_
    obtain ⟨s', h1, h2, h3, _⟩ := hh
    refine ⟨?_, h3.below hr hB⟩
    rw [h1]
    have e1 : firN (((rsNew rb pb gb N 20 5 256).kill m).kill (m + 1)).n k = m := hm.symm
    have e2 : ordL m 2 (((rsNew rb pb gb N 20 5 256).kill m).kill (m + 1)).first = [m, m + 1] := ordL_two m
    rw [e1, e2]
    have e3 : deads (((rsNew rb pb gb N 20 5 256).kill m).kill (m + 1)) [m, m + 1] = 2 := by simp [deads, RS.kill]
    rw [if_pos e3]
  have HM9 : Hid (m + 1 ≤ 100000) := Lib.hid (by omega)
  clear hN hP hR hN3 hN8 hP1 hP4 hRoom hgood p1 p1' p2 p3 hw hk hwv hnv hm hro HF1
  go_enter Try.func10, Try.ntmps10
  go_wp2_with fail
  ((with_reducible refine (HTW.out _).mono ?_))
  rintro e w1 ⟨rfl, hb1⟩
  go_wp2_with fail
  ((with_reducible refine (HSH.out _).mono ?_))
  rintro e w2 ⟨rfl, hb2⟩
  have l3 := heap_alloc_new w2 (.cells #[.int .i64 (N : Int), .int .i64 20, .int .i64 5, .int .i64 256] 54)
  have hb3 := bel_trans hb1 (bel_trans hb2 (bel_alloc (Below.refl _ w2) (.cells #[.int .i64 (N : Int), .int .i64 20, .int .i64 5, .int .i64 256] 54)))
  go_upto_region 4 with fail
  obtain ⟨w3, hw3⟩ : ∃ x, x = w2.alloc (.cells #[.int .i64 (N : Int), .int .i64 20, .int .i64 5, .int .i64 256] 54) := ⟨_, rfl⟩
  obtain ⟨qb, hqb⟩ : ∃ x, x = w2.heap.size := ⟨_, rfl⟩
  rw [← hw3, ← hqb] at l3
  rw [← hw3] at hb3
  rw [← hw3, ← hqb]
  have HL3 := Lib.hid l3
  have HB3 := Lib.hid hb3
  obtain ⟨g0, g1, g2, g3⟩ := four_at l3
  clear hw3 hqb l3 hb1 hb2 hb3
  go_wp2_with fail
  ((with_reducible refine (HNW.out _).mono ?_))
  rintro e w4 ⟨rb, pb, gb, rfl, hr4, hz4, hb4⟩
  obtain ⟨B, hB⟩ : ∃ B, B = w3.heap.size := ⟨_, rfl⟩
  rw [← hB] at hr4
  have HR4 := Lib.hid hr4
  have HZ4 := Lib.hid hz4
  have HL4 := Lib.hid ((hb4.block _ (Array.getElem?_eq_some_iff.1 HL3.out).1).trans HL3.out)
  have HWB : Hid (w.heap.size ≤ B ∧ B ≤ w4.heap.size) := Lib.hid ⟨by rw [hB]; exact HB3.out.size, by rw [hB]; exact hb4.size⟩
  have HB4 := Lib.hid (bel_trans HB3.out hb4)
  have HDEV := Lib.hid fun (x : World) (hx : Below w4.heap.size w4 x) => HMODE.out B rb pb gb x (HR4.out.step hx)
  clear g0 g1 g2 g3 hr4 hz4 hb4 hB
  obtain ⟨g0, g1, g2, g3⟩ := four_at HL4.out
  go_wp2_with fail
  ((with_reducible refine (HRM.out _).mono ?_))
  rintro e w5 ⟨rfl, hb5⟩
  have HB5 := Lib.hid hb5
  clear g0 g1 g2 g3 hb5
  go_wp2_with fail
  ((with_reducible refine (HDEV.out _ HB5.out).1.mono ?_))
  rintro e w6 ⟨rfl, hb6⟩
  have hb7 := bel_trans HB5.out (bel_trans hb6 (bel_alloc (Below.refl _ w6) (.cells #[.int .u8 0, .int .u32 0, .int .u32 0, .int .u16 0, .int .u16 0, .int .u32 0, .int .u32 0, .slice none 0 0] 77)))
  go_upto_region 7 with fail
  obtain ⟨w7, hw7⟩ : ∃ x, x = w6.alloc (.cells #[.int .u8 0, .int .u32 0, .int .u32 0, .int .u16 0, .int .u16 0, .int .u32 0, .int .u32 0, .slice none 0 0] 77) := ⟨_, rfl⟩
  rw [← hw7] at hb7 ⊢
  have HB7 := Lib.hid hb7
  clear hw7 hb6 hb7
  go_wp2_with fail
  ((with_reducible refine (HDEV.out _ HB7.out).2.1.mono ?_))
  rintro e w8 ⟨sv8, rfl, hb8⟩
  have HB8 := Lib.hid (bel_trans HB7.out hb8)
  clear hb8
  go_wp2_with fail
  ((with_reducible refine (HPA.out _).mono ?_))
  rintro e w9 ⟨D, rfl, d1, d2, d3, d4, hb9⟩
  obtain ⟨db, dof, hda, hdc⟩ := d3.1.2.2 (by rw [d2]; omega)
  obtain ⟨da, dn, dc, dl⟩ := D
  simp only at d1 d2 hda hdc
  have hdcap : 256 ≤ dc := by have := d3.2.1; simp only at this; omega
  subst hda d2
  have l10 := heap_alloc_new w9 (.cells #[.int .u8 4, .int .u32 1, .int .u32 0, .int .u16 0, .int .u16 0, .int .u32 1, .int .u32 0, .slice (some ⟨db, dof, none⟩) 256 dc] 77)
  have hb10 := bel_trans HB8.out (bel_trans hb9 (bel_alloc (Below.refl _ w9) (.cells #[.int .u8 4, .int .u32 1, .int .u32 0, .int .u16 0, .int .u16 0, .int .u32 1, .int .u32 0, .slice (some ⟨db, dof, none⟩) 256 dc] 77)))
  go_upto_region 9 with fail
  obtain ⟨w10, hw10⟩ : ∃ x, x = w9.alloc (.cells #[.int .u8 4, .int .u32 1, .int .u32 0, .int .u16 0, .int .u16 0, .int .u32 1, .int .u32 0, .slice (some ⟨db, dof, none⟩) 256 dc] 77) := ⟨_, rfl⟩
  obtain ⟨sb, hsb⟩ : ∃ x, x = w9.heap.size := ⟨_, rfl⟩
  have HSB : Hid (w4.heap.size ≤ sb) := Lib.hid (by rw [hsb]; exact Nat.le_trans HB8.out.size hb9.size)
  rw [← hw10, ← hsb] at l10
  rw [← hw10] at hb10
  rw [← hw10, ← hsb]
  obtain ⟨s0, s1, s2, s3, s4, s5, s6, s7⟩ := eight_at l10
  have sf := free_at l10
  have HL10 := Lib.hid l10
  have HB10 := Lib.hid hb10
  have hdc2 : ((255 : Int) ≤ (dc : Int)) := by omega
  clear hw10 hsb l10 hb9 hb10 d1 d3 d4 hdc
  go_upto_region 10 with fail
  obtain ⟨w11, hw11⟩ : ∃ x, x = w10.setCell ⟨sb, 7, none⟩ (.slice (some ⟨db, dof, none⟩) 255 dc) := ⟨_, rfl⟩
  rw [← hw11]
  have l11 : w11.heap[sb]? = some (.cells #[.int .u8 4, .int .u32 1, .int .u32 0, .int .u16 0, .int .u16 0, .int .u32 1, .int .u32 0, .slice (some ⟨db, dof, none⟩) 255 dc] 77 (0, 0)) := by
    rw [hw11]
    have := heap_setCell_same w10 sb 7 _ _ (.slice (some ⟨db, dof, none⟩) 255 dc) HL10.out
    simpa using this
  have HB11 : Hid (Below w4.heap.size w4 w11) := Lib.hid (by rw [hw11]; exact HB10.out.setCell (p := ⟨sb, 7, none⟩) HSB.out _)
  clear s0 s1 s2 s3 s4 s5 s6 s7 sf hw11 hdc2 hdcap
  obtain ⟨s0, s1, s2, s3, s4, s5, s6, s7⟩ := eight_at l11
  clear l11
  go_wp2_with fail
  ((with_reducible refine ((HDEV.out _ HB11.out).2.2 ⟨some ⟨db, dof, none⟩, 255, dc, dl⟩ rfl).mono ?_))
  rintro e w12 ⟨rfl, hb12⟩
  have HB12 := Lib.hid (bel_trans HB11.out hb12)
  clear hb12 s0 s1 s2 s3 s4 s5 s6 s7
  go_wp2_with fail
  ((with_reducible refine (HGN.out _).mono ?_))
  rintro e w13 ⟨rfl, hb13⟩
  have hb14 := bel_trans HB12.out (bel_trans hb13 (bel_alloc (Below.refl _ w13) (.cells #[.int .u8 0, .int .u32 0, .int .u32 0, .int .u16 0, .int .u16 0, .int .u32 0, .int .u32 0, .slice none 0 0] 77)))
  go_upto_region 14 with fail
  obtain ⟨w14, hw14⟩ : ∃ x, x = w13.alloc (.cells #[.int .u8 0, .int .u32 0, .int .u32 0, .int .u16 0, .int .u16 0, .int .u32 0, .int .u32 0, .slice none 0 0] 77) := ⟨_, rfl⟩
  rw [← hw14] at hb14 ⊢
  have HB14 := Lib.hid hb14
  clear hw14 hb13 hb14
  go_wp2_with fail
  ((with_reducible refine (HAN.out _).mono ?_))
  rintro e w15 ⟨rfl, hb15⟩
  have HB15 := Lib.hid (bel_trans HB14.out hb15)
  clear hb15
  go_wp2_with fail
  ((with_reducible refine (HPZ.out _).mono ?_))
  rintro e w16 ⟨D6, rfl, d1, d2, d3, d4, hb16⟩
  have HB16 := Lib.hid (bel_trans HB15.out hb16)
  clear hb16 d1 d2 d3 d4
  go_wp2_with fail
  ((with_reducible refine (HPN.out _ D6).mono ?_))
  rintro e w17 ⟨rfl, hb17⟩
  have HB17 := Lib.hid (bel_trans HB16.out hb17)
  clear hb17
  obtain ⟨g0, g1, g2, g3⟩ := four_at ((HB17.out.block _ (Array.getElem?_eq_some_iff.1 HL4.out).1).trans HL4.out)
  go_wp2_with fail
  ((with_reducible refine (HSP.out _).mono ?_))
  rintro e w18 ⟨rfl, hb18⟩
  have HB18 := Lib.hid (bel_trans HB17.out hb18)
  clear hb18 g0 g1 g2 g3
  go_upto_region 20 with fail
  have hbd : Below w18.heap.size w18 w18.drew := (Below.refl _ _).drew
  have hbx := bel_trans HB18.out hbd
  obtain ⟨v1, v2, v3, v4, r1, r2, r3, r4, ⟨c1, c2, c3, c4⟩, hrk, hsk⟩ := two_die (HR4.out.step hbx) (fun _ => rfl) ((hbx.block _ (Array.getElem?_eq_some_iff.1 HZ4.out).1).trans HZ4.out) m HM9.out
  have c0 : w18.drew.cell? ⟨rb, 5, none⟩ = some (.map (some gb)) := (HR4.out.step hbx).c.2.2.2.2.2.1
  have HRK := Lib.hid hrk
  have HBK : Hid (Below B w4 v4) := Lib.hid ((hbx.mono HWB.out.2).trans (hsk.below (HR4.out.step hbx) (Nat.le_trans HWB.out.2 hbx.size)))
  have hBv : B ≤ v4.heap.size := Nat.le_trans HWB.out.2 HBK.out.size
  have HBV := Lib.hid hBv
  have k1 : wrap64 ((m : Int) + 1) = (m : Int) + 1 := IntWalk.wrap64_in _ (by have := HM9.out; omega)
  have k2 : IntKind.i64.wrap ((m : Int) + 1) = (m : Int) + 1 := (IntWalk.i64_left _).trans k1
  change (Instr.mapEntry 64 (.map (some gb)) (.int .i64 (m : Int))).run Try.prog w18.drew = _ at r1
  change (Instr.entryStore 64 (.map (some gb)) (.int .i64 0) (.int .i64 1)).run Try.prog v1 = _ at r2
  change (Instr.mapEntry 64 (.map (some gb)) (.int .i64 ((m : Int) + 1))).run Try.prog v2 = _ at r3
  change (Instr.entryStore 64 (.map (some gb)) (.int .i64 1) (.int .i64 1)).run Try.prog v3 = _ at r4
  change v1.cell? ⟨rb, 5, none⟩ = some (.map (some gb)) at c1
  change v2.cell? ⟨rb, 5, none⟩ = some (.map (some gb)) at c2
  change v3.cell? ⟨rb, 5, none⟩ = some (.map (some gb)) at c3
  change v4.cell? ⟨rb, 5, none⟩ = some (.map (some gb)) at c4
  clear hbd hbx hrk hsk hBv
  go_region_held3 (fun x => x.cell? ⟨rb, 5, none⟩ = some (.map (some gb)))
    (first | with_reducible exact c0 | with_reducible exact c1 | with_reducible exact c2 | with_reducible exact c3 | with_reducible exact c4 | go_keep) (fail)
  all_goals
    clear c0 c1 c2 c3 c4 r1 r2 r3 r4
    go_wp2_with fail
    ((with_reducible refine (HPZ.out _).mono ?_))
    rintro e w19 ⟨D7, rfl, d1, d2, d3, d4, hb19⟩
    have HPL := Lib.hid (HLOST.out B rb pb gb w19 D7 (HRK.out.step hb19) (Nat.le_trans HBV.out hb19.size) d2 d3 (fun x hx => HRK.out.fresh (d4 x hx)))
    have HB19 := Lib.hid (HBK.out.trans (hb19.mono HBV.out))
    clear hb19 d1 d2 d3 d4
    go_wp2_with fail
    ((with_reducible refine HPL.out.mono ?_))
    rintro e w20 ⟨rfl, hb20⟩
    have HB20 := Lib.hid (HB4.out.trans ((HB19.out.trans hb20).mono HWB.out.1))
    clear hb20
    go_wp2
    go_ret
    exact ⟨rfl, HB20.out⟩
theorem stageLost_all (ch wv nv : Int) (w : World) :
    Calls Try.prog 10 #[.int .i64 ch, .int .i64 wv, .int .i64 nv] w fun e w' => e = .returned (.bool true) ∧ Below w.heap.size w w' := by
  by_cases h : wv < 0 ∨ 2 ≤ wv
  · exact stageLost_which ch wv nv w h
  · by_cases hk : nv < 0 ∨ (roomN (stgN ch) 5 : Int) ≤ nv
    · exact stageLost_place ch wv nv w wv.toNat (by omega) (by omega) hk
    · exact stageLost_in ch wv nv w wv.toNat nv.toNat (by omega) (by omega) (by omega) (by omega)
theorem stageLost_fr (ch wv nv : Int) (w : World) (_ : (Lit.int .i64 ch).wf = true) (_ : (Lit.int .i64 wv).wf = true) (_ : (Lit.int .i64 nv).wf = true) :
    Calls Try.prog 10 #[.int .i64 ch, .int .i64 wv, .int .i64 nv] w fun e w' => e = .returned (.bool true) ∧ Below w.heap.size w w' := stageLost_all ch wv nv w
end Go.Proofs.Ytpmlbfpneenacaa
