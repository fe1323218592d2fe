/- stage: spot.read. -/
import Derived.Test.YtpmlbfpneenacaaStgPut
import Derived.Test.YtpmlbfpneenacaaFPage
namespace Go.Proofs.Ytpmlbfpneenacaa
open Go.RowKit Go.Deep

/-- What a member has of a staged page, if it is sealed. -/
def memPg (s : RS) (b row m : Nat) : Option (List Nat × RH) :=
  if s.gone m = 0 ∧ OpenOk ((s.page (m, b, row)).take s.sz) ((s.page (m, b, row)).drop s.sz) then some ((s.page (m, b, row)).take s.sz, openH ((s.page (m, b, row)).take s.sz) ((s.page (m, b, row)).drop s.sz)) else none
/-- What either of two has. -/
def getPg (s : RS) (b row f : Nat) : Option (List Nat × RH) := match memPg s b row f with | some x => some x | none => memPg s b row (f + 1)
def StgGetRet (sz : Nat) (q : Option (List Nat × RH)) (w : World) (e : Ending) (w' : World) : Prop :=
  match q with
  | some (l, H) => ∃ E : PS, e = .returned (.tuple #[.agg #[.int .u8 (H.ki : Int), .int .u32 (H.ep : Int), .int .u32 (H.ba : Int), .int .u16 (H.ix : Int), .int .u16 (H.ct : Int), .int .u32 (H.bl : Int), .int .u32 (H.mo : Int), .slice E.a E.n E.c], .int .i64 0]) ∧ E.l = l ∧ E.n = sz ∧ PartOk w' E ∧ Far w.heap.size E ∧ Below w.heap.size w w'
  | none => e = .returned (.tuple #[.agg #[.int .u8 0, .int .u32 0, .int .u32 0, .int .u16 0, .int .u16 0, .int .u32 0, .int .u32 0, .slice none 0 0], .int .i64 5]) ∧ Below w.heap.size w w'
theorem seven_keep8 {W : World} {k b : Nat} {v0 v1 v2 v3 v4 v5 v6 u0 u1 u2 u3 u4 u5 u6 u7 : Value}
    (h : W.cell? ⟨k, 0, none⟩ = some v0 ∧ W.cell? ⟨k, 1, none⟩ = some v1 ∧ W.cell? ⟨k, 2, none⟩ = some v2 ∧ W.cell? ⟨k, 3, none⟩ = some v3 ∧ W.cell? ⟨k, 4, none⟩ = some v4 ∧ W.cell? ⟨k, 5, none⟩ = some v5 ∧ W.cell? ⟨k, 6, none⟩ = some v6) (hne : k ≠ b) :
    (((((((((W.setCell ⟨b, 0, none⟩ u0).setCell ⟨b, 1, none⟩ u1).setCell ⟨b, 2, none⟩ u2).setCell ⟨b, 3, none⟩ u3).setCell ⟨b, 4, none⟩ u4).setCell ⟨b, 5, none⟩ u5).setCell ⟨b, 6, none⟩ u6).setCell ⟨b, 7, none⟩ u7).cell? ⟨k, 0, none⟩ = some v0) ∧ (((((((((W.setCell ⟨b, 0, none⟩ u0).setCell ⟨b, 1, none⟩ u1).setCell ⟨b, 2, none⟩ u2).setCell ⟨b, 3, none⟩ u3).setCell ⟨b, 4, none⟩ u4).setCell ⟨b, 5, none⟩ u5).setCell ⟨b, 6, none⟩ u6).setCell ⟨b, 7, none⟩ u7).cell? ⟨k, 1, none⟩ = some v1) ∧ (((((((((W.setCell ⟨b, 0, none⟩ u0).setCell ⟨b, 1, none⟩ u1).setCell ⟨b, 2, none⟩ u2).setCell ⟨b, 3, none⟩ u3).setCell ⟨b, 4, none⟩ u4).setCell ⟨b, 5, none⟩ u5).setCell ⟨b, 6, none⟩ u6).setCell ⟨b, 7, none⟩ u7).cell? ⟨k, 2, none⟩ = some v2) ∧ (((((((((W.setCell ⟨b, 0, none⟩ u0).setCell ⟨b, 1, none⟩ u1).setCell ⟨b, 2, none⟩ u2).setCell ⟨b, 3, none⟩ u3).setCell ⟨b, 4, none⟩ u4).setCell ⟨b, 5, none⟩ u5).setCell ⟨b, 6, none⟩ u6).setCell ⟨b, 7, none⟩ u7).cell? ⟨k, 3, none⟩ = some v3) ∧ (((((((((W.setCell ⟨b, 0, none⟩ u0).setCell ⟨b, 1, none⟩ u1).setCell ⟨b, 2, none⟩ u2).setCell ⟨b, 3, none⟩ u3).setCell ⟨b, 4, none⟩ u4).setCell ⟨b, 5, none⟩ u5).setCell ⟨b, 6, none⟩ u6).setCell ⟨b, 7, none⟩ u7).cell? ⟨k, 4, none⟩ = some v4) ∧ (((((((((W.setCell ⟨b, 0, none⟩ u0).setCell ⟨b, 1, none⟩ u1).setCell ⟨b, 2, none⟩ u2).setCell ⟨b, 3, none⟩ u3).setCell ⟨b, 4, none⟩ u4).setCell ⟨b, 5, none⟩ u5).setCell ⟨b, 6, none⟩ u6).setCell ⟨b, 7, none⟩ u7).cell? ⟨k, 5, none⟩ = some v5) ∧ (((((((((W.setCell ⟨b, 0, none⟩ u0).setCell ⟨b, 1, none⟩ u1).setCell ⟨b, 2, none⟩ u2).setCell ⟨b, 3, none⟩ u3).setCell ⟨b, 4, none⟩ u4).setCell ⟨b, 5, none⟩ u5).setCell ⟨b, 6, none⟩ u6).setCell ⟨b, 7, none⟩ u7).cell? ⟨k, 6, none⟩ = some v6) := by
  have key : ∀ o v, W.cell? ⟨k, o, none⟩ = some v → ((((((((W.setCell ⟨b, 0, none⟩ u0).setCell ⟨b, 1, none⟩ u1).setCell ⟨b, 2, none⟩ u2).setCell ⟨b, 3, none⟩ u3).setCell ⟨b, 4, none⟩ u4).setCell ⟨b, 5, none⟩ u5).setCell ⟨b, 6, none⟩ u6).setCell ⟨b, 7, none⟩ u7).cell? ⟨k, o, none⟩ = some v := fun o v hv => (World.cell?_of_block (w := W) (a := ⟨k, o, none⟩) (eight_other W b k hne _ _ _ _ _ _ _ _)).trans hv
  obtain ⟨h0, h1, h2, h3, h4, h5, h6⟩ := h
  exact ⟨key _ _ h0, key _ _ h1, key _ _ h2, key _ _ h3, key _ _ h4, key _ _ h5, key _ _ h6⟩
section
variable {B : Nat} {s : RS} {w : World}
set_option maxRecDepth 100000 in
set_option maxHeartbeats 2000000 in
theorem stgRead_any (h : Ram B s w) (b row f : Nat) (hb : b + 5 < s.bl) (hrow : row < s.pg) (hf : f + 1 < s.n) (hsz : s.sz ≤ 1000) (q : Option (List Nat × RH)) (hq : q = getPg s b row f) :
    Calls Try.prog 89 #[.agg #[.int .i64 (b : Int), .int .i64 (row : Int), .int .i64 (f : Int)], .iface 56 (.pointer (some ⟨s.rb, 0, none⟩))] w (StgGetRet s.sz q w) := by
  have hn16 : s.n ≤ 16 := by have := h.geo.2.1; omega
  have HRD := Lib.hid fun (x : World) (hx : Below w.heap.size w x) (i : Nat) (hi : i < 2) (hg : s.gone (f + i) ≠ 0) => ramRead_dead (h.step hx) (f + i) b row (by omega) hb hrow hg
  have HRL := Lib.hid fun (x : World) (hx : Below w.heap.size w x) (i : Nat) (hi : i < 2) (hg : s.gone (f + i) = 0) => ramRead_live (h.step hx) (f + i) b row (by omega) hb hrow hg
  have tm := fun k => m_read k ⟨s.rb, 0, none⟩
  have HQ := Lib.hid hq
  clear h hb hrow hq
  go_enter Try.func89, Try.ntmps89
  go_upto_region 1 with fail
  obtain ⟨w0, hw0⟩ : ∃ x, x = (w.alloc (.cells #[.int .i64 (b : Int), .int .i64 (row : Int), .int .i64 (f : Int)] 176)).alloc (.cells #[.int .u8 0, .int .u32 0, .int .u32 0, .int .u16 0, .int .u16 0, .int .u32 0, .int .u32 0, .slice none 0 0] 77) := ⟨_, rfl⟩
  obtain ⟨sb, hsb⟩ : ∃ x, x = w.heap.size := ⟨_, rfl⟩
  obtain ⟨rb, hrb⟩ : ∃ x, x = w.heap.size + 1 := ⟨_, rfl⟩
  have k0 : Below w.heap.size w w0 ∧ w0.heap[sb]? = some (.cells #[.int .i64 (b : Int), .int .i64 (row : Int), .int .i64 (f : Int)] 176 (0, 0)) ∧ w0.heap[rb]? = some (.cells #[.int .u8 0, .int .u32 0, .int .u32 0, .int .u16 0, .int .u16 0, .int .u32 0, .int .u32 0, .slice none 0 0] 77 (0, 0)) ∧ w0.heap.size = w.heap.size + 2 := by
    rw [hw0, hsb, hrb]
    refine ⟨bel_alloc (bel_alloc (Below.refl _ w) _) _, ?_, ?_, by simp⟩
    · rw [heap_alloc_old' (by simp)]; exact heap_alloc_new w _
    · have := heap_alloc_new (w.alloc (.cells #[.int .i64 (b : Int), .int .i64 (row : Int), .int .i64 (f : Int)] 176)) (.cells #[.int .u8 0, .int .u32 0, .int .u32 0, .int .u16 0, .int .u16 0, .int .u32 0, .int .u32 0, .slice none 0 0] 77)
      simpa using this
  rw [← hw0, ← hrb, ← hsb]
  obtain ⟨k1, k2, k3, k4⟩ := k0
  have HX : Hid (∀ x : World, Below w0.heap.size w0 x → x.heap[sb]? = some (.cells #[.int .i64 (b : Int), .int .i64 (row : Int), .int .i64 (f : Int)] 176 (0, 0)) ∧ x.heap[rb]? = some (.cells #[.int .u8 0, .int .u32 0, .int .u32 0, .int .u16 0, .int .u16 0, .int .u32 0, .int .u32 0, .slice none 0 0] 77 (0, 0))) := Lib.hid fun x hx => ⟨(hx.block _ (Array.getElem?_eq_some_iff.1 k2).1).trans k2, (hx.block _ (Array.getElem?_eq_some_iff.1 k3).1).trans k3⟩
  have K1 := Lib.hid k1
  have HRB : Hid (w.heap.size ≤ rb ∧ rb < w0.heap.size ∧ w.heap.size ≤ w0.heap.size) := Lib.hid (by omega)
  clear k1 k2 k3 k4 hw0 hsb hrb
  go_wp2_with fail
  go_loopw [12] (fun iv wr => ∃ i : Nat, i ≤ 2 ∧ iv = .int .i64 (i : Int) ∧ (∀ j, j < i → memPg s b row (f + j) = none) ∧ Below w0.heap.size w0 wr) (fun iv _ => (2 - intOf iv).toNat)
  case atStart => exact ⟨0, Nat.zero_le _, rfl, fun j hj => absurd hj (Nat.not_lt_zero j), Below.refl _ _⟩
  case round =>
    obtain ⟨i, hi, rfl, hno, hbw⟩ := hrel
    have HNO := Lib.hid hno
    have HBW := Lib.hid hbw
    obtain ⟨x0, x1⟩ := HX.out wr hbw
    obtain ⟨c0, c1, c2⟩ := three_at x0
    clear x0 x1 hno hbw
    by_cases hlt : i < 2
    · have t1 : decide ((i : Int) < 2) = true := by simp; omega
      have t2 : decide (i < 2) = true := by simpa using hlt
      by_cases hz : s.gone (f + i) = 0
      · have HR := Lib.hid (HRL.out wr (bel_trans K1.out HBW.out) i hlt hz)
        rw [show (((f + i : Nat) : Nat) : Int) = (f : Int) + (i : Int) by omega] at HR
        go_wp2_with fail
        ((with_reducible refine HR.out.mono ?_))
        rintro e w1 ⟨D, O, rfl, q1, q2, q3, q4, q5, q6, q7, q8, hb1⟩
        obtain ⟨H, bb, hH, hbb, hop⟩ := open_parts w1 D O q5 q6 (by omega)
        have HOP := Lib.hid hop
        have HH := Lib.hid (And.intro hH hbb)
        have HD := Lib.hid (And.intro q1 (And.intro q2 (And.intro q3 q5)))
        have HB1 := Lib.hid (bel_trans HBW.out hb1)
        clear q1 q2 q3 q4 q5 q6 q7 q8 hb1 hop hH hbb c0 c1 c2
        go_wp2_with fail
        ((with_reducible refine HOP.out.mono ?_))
        rintro e w2 ⟨rfl, hb2⟩
        have l3 := heap_alloc_new w2 (.cells #[.int .u8 (H.ki : Int), .int .u32 (H.ep : Int), .int .u32 (H.ba : Int), .int .u16 (H.ix : Int), .int .u16 (H.ct : Int), .int .u32 (H.bl : Int), .int .u32 (H.mo : Int)] 27)
        have hb3 := bel_alloc (Below.refl _ w2) (.cells #[.int .u8 (H.ki : Int), .int .u32 (H.ep : Int), .int .u32 (H.ba : Int), .int .u16 (H.ix : Int), .int .u16 (H.ct : Int), .int .u32 (H.bl : Int), .int .u32 (H.mo : Int)] 27)
        have hB3 := bel_trans (bel_trans HB1.out hb2) hb3
        have hD3 := (HD.out.2.2.2.step hb2).step hb3
        go_upto_region 9 with fail
        obtain ⟨w3, hw3⟩ : ∃ x, x = w2.alloc (.cells #[.int .u8 (H.ki : Int), .int .u32 (H.ep : Int), .int .u32 (H.ba : Int), .int .u16 (H.ix : Int), .int .u16 (H.ct : Int), .int .u32 (H.bl : Int), .int .u32 (H.mo : Int)] 27) := ⟨_, rfl⟩
        obtain ⟨hb, hhb⟩ : ∃ x, x = w2.heap.size := ⟨_, rfl⟩
        have HNE : Hid (hb ≠ rb) := Lib.hid (by
          have h1 := HB1.out.size
          have h2 := hb2.size
          have h3 := HRB.out
          omega)
        rw [← hw3, ← hhb] at l3
        rw [← hw3] at hB3 hD3
        rw [← hw3, ← hhb]
        have HB3 := Lib.hid hB3
        have HL3 := Lib.hid l3
        have HD3 := Lib.hid hD3
        clear hw3 hhb hb2 hb3 l3 hB3 hD3
        cases bb with
        | true =>
          have HOK : Hid (memPg s b row (f + i) = some (D.l, H)) := Lib.hid (by
            have h1 := HH.out.2
            have h2 : OpenOk D.l O.l := by simpa using h1.symm
            unfold memPg
            rw [HD.out.1, HD.out.2.1] at h2
            rw [if_pos ⟨hz, h2⟩, HH.out.1, HD.out.1, HD.out.2.1])
          have HHC : Hid (∀ x : World, Below w3.heap.size w3 x → (x.cell? ⟨hb, 0, none⟩ = some (.int .u8 (H.ki : Int)) ∧ x.cell? ⟨hb, 1, none⟩ = some (.int .u32 (H.ep : Int)) ∧ x.cell? ⟨hb, 2, none⟩ = some (.int .u32 (H.ba : Int)) ∧ x.cell? ⟨hb, 3, none⟩ = some (.int .u16 (H.ix : Int)) ∧ x.cell? ⟨hb, 4, none⟩ = some (.int .u16 (H.ct : Int)) ∧ x.cell? ⟨hb, 5, none⟩ = some (.int .u32 (H.bl : Int)) ∧ x.cell? ⟨hb, 6, none⟩ = some (.int .u32 (H.mo : Int)))) := Lib.hid fun x hx => by
            obtain ⟨a0, a1, a2, a3, a4, a5, a6⟩ := seven_at ((hx.block _ (Array.getElem?_eq_some_iff.1 HL3.out).1).trans HL3.out)
            exact ⟨a0, a1, a2, a3, a4, a5, a6⟩
          have HCL := Lib.hid fun (x : World) (hx : Below w3.heap.size w3 x) => clone_any D.a D.n D.c D.l x (HD3.out.keep hx (Nat.le_refl _)).1 (HD3.out.keep hx (Nat.le_refl _)).2.2.2 (by have := HD.out.2.2.1; omega)
          have HB0 : Hid (Below w3.heap.size w3 w3.drew) := Lib.hid (Below.refl _ _).drew
          go_wp2_with fail
          have hS0 := HHC.out w3.drew HB0.out
          go_region_held3 (fun x => x.cell? ⟨hb, 0, none⟩ = some (.int .u8 (H.ki : Int)) ∧ x.cell? ⟨hb, 1, none⟩ = some (.int .u32 (H.ep : Int)) ∧ x.cell? ⟨hb, 2, none⟩ = some (.int .u32 (H.ba : Int)) ∧ x.cell? ⟨hb, 3, none⟩ = some (.int .u16 (H.ix : Int)) ∧ x.cell? ⟨hb, 4, none⟩ = some (.int .u16 (H.ct : Int)) ∧ x.cell? ⟨hb, 5, none⟩ = some (.int .u32 (H.bl : Int)) ∧ x.cell? ⟨hb, 6, none⟩ = some (.int .u32 (H.mo : Int)))
            (first | with_reducible exact hS0 | with_reducible exact hS1 | with_reducible exact seven_keep8 hS1 HNE.out | go_keep)
            ((go_simp; go_at_call 115; ((with_reducible refine (HCL.out _ HB0.out).mono ?_)); (intro e w4 hr; obtain ⟨E, rfl, hEl, hEn, hEk, hb4, hEf⟩ := part_ret' hr; have HB4 := Lib.hid (bel_trans HB0.out hb4); have HE := Lib.hid (And.intro hEl (And.intro hEn (And.intro hEk hEf))); have hS1 := HHC.out w4 HB4.out; obtain ⟨z0, z1, z2, z3, z4, z5, z6, z7⟩ := eight_at (HX.out w4 (bel_trans HB3.out HB4.out)).2; have zf := free_at (HX.out w4 (bel_trans HB3.out HB4.out)).2; clear hr hEl hEn hEk hb4 hEf)))
          all_goals
            clear hS0 hS1
            go_wp2
            have hef : Far w0.heap.size E := fun x hx => Nat.le_trans HB3.out.size ((show ∀ y, E.a = some y → w3.drew.heap.size ≤ y.block from HE.out.2.2.2) x hx)
            have hq2 : q = some (D.l, H) := by
              rw [HQ.out]
              unfold getPg
              have h2 := HNO.out
              have h3 := HOK.out
              obtain rfl | rfl : i = 0 ∨ i = 1 := by omega
              · rw [Nat.add_zero] at h3; rw [h3]
              · have h4 := h2 0 (by omega)
                rw [Nat.add_zero] at h4
                rw [h4, h3]
            rw [hq2]
            refine bodyPost_ret (v := .tuple #[.agg #[.int .u8 (H.ki : Int), .int .u32 (H.ep : Int), .int .u32 (H.ba : Int), .int .u16 (H.ix : Int), .int .u16 (H.ct : Int), .int .u32 (H.bl : Int), .int .u32 (H.mo : Int), .slice E.a E.n E.c], .int .i64 0]) (by simp [results, Try.results89, go_sem, z0, z1, z2, z3, z4, z5, z6, z7]) rfl ?_
            exact ⟨E, rfl, HE.out.1, by rw [HE.out.2.1, ← HD.out.2.2.1]; exact HD3.out.1.1, HE.out.2.2.1.at_ fun _ x hx => eight_other w4 rb x.block (by have := hef x hx; have := HRB.out; omega) _ _ _ _ _ _ _ _, fun x hx => by have := hef x hx; have := HRB.out; omega, bel_eight (bel_trans K1.out (bel_trans HB3.out HB4.out)) rb HRB.out.1 _ _ _ _ _ _ _ _⟩
        | false =>
          have HOK : Hid (memPg s b row (f + i) = none) := Lib.hid (by
            have h1 := HH.out.2
            have h2 : ¬ OpenOk D.l O.l := by simpa using h1.symm
            unfold memPg
            rw [HD.out.1, HD.out.2.1] at h2
            rw [if_neg (fun h => h2 h.2)])
          go_wp2
          go_roundw
          case rel => exact ⟨i + 1, by omega, by go_num, fun j hj => by
            obtain h | rfl : j < i ∨ j = i := by omega
            · exact HNO.out j h
            · exact HOK.out, HB3.out⟩
          case measure => simp [intOf]; omega
      · have HR := Lib.hid (HRD.out wr (bel_trans K1.out HBW.out) i hlt hz)
        rw [show (((f + i : Nat) : Nat) : Int) = (f : Int) + (i : Int) by omega] at HR
        go_wp2_with fail
        ((with_reducible refine HR.out.mono ?_))
        rintro e w1 ⟨rfl, hb1⟩
        have HB1 := Lib.hid (bel_trans HBW.out hb1)
        have HOK : Hid (memPg s b row (f + i) = none) := Lib.hid (by unfold memPg; rw [if_neg (fun h => hz h.1)])
        clear hb1 c0 c1 c2
        go_wp2
        go_roundw
        case rel => exact ⟨i + 1, by omega, by go_num, fun j hj => by
          obtain h | rfl : j < i ∨ j = i := by omega
          · exact HNO.out j h
          · exact HOK.out, HB1.out⟩
        case measure => simp [intOf]; omega
    · obtain rfl : i = 2 := by omega
      have t1 : decide (((2 : Nat) : Int) < 2) = false := by simp
      have x1 := (HX.out wr HBW.out).2
      obtain ⟨z0, z1, z2, z3, z4, z5, z6, z7⟩ := eight_at x1
      have zf := free_at x1
      clear x1 hlt c0 c1 c2
      go_wp2
      have hq2 : q = none := by
        rw [HQ.out]
        unfold getPg
        have h2 := HNO.out 0 (by omega)
        have h3 := HNO.out 1 (by omega)
        rw [Nat.add_zero] at h2
        rw [h2, h3]
      rw [hq2]
      refine bodyPost_ret (v := .tuple #[.agg #[.int .u8 0, .int .u32 0, .int .u32 0, .int .u16 0, .int .u16 0, .int .u32 0, .int .u32 0, .slice none 0 0], .int .i64 5]) (by simp [results, Try.results89, go_sem, z0, z1, z2, z3, z4, z5, z6, z7]) rfl ?_
      exact ⟨rfl, bel_eight (bel_trans K1.out HBW.out) rb HRB.out.1 _ _ _ _ _ _ _ _⟩
end
end Go.Proofs.Ytpmlbfpneenacaa

namespace Go.Proofs.Ytpmlbfpneenacaa
open Go.RowKit Go.Deep

section
variable {B : Nat} {s : RS} {w : World}
set_option maxRecDepth 100000 in
set_option maxHeartbeats 2000000 in
theorem stgGet_ok (h : Ram B s w) (wh k : Nat) (hw : wh ≤ 1) (hk : k < roomN s.n s.pg) (hsz : s.sz ≤ 1000) (q : Option (List Nat × RH)) (hq : q = getPg s (4 + wh) (rowN s.n k) (firN s.n k)) :
    Calls Try.prog 45 #[.iface 56 (.pointer (some ⟨s.rb, 0, none⟩)), .int .i64 (wh : Int), .int .i64 (k : Int)] w (StgGetRet s.sz q w) := by
  have hg := h.geo
  have HSH := Lib.hid fun (x : World) (hx : Below w.heap.size w x) => stgShape_ok (h.step hx) wh hw
  have HFI := Lib.hid fun (x : World) => find_ok s.n s.bl s.pg s.sz k wh x hg hk hw
  obtain ⟨hr1, hf1⟩ := spot_in hg hk
  have HRE := Lib.hid fun (x : World) (hx : Below w.heap.size w x) => stgRead_any (h.step hx) (4 + wh) (rowN s.n k) (firN s.n k) (by have := hg.2.2.1; omega) hr1 hf1 hsz q hq
  rw [show ((4 + wh : Nat) : Int) = 4 + (wh : Int) by omega] at HRE
  obtain ⟨r1, hr⟩ : ∃ r, r = rowN s.n k := ⟨_, rfl⟩
  obtain ⟨f1, hf⟩ : ∃ r, r = firN s.n k := ⟨_, rfl⟩
  rw [← hr, ← hf] at HRE HFI
  clear h hg hk hr1 hf1 hr hf hq
  go_enter Try.func45, Try.ntmps45
  go_upto_region 1 with fail
  have l0 := heap_alloc_new w (.cells #[.int .u8 0, .int .u32 0, .int .u32 0, .int .u16 0, .int .u16 0, .int .u32 0, .int .u32 0, .slice none 0 0] 77)
  have hb0 := bel_alloc (Below.refl _ w) (.cells #[.int .u8 0, .int .u32 0, .int .u32 0, .int .u16 0, .int .u16 0, .int .u32 0, .int .u32 0, .slice none 0 0] 77)
  obtain ⟨w0, hw0⟩ : ∃ x, x = w.alloc (.cells #[.int .u8 0, .int .u32 0, .int .u32 0, .int .u16 0, .int .u16 0, .int .u32 0, .int .u32 0, .slice none 0 0] 77) := ⟨_, rfl⟩
  obtain ⟨pb, hpb⟩ : ∃ x, x = w.heap.size := ⟨_, rfl⟩
  rw [← hw0, ← hpb] at l0
  rw [← hw0] at hb0
  rw [← hw0, ← hpb]
  have HL0 := Lib.hid l0
  have HB0 := Lib.hid hb0
  have HPB : Hid (w.heap.size ≤ pb ∧ pb < w0.heap.size) := Lib.hid ⟨by omega, (Array.getElem?_eq_some_iff.1 l0).1⟩
  clear hw0 hpb l0 hb0
  go_wp2_with fail
  ((with_reducible refine (HSH.out _ HB0.out).mono ?_))
  rintro e w1 ⟨rfl, hb1⟩
  have l1 := heap_alloc_new w1 (.cells #[.int .i64 (s.n : Int), .int .i64 (s.bl : Int), .int .i64 (s.pg : Int), .int .i64 (s.sz : Int)] 54)
  have hb1' := bel_trans hb1 (bel_alloc (Below.refl _ w1) (.cells #[.int .i64 (s.n : Int), .int .i64 (s.bl : Int), .int .i64 (s.pg : Int), .int .i64 (s.sz : Int)] 54))
  go_upto_region 2 with fail
  obtain ⟨w2, hw2⟩ : ∃ x, x = w1.alloc (.cells #[.int .i64 (s.n : Int), .int .i64 (s.bl : Int), .int .i64 (s.pg : Int), .int .i64 (s.sz : Int)] 54) := ⟨_, rfl⟩
  obtain ⟨gb, hgb⟩ : ∃ x, x = w1.heap.size := ⟨_, rfl⟩
  rw [← hw2, ← hgb] at l1
  rw [← hw2] at hb1'
  rw [← hw2, ← hgb]
  have HL2 := Lib.hid ((hb1'.block _ (Array.getElem?_eq_some_iff.1 HL0.out).1).trans HL0.out)
  have HG2 := Lib.hid l1
  have HB2 := Lib.hid (bel_trans HB0.out hb1')
  obtain ⟨g0, g1, g2, g3⟩ := four_at l1
  have HW02 : Hid (w0.heap.size ≤ w2.heap.size) := Lib.hid hb1'.size
  clear hw2 hgb l1 hb1 hb1'
  go_wp2_with fail
  ((with_reducible refine (HFI.out _).mono ?_))
  rintro e w3 ⟨rfl, hb3⟩
  have l4 := heap_alloc_new w3 (.cells #[.int .i64 (4 + (wh : Int)), .int .i64 (r1 : Int), .int .i64 (f1 : Int)] 176)
  have hb4 := bel_trans hb3 (bel_alloc (Below.refl _ w3) (.cells #[.int .i64 (4 + (wh : Int)), .int .i64 (r1 : Int), .int .i64 (f1 : Int)] 176))
  go_upto_region 5 with fail
  obtain ⟨w4, hw4⟩ : ∃ x, x = w3.alloc (.cells #[.int .i64 (4 + (wh : Int)), .int .i64 (r1 : Int), .int .i64 (f1 : Int)] 176) := ⟨_, rfl⟩
  obtain ⟨sb, hsb⟩ : ∃ x, x = w3.heap.size := ⟨_, rfl⟩
  rw [← hw4, ← hsb] at l4
  rw [← hw4] at hb4
  rw [← hw4, ← hsb]
  have HL4 := Lib.hid ((hb4.block _ (Array.getElem?_eq_some_iff.1 HL2.out).1).trans HL2.out)
  have HB4 := Lib.hid (bel_trans HB2.out hb4)
  have HSZ4 : Hid (w0.heap.size ≤ w4.heap.size) := Lib.hid (by have h1 := HB2.out.size; have h2 := hb4.size; have h3 := (Array.getElem?_eq_some_iff.1 HL2.out).1; have h4 := HW02.out; omega)
  clear g0 g1 g2 g3
  obtain ⟨c0, c1, c2⟩ := three_at l4
  clear hw4 hsb l4 hb3 hb4
  cases q with
  | none =>
    go_wp2_with fail
    ((with_reducible refine (HRE.out _ HB4.out).mono ?_))
    intro e w5 hr
    obtain ⟨rfl, hb5⟩ := (show e = .returned (.tuple #[.agg #[.int .u8 0, .int .u32 0, .int .u32 0, .int .u16 0, .int .u16 0, .int .u32 0, .int .u32 0, .slice none 0 0], .int .i64 5]) ∧ Below w4.heap.size w4 w5 from hr)
    have hl5 := (hb5.block _ (Array.getElem?_eq_some_iff.1 HL4.out).1).trans HL4.out
    have HB5 := Lib.hid (bel_trans HB4.out hb5)
    clear hr hb5 c0 c1 c2
    obtain ⟨z0, z1, z2, z3, z4, z5, z6, z7⟩ := eight_at hl5
    have zf := free_at hl5
    clear hl5
    go_wp2
    refine bodyPost_ret (v := .tuple #[.agg #[.int .u8 0, .int .u32 0, .int .u32 0, .int .u16 0, .int .u16 0, .int .u32 0, .int .u32 0, .slice none 0 0], .int .i64 5]) (by simp [results, Try.results45, go_sem, z0, z1, z2, z3, z4, z5, z6, z7]) rfl ?_
    exact ⟨rfl, bel_eight HB5.out pb HPB.out.1 _ _ _ _ _ _ _ _⟩
  | some x =>
    obtain ⟨l, H⟩ := x
    go_wp2_with fail
    ((with_reducible refine (HRE.out _ HB4.out).mono ?_))
    intro e w5 hr
    obtain ⟨E, rfl, q1, q2, q3, q4, hb5⟩ := (show ∃ E : PS, e = .returned (.tuple #[.agg #[.int .u8 (H.ki : Int), .int .u32 (H.ep : Int), .int .u32 (H.ba : Int), .int .u16 (H.ix : Int), .int .u16 (H.ct : Int), .int .u32 (H.bl : Int), .int .u32 (H.mo : Int), .slice E.a E.n E.c], .int .i64 0]) ∧ E.l = l ∧ E.n = s.sz ∧ PartOk w5 E ∧ Far w4.heap.size E ∧ Below w4.heap.size w4 w5 from hr)
    have hl5 := (hb5.block _ (Array.getElem?_eq_some_iff.1 HL4.out).1).trans HL4.out
    have HB5 := Lib.hid (bel_trans HB4.out hb5)
    have HE := Lib.hid (And.intro q1 (And.intro q2 (And.intro q3 q4)))
    clear hr hb5 q1 q2 q3 q4 c0 c1 c2
    obtain ⟨z0, z1, z2, z3, z4, z5, z6, z7⟩ := eight_at hl5
    have zf := free_at hl5
    clear hl5
    go_wp2
    have hef : Far w0.heap.size E := far_mono HSZ4.out HE.out.2.2.2
    refine bodyPost_ret (v := .tuple #[.agg #[.int .u8 (H.ki : Int), .int .u32 (H.ep : Int), .int .u32 (H.ba : Int), .int .u16 (H.ix : Int), .int .u16 (H.ct : Int), .int .u32 (H.bl : Int), .int .u32 (H.mo : Int), .slice E.a E.n E.c], .int .i64 0]) (by simp [results, Try.results45, go_sem, z0, z1, z2, z3, z4, z5, z6, z7]) rfl ?_
    exact ⟨E, rfl, HE.out.1, HE.out.2.1, HE.out.2.2.1.at_ fun _ x hx => eight_other w5 pb x.block (by have := hef x hx; have := HPB.out; omega) _ _ _ _ _ _ _ _, fun x hx => by have := hef x hx; have := HPB.out; omega, bel_eight HB5.out pb HPB.out.1 _ _ _ _ _ _ _ _⟩
set_option maxRecDepth 100000 in
set_option maxHeartbeats 1000000 in
theorem stgGet_which (h : Ram B s w) (wh k : Int) (hw : wh < 0 ∨ 2 ≤ wh) :
    Calls Try.prog 45 #[.iface 56 (.pointer (some ⟨s.rb, 0, none⟩)), .int .i64 wh, .int .i64 k] w fun e w' => e = .returned (.tuple #[.agg #[.int .u8 0, .int .u32 0, .int .u32 0, .int .u16 0, .int .u16 0, .int .u32 0, .int .u32 0, .slice none 0 0], .int .i64 34]) ∧ Below w.heap.size w w' := by
  have HSH := Lib.hid fun (x : World) (hx : Below w.heap.size w x) => stgShape_range (h.step hx) wh hw
  clear h hw
  go_enter Try.func45, Try.ntmps45
  go_upto_region 1 with fail
  have l0 := heap_alloc_new w (.cells #[.int .u8 0, .int .u32 0, .int .u32 0, .int .u16 0, .int .u16 0, .int .u32 0, .int .u32 0, .slice none 0 0] 77)
  have hb0 := bel_alloc (Below.refl _ w) (.cells #[.int .u8 0, .int .u32 0, .int .u32 0, .int .u16 0, .int .u16 0, .int .u32 0, .int .u32 0, .slice none 0 0] 77)
  obtain ⟨w0, hw0⟩ : ∃ x, x = w.alloc (.cells #[.int .u8 0, .int .u32 0, .int .u32 0, .int .u16 0, .int .u16 0, .int .u32 0, .int .u32 0, .slice none 0 0] 77) := ⟨_, rfl⟩
  obtain ⟨pb, hpb⟩ : ∃ x, x = w.heap.size := ⟨_, rfl⟩
  rw [← hw0, ← hpb] at l0
  rw [← hw0] at hb0
  rw [← hw0, ← hpb]
  have HL0 := Lib.hid l0
  have HB0 := Lib.hid hb0
  have HPB : Hid (w.heap.size ≤ pb ∧ pb < w0.heap.size) := Lib.hid ⟨by omega, (Array.getElem?_eq_some_iff.1 l0).1⟩
  clear hw0 hpb l0 hb0
  go_wp2_with fail
  ((with_reducible refine (HSH.out _ HB0.out).mono ?_))
  rintro e w1 ⟨rfl, hb1⟩
  have hb2 := bel_trans hb1 (bel_alloc (Below.refl _ w1) (.cells #[.int .i64 0, .int .i64 0, .int .i64 0, .int .i64 0] 54))
  go_upto_region 2 with fail
  obtain ⟨w2, hw2⟩ : ∃ x, x = w1.alloc (.cells #[.int .i64 0, .int .i64 0, .int .i64 0, .int .i64 0] 54) := ⟨_, rfl⟩
  rw [← hw2] at hb2 ⊢
  have hl2 := (hb2.block _ (Array.getElem?_eq_some_iff.1 HL0.out).1).trans HL0.out
  have HB2 := Lib.hid (bel_trans HB0.out hb2)
  obtain ⟨z0, z1, z2, z3, z4, z5, z6, z7⟩ := eight_at hl2
  have zf := free_at hl2
  clear hb1 hb2 hw2 hl2
  go_wp2
  refine bodyPost_ret (v := .tuple #[.agg #[.int .u8 0, .int .u32 0, .int .u32 0, .int .u16 0, .int .u16 0, .int .u32 0, .int .u32 0, .slice none 0 0], .int .i64 34]) (by simp [results, Try.results45, go_sem, z0, z1, z2, z3, z4, z5, z6, z7]) rfl ?_
  exact ⟨rfl, bel_eight HB2.out pb HPB.out.1 _ _ _ _ _ _ _ _⟩
set_option maxRecDepth 100000 in
set_option maxHeartbeats 1000000 in
theorem stgGet_place (h : Ram B s w) (wh : Nat) (k : Int) (hw : wh ≤ 1) (hk : k < 0 ∨ (roomN s.n s.pg : Int) ≤ k) :
    Calls Try.prog 45 #[.iface 56 (.pointer (some ⟨s.rb, 0, none⟩)), .int .i64 (wh : Int), .int .i64 k] w fun e w' => e = .returned (.tuple #[.agg #[.int .u8 0, .int .u32 0, .int .u32 0, .int .u16 0, .int .u16 0, .int .u32 0, .int .u32 0, .slice none 0 0], .int .i64 34]) ∧ Below w.heap.size w w' := by
  have HSH := Lib.hid fun (x : World) (hx : Below w.heap.size w x) => stgShape_ok (h.step hx) wh hw
  have HFI := Lib.hid fun (x : World) => find_range s.n s.bl s.pg s.sz k (wh : Int) x h.geo hk
  clear h hw hk
  go_enter Try.func45, Try.ntmps45
  go_upto_region 1 with fail
  have l0 := heap_alloc_new w (.cells #[.int .u8 0, .int .u32 0, .int .u32 0, .int .u16 0, .int .u16 0, .int .u32 0, .int .u32 0, .slice none 0 0] 77)
  have hb0 := bel_alloc (Below.refl _ w) (.cells #[.int .u8 0, .int .u32 0, .int .u32 0, .int .u16 0, .int .u16 0, .int .u32 0, .int .u32 0, .slice none 0 0] 77)
  obtain ⟨w0, hw0⟩ : ∃ x, x = w.alloc (.cells #[.int .u8 0, .int .u32 0, .int .u32 0, .int .u16 0, .int .u16 0, .int .u32 0, .int .u32 0, .slice none 0 0] 77) := ⟨_, rfl⟩
  obtain ⟨pb, hpb⟩ : ∃ x, x = w.heap.size := ⟨_, rfl⟩
  rw [← hw0, ← hpb] at l0
  rw [← hw0] at hb0
  rw [← hw0, ← hpb]
  have HL0 := Lib.hid l0
  have HB0 := Lib.hid hb0
  have HPB : Hid (w.heap.size ≤ pb ∧ pb < w0.heap.size) := Lib.hid ⟨by omega, (Array.getElem?_eq_some_iff.1 l0).1⟩
  clear hw0 hpb l0 hb0
  go_wp2_with fail
  ((with_reducible refine (HSH.out _ HB0.out).mono ?_))
  rintro e w1 ⟨rfl, hb1⟩
  have l1 := heap_alloc_new w1 (.cells #[.int .i64 (s.n : Int), .int .i64 (s.bl : Int), .int .i64 (s.pg : Int), .int .i64 (s.sz : Int)] 54)
  have hb1' := bel_trans hb1 (bel_alloc (Below.refl _ w1) (.cells #[.int .i64 (s.n : Int), .int .i64 (s.bl : Int), .int .i64 (s.pg : Int), .int .i64 (s.sz : Int)] 54))
  go_upto_region 2 with fail
  obtain ⟨w2, hw2⟩ : ∃ x, x = w1.alloc (.cells #[.int .i64 (s.n : Int), .int .i64 (s.bl : Int), .int .i64 (s.pg : Int), .int .i64 (s.sz : Int)] 54) := ⟨_, rfl⟩
  obtain ⟨gb, hgb⟩ : ∃ x, x = w1.heap.size := ⟨_, rfl⟩
  rw [← hw2, ← hgb] at l1
  rw [← hw2] at hb1'
  rw [← hw2, ← hgb]
  have HL2 := Lib.hid ((hb1'.block _ (Array.getElem?_eq_some_iff.1 HL0.out).1).trans HL0.out)
  have HG2 := Lib.hid l1
  have HB2 := Lib.hid (bel_trans HB0.out hb1')
  obtain ⟨g0, g1, g2, g3⟩ := four_at l1
  have HW02 : Hid (w0.heap.size ≤ w2.heap.size) := Lib.hid hb1'.size
  clear hw2 hgb l1 hb1 hb1'
  go_wp2_with fail
  ((with_reducible refine (HFI.out _).mono ?_))
  rintro e w3 ⟨rfl, hb3⟩
  have hb4 := bel_trans hb3 (bel_alloc (Below.refl _ w3) (.cells #[.int .i64 0, .int .i64 0, .int .i64 0] 176))
  go_upto_region 5 with fail
  obtain ⟨w4, hw4⟩ : ∃ x, x = w3.alloc (.cells #[.int .i64 0, .int .i64 0, .int .i64 0] 176) := ⟨_, rfl⟩
  rw [← hw4] at hb4 ⊢
  have hl4 := (hb4.block _ (Array.getElem?_eq_some_iff.1 HL2.out).1).trans HL2.out
  have HB4 := Lib.hid (bel_trans HB2.out hb4)
  obtain ⟨z0, z1, z2, z3, z4, z5, z6, z7⟩ := eight_at hl4
  have zf := free_at hl4
  clear hb3 hb4 hw4 hl4 g0 g1 g2 g3
  go_wp2
  refine bodyPost_ret (v := .tuple #[.agg #[.int .u8 0, .int .u32 0, .int .u32 0, .int .u16 0, .int .u16 0, .int .u32 0, .int .u32 0, .slice none 0 0], .int .i64 34]) (by simp [results, Try.results45, go_sem, z0, z1, z2, z3, z4, z5, z6, z7]) rfl ?_
  exact ⟨rfl, bel_eight HB4.out pb HPB.out.1 _ _ _ _ _ _ _ _⟩
end
set_option maxRecDepth 100000 in
set_option maxHeartbeats 1000000 in
theorem stgGet_nil (wh k : Int) (w : World) :
    Calls Try.prog 45 #[.nilIface, .int .i64 wh, .int .i64 k] w fun e w' => e = .returned (.tuple #[.agg #[.int .u8 0, .int .u32 0, .int .u32 0, .int .u16 0, .int .u16 0, .int .u32 0, .int .u32 0, .slice none 0 0], .int .i64 60]) ∧ Below w.heap.size w w' := by
  have HSH := Lib.hid fun (x : World) => stgShape_nil wh x
  go_enter Try.func45, Try.ntmps45
  go_upto_region 1 with fail
  have l0 := heap_alloc_new w (.cells #[.int .u8 0, .int .u32 0, .int .u32 0, .int .u16 0, .int .u16 0, .int .u32 0, .int .u32 0, .slice none 0 0] 77)
  have hb0 := bel_alloc (Below.refl _ w) (.cells #[.int .u8 0, .int .u32 0, .int .u32 0, .int .u16 0, .int .u16 0, .int .u32 0, .int .u32 0, .slice none 0 0] 77)
  obtain ⟨w0, hw0⟩ : ∃ x, x = w.alloc (.cells #[.int .u8 0, .int .u32 0, .int .u32 0, .int .u16 0, .int .u16 0, .int .u32 0, .int .u32 0, .slice none 0 0] 77) := ⟨_, rfl⟩
  obtain ⟨pb, hpb⟩ : ∃ x, x = w.heap.size := ⟨_, rfl⟩
  rw [← hw0, ← hpb] at l0
  rw [← hw0] at hb0
  rw [← hw0, ← hpb]
  have HL0 := Lib.hid l0
  have HB0 := Lib.hid hb0
  have HPB : Hid (w.heap.size ≤ pb ∧ pb < w0.heap.size) := Lib.hid ⟨by omega, (Array.getElem?_eq_some_iff.1 l0).1⟩
  clear hw0 hpb l0 hb0
  go_wp2_with fail
  ((with_reducible refine (HSH.out _).mono ?_))
  rintro e w1 ⟨rfl, hb1⟩
  have hb2 := bel_trans hb1 (bel_alloc (Below.refl _ w1) (.cells #[.int .i64 0, .int .i64 0, .int .i64 0, .int .i64 0] 54))
  go_upto_region 2 with fail
  obtain ⟨w2, hw2⟩ : ∃ x, x = w1.alloc (.cells #[.int .i64 0, .int .i64 0, .int .i64 0, .int .i64 0] 54) := ⟨_, rfl⟩
  rw [← hw2] at hb2 ⊢
  have hl2 := (hb2.block _ (Array.getElem?_eq_some_iff.1 HL0.out).1).trans HL0.out
  have HB2 := Lib.hid (bel_trans HB0.out hb2)
  obtain ⟨z0, z1, z2, z3, z4, z5, z6, z7⟩ := eight_at hl2
  have zf := free_at hl2
  clear hb1 hb2 hw2 hl2
  go_wp2
  refine bodyPost_ret (v := .tuple #[.agg #[.int .u8 0, .int .u32 0, .int .u32 0, .int .u16 0, .int .u16 0, .int .u32 0, .int .u32 0, .slice none 0 0], .int .i64 60]) (by simp [results, Try.results45, go_sem, z0, z1, z2, z3, z4, z5, z6, z7]) rfl ?_
  exact ⟨rfl, bel_eight HB2.out pb HPB.out.1 _ _ _ _ _ _ _ _⟩
end Go.Proofs.Ytpmlbfpneenacaa
