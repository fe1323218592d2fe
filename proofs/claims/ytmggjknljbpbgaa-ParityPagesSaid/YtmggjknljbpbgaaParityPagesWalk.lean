/- ParityPages: the walk. -/
import Derived.Test.YtmggjknljbpbgaaCasePages
import Derived.Test.YtmggjknljbpbgaaSummed
import Derived.Test.YtmggjknljbpbgaaRefOf
namespace Go.Proofs.Ytmggjknljbpbgaa
open Go.RowKit

set_option maxRecDepth 100000 in
set_option maxHeartbeats 6400000 in
theorem parityPages_in (c : CA) (H : List RH) (L : List PS) (w : World) (hin : CaseIn w c H L) :
    Calls Try.prog 11 #[.agg c.cells] w fun e w' => e = .returned (.bool true) ∧ Below w.heap.size w w' := by
  have HS := Lib.hid summed_any
  have HI0 := Lib.hid hin
  have HPA : Hid (∀ x, CaseIn x c H L → Calls Try.prog 38 #[.agg c.cells] x (CaseRet x)) := Lib.hid fun x hx => pages_any c H L x hx
  obtain ⟨ha, hn, hc, da, dn, dc, size, which, wh⟩ := c
  have HWF : Hid (wh.Fits) := Lib.hid hin.wfit
  clear hin
  unfold CA.cells at HPA ⊢
  simp only at HPA ⊢
  go_enter Try.func11, Try.ntmps11
  go_upto_region 1 with fail
  have hpb := heap_alloc_new w (.cells #[.slice ha hn hc, .slice da dn dc, .int .i64 size, .int .i64 which, .int .u8 (wh.ki : Int), .int .u32 (wh.ep : Int), .int .u32 (wh.ba : Int), .int .u16 (wh.ix : Int), .int .u16 (wh.ct : Int), .int .u32 (wh.bl : Int), .int .u32 (wh.mo : Int)] 58)
  have hba := bel_alloc (Below.refl _ w) (.cells #[.slice ha hn hc, .slice da dn dc, .int .i64 size, .int .i64 which, .int .u8 (wh.ki : Int), .int .u32 (wh.ep : Int), .int .u32 (wh.ba : Int), .int .u16 (wh.ix : Int), .int .u16 (wh.ct : Int), .int .u32 (wh.bl : Int), .int .u32 (wh.mo : Int)] 58)
  obtain ⟨w0, hw0⟩ : ∃ x, x = w.alloc (.cells #[.slice ha hn hc, .slice da dn dc, .int .i64 size, .int .i64 which, .int .u8 (wh.ki : Int), .int .u32 (wh.ep : Int), .int .u32 (wh.ba : Int), .int .u16 (wh.ix : Int), .int .u16 (wh.ct : Int), .int .u32 (wh.bl : Int), .int .u32 (wh.mo : Int)] 58) := ⟨_, rfl⟩
  have HSZ : Hid (w0.heap.size = w.heap.size + 1) := Lib.hid (by rw [hw0]; simp)
  rw [← hw0] at hpb hba ⊢
  have HPB := Lib.hid hpb
  have HB0 := Lib.hid hba
  have HI := Lib.hid (HI0.out.keep hba (Nat.le_refl _))
  clear hw0 hpb hba HI0
  obtain ⟨c0, c1, c2, c3, c4, c5, c6, c7, c8, c9, c10, _⟩ := case_all HPB.out
  go_wp2_with fail
  ((with_reducible refine (HPA.out _ HI.out).mono ?_))
  intro e w1 hr
  clear c0 c1 c2 c3 c4 c5 c6 c7 c8 c9 c10 HPA HI
  rcases hr with ⟨u, v, G, sz, rfl, hg0, hg12, hsz, hse, hcs, hb⟩ | ⟨rfl, hb⟩
  case inr =>
    have HB1 := Lib.hid (HB0.out.trans (hb.mono HB0.out.size))
    clear hb
    go_wp2_with fail
    ((with_reducible refine (HS.out _).mono ?_))
    rintro e w2 ⟨rfl, hb⟩
    have HB2 := Lib.hid (bel_trans HB1.out hb)
    clear hb
    go_wp2_with fail
    ((with_reducible refine (HS.out _).mono ?_))
    rintro e w3 ⟨rfl, hb⟩
    have HB3 := Lib.hid (bel_trans HB2.out hb)
    clear hb
    go_wp2
    go_ret
    exact ⟨rfl, HB3.out⟩
  have HB1 : Hid (Below w.heap.size w w1) := Lib.hid (HB0.out.trans (hb.mono HB0.out.size))
  have HP1 := Lib.hid (blk_step HPB.out hb)
  have HSE := Lib.hid hse
  have HCS := Lib.hid hcs
  have HG0 := Lib.hid hg0
  have HG12 := Lib.hid hg12
  have HSZ3 := Lib.hid hsz
  obtain ⟨ua, uc, rfl, _⟩ := cellsG_own hcs.own1
  obtain ⟨va, vc, rfl, _⟩ := cellsG_own hcs.own2
  clear hb hse hcs hg0 hg12 hsz HPB HB0
  go_wp2_with fail
  ((with_reducible refine (HS.out _).mono ?_))
  rintro e w2 ⟨rfl, hb⟩
  have HB2 := Lib.hid (bel_trans HB1.out hb)
  have HP2 := Lib.hid (blk_step HP1.out hb)
  have HCS2 := Lib.hid (HCS.out.step hb)
  have HSZ2 : Hid (w.heap.size < w0.heap.size) := Lib.hid (by have := HSZ.out; omega)
  clear hb HB1 HP1 HCS
  go_upto_region 4 with fail
  have hlt : w.heap.size < w2.heap.size := (Array.getElem?_eq_some_iff.1 HP2.out).1
  have HLT := Lib.hid hlt
  clear hlt
  obtain ⟨_, _, _, _, c4, c5, c6, c7, c8, c9, c10, _⟩ := case_all HP2.out
  have HPG : Hid (PagesL w2 ua G) := Lib.hid (pagesL_of (by
    obtain ⟨a', c', e, h, _⟩ := cellsG_own HCS2.out.own1
    simp only [Value.slice.injEq] at e
    rw [e.1]; exact h) HCS2.out.pages)
  have HPV : Hid (PagesL w2 va G) := Lib.hid (pagesL_of (by
    obtain ⟨a', c', e, h, _⟩ := cellsG_own HCS2.out.own2
    simp only [Value.slice.injEq] at e
    rw [e.1]; exact h) HCS2.out.pages)
  have HGL2 : Hid (∀ q ∈ G, q.d.n ≤ 1000 ∧ q.o.n ≤ 1000) := Lib.hid fun q hq => by
    have h1 := part_len (HPG.out.2 q hq).1
    have h2 := part_len (HPG.out.2 q hq).2
    have h3 := HSE.out.len q hq
    obtain ⟨h, _, _, e⟩ := HSE.out.sealed q hq
    rw [e, sealB_len] at h2
    have := HSZ3.out
    exact ⟨by omega, by omega⟩
  obtain ⟨n, hn0⟩ : ∃ n, n = G.length := ⟨_, rfl⟩
  have HN : Hid (n = G.length) := Lib.hid hn0
  have HN2 : Hid (n ≤ 1000) := Lib.hid (by rw [hn0]; have := HG12.out; omega)
  rw [← hn0]
  clear hn0
  have HOP : Hid (Calls Try.prog 39 #[.agg #[.int .u8 (wh.ki : Int), .int .u32 (wh.ep : Int), .int .u32 (wh.ba : Int), .int .u16 (wh.ix : Int), .int .u16 (wh.ct : Int), .int .u32 (wh.bl : Int), .int .u32 (wh.mo : Int)], .slice ua n uc] w2 (OfRet wh G w2)) := Lib.hid (of_pages wh HWF.out ua n uc G w2 HN.out HPG.out HN2.out HGL2.out)
  go_wp2_with fail
  ((with_reducible refine HOP.out.mono ?_))
  intro e w4 hr
  obtain ⟨D, Ow, rfl, hdl, hol, hdk, hok, hdn2, hon2, hb⟩ := hr
  have hba := bel_trans hb (bel_alloc (Below.refl _ w4) (.cells #[.slice D.a D.n D.c, .slice Ow.a Ow.n Ow.c] 64))
  have hpb := heap_alloc_new w4 (.cells #[.slice D.a D.n D.c, .slice Ow.a Ow.n Ow.c] 64)
  have hb5 := bel_alloc (Below.refl _ w4) (.cells #[.slice D.a D.n D.c, .slice Ow.a Ow.n Ow.c] 64)
  clear c4 c5 c6 c7 c8 c9 c10 HOP hdn2 hon2
  have HDL := Lib.hid hdl
  have HOL := Lib.hid hol
  clear hdl hol
  go_upto_region 5 with fail
  obtain ⟨w5, hw5⟩ : ∃ x, x = w4.alloc (.cells #[.slice D.a D.n D.c, .slice Ow.a Ow.n Ow.c] 64) := ⟨_, rfl⟩
  rw [← hw5] at hba hpb hb5 ⊢
  have HP5 := Lib.hid (blk_step HP2.out hba)
  have HPB5 := Lib.hid hpb
  have HB5 := Lib.hid (bel_trans HB2.out hba)
  have HPV5 := Lib.hid (HPV.out.step hba)
  have HD5 := Lib.hid (hdk.step hb5)
  have HO5 := Lib.hid (hok.step hb5)
  clear hb hba hpb hb5 hw5 hdk hok HP2 HB2 HPG HPV HCS2
  obtain ⟨_, _, _, _, c4, c5, c6, c7, c8, c9, c10, _⟩ := case_all HP5.out
  have HOF : Hid (∀ x, Calls Try.prog 41 #[.agg #[.int .u8 (wh.ki : Int), .int .u32 (wh.ep : Int), .int .u32 (wh.ba : Int), .int .u16 (wh.ix : Int), .int .u16 (wh.ct : Int), .int .u32 (wh.bl : Int), .int .u32 (wh.mo : Int)]] x _) := Lib.hid (of_hdr wh HWF.out)
  go_wp2_with fail
  ((with_reducible refine (HOF.out _).mono ?_))
  rintro e w6 ⟨rfl, hb⟩
  have HP6 := Lib.hid (blk_step HPB5.out hb)
  have HB6 := Lib.hid (bel_trans HB5.out hb)
  have HPV6 := Lib.hid (HPV5.out.step hb)
  have HD6 := Lib.hid (HD5.out.step hb)
  have HO6 := Lib.hid (HO5.out.step hb)
  clear hb c4 c5 c6 c7 c8 c9 c10 HOF
  have HRO := Lib.hid (refOf_pages wh HWF.out va n vc G w6 HN.out HPV6.out HN2.out HGL2.out)
  go_wp2_with fail
  ((with_reducible refine HRO.out.mono ?_))
  intro e w7 hr
  obtain ⟨D2, O2, rfl, hdl, hol, hdk, hok, hdn2, hon2, hb⟩ := hr
  have hba := bel_trans hb (bel_alloc (Below.refl _ w7) (.cells #[.slice D2.a D2.n D2.c, .slice O2.a O2.n O2.c] 66))
  have hpb := heap_alloc_new w7 (.cells #[.slice D2.a D2.n D2.c, .slice O2.a O2.n O2.c] 66)
  have hb5 := bel_alloc (Below.refl _ w7) (.cells #[.slice D2.a D2.n D2.c, .slice O2.a O2.n O2.c] 66)
  clear HRO hdn2 hon2
  have HDL2 := Lib.hid hdl
  have HOL2 := Lib.hid hol
  clear hdl hol
  go_upto_region 6 with fail
  obtain ⟨w8, hw8⟩ : ∃ x, x = w7.alloc (.cells #[.slice D2.a D2.n D2.c, .slice O2.a O2.n O2.c] 66) := ⟨_, rfl⟩
  rw [← hw8] at hba hpb hb5 ⊢
  obtain ⟨⟨p0, p1⟩, _⟩ := page_at (blk_step HP6.out hba)
  obtain ⟨⟨q0, q1⟩, _⟩ := page_at hpb
  have HS1 := Lib.hid (sameB_any D.a D.n D.c D2.a D2.n D2.c D.l D2.l w8 (HD6.out.step hba).1 (hdk.step hb5).1)
  have HS2 := Lib.hid (sameB_any Ow.a Ow.n Ow.c O2.a O2.n O2.c Ow.l O2.l w8 (HO6.out.step hba).1 (hok.step hb5).1)
  rw [HDL.out, HDL2.out] at HS1
  rw [HOL.out, HOL2.out] at HS2
  have HB8 := Lib.hid (bel_trans HB6.out hba)
  clear hb hba hpb hb5 hw8 hdk hok
  go_wp2_with fail
  ((with_reducible refine HS1.out.mono ?_))
  rintro e w12 ⟨rfl, rfl⟩
  simp only [decide_true]
  go_wp2_with fail
  ((with_reducible refine HS2.out.mono ?_))
  rintro e w13 ⟨rfl, rfl⟩
  simp only [decide_true]
  go_wp2
  go_ret
  exact ⟨rfl, HB8.out⟩

end Go.Proofs.Ytmggjknljbpbgaa
