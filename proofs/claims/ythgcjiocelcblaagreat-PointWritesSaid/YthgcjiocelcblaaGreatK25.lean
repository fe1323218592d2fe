/- gabionref09.head. -/
import Derived.Test.YthgcjiocelcblaaGreatK24
import Derived.Deep.RegionHeld3
import Derived.Deep.DeepMust
import Derived.Test.YthgcjiocelcblaaGreatK22
import Derived.Test.YthgcjiocelcblaaGreatK18
import Derived.Test.YthgcjiocelcblaaGreatK16
import Derived.Test.YthgcjiocelcblaaGreatK23
namespace Go.Proofs.YthgcjiocelcblaaGreat
open Go.RowKit

end Go.Proofs.YthgcjiocelcblaaGreat

namespace Go.Proofs.YthgcjiocelcblaaGreat
open Go.RowKit

/-- The law's header's box. -/
def WidC (h : RH) (p : Nat) (x : World) : Prop := x.cell? ⟨p, 0, none⟩ = some (.int .i64 (h.ki : Int)) ∧ x.cell? ⟨p, 1, none⟩ = some (.int .i64 (h.ep : Int)) ∧ x.cell? ⟨p, 2, none⟩ = some (.int .i64 (h.ba : Int)) ∧ x.cell? ⟨p, 3, none⟩ = some (.int .i64 (h.ix : Int)) ∧ x.cell? ⟨p, 4, none⟩ = some (.int .i64 (h.ct : Int)) ∧ x.cell? ⟨p, 5, none⟩ = some (.int .i64 (h.bl : Int)) ∧ x.cell? ⟨p, 6, none⟩ = some (.int .i64 (h.mo : Int))
/-- Both boxes. -/
def RfS (h : RH) (T : TypeId) (w : World) (x : World) : Prop := WidC h w.heap.size x ∧ x.heap[w.heap.size + 1]? = some (.cells #[.slice none 0 0, .slice none 0 0] T (0, 0)) ∧ Below w.heap.size w x
theorem WidC.step {h : RH} {p : Nat} {x y : World} (hs : WidC h p x) (hb : Below x.heap.size x y) : WidC h p y := by
  obtain ⟨h0, h1, h2, h3, h4, h5, h6⟩ := hs
  exact ⟨cell_st h0 hb, cell_st h1 hb, cell_st h2 hb, cell_st h3 hb, cell_st h4 hb, cell_st h5 hb, cell_st h6 hb⟩
theorem widC_at {h : RH} {x : World} {p : Nat} {T : TypeId} (hh : x.heap[p]? = some (.cells #[.int .i64 (h.ki : Int), .int .i64 (h.ep : Int), .int .i64 (h.ba : Int), .int .i64 (h.ix : Int), .int .i64 (h.ct : Int), .int .i64 (h.bl : Int), .int .i64 (h.mo : Int)] T (0, 0))) : WidC h p x := by
  unfold WidC
  simp [World.cell?, hh]
theorem RfS.step {h : RH} {T : TypeId} {w x y : World} (hs : RfS h T w x) (hb : Below x.heap.size x y) : RfS h T w y := ⟨hs.1.step hb, blk_step hs.2.1 hb, bel_trans hs.2.2 hb⟩
theorem rfS_new (h : RH) (w : World) : RfS h 137 w ((w.alloc (.cells #[.int .i64 (h.ki : Int), .int .i64 (h.ep : Int), .int .i64 (h.ba : Int), .int .i64 (h.ix : Int), .int .i64 (h.ct : Int), .int .i64 (h.bl : Int), .int .i64 (h.mo : Int)] 105)).alloc (.cells #[.slice none 0 0, .slice none 0 0] 137)) := by
  have h1 := heap_alloc_new w (.cells #[.int .i64 (h.ki : Int), .int .i64 (h.ep : Int), .int .i64 (h.ba : Int), .int .i64 (h.ix : Int), .int .i64 (h.ct : Int), .int .i64 (h.bl : Int), .int .i64 (h.mo : Int)] 105)
  have hw := widC_at (h := h) h1
  have h2 := heap_alloc_new (w.alloc (.cells #[.int .i64 (h.ki : Int), .int .i64 (h.ep : Int), .int .i64 (h.ba : Int), .int .i64 (h.ix : Int), .int .i64 (h.ct : Int), .int .i64 (h.bl : Int), .int .i64 (h.mo : Int)] 105)) (.cells #[.slice none 0 0, .slice none 0 0] 137)
  rw [World.size_alloc] at h2
  exact ⟨hw.step (bel_alloc (Below.refl _ _) _), h2, bel_alloc (bel_alloc (Below.refl _ w) _) _⟩
/-- What the two lists are while they grow. -/
structure TwoL (B : Nat) (u v : Value) (LU LV : List PS) (x : World) : Prop where
  own1 : OwnL B x u LU
  own2 : OwnL B x v LV
  ns : NoSh u v
theorem TwoL.step {B : Nat} {u v : Value} {LU LV : List PS} {x y : World} (h : TwoL B u v LU LV x) (hb : Below x.heap.size x y) : TwoL B u v LU LV y := ⟨h.own1.kept (row := none) ⟨hb.os, hb.tape, hb.output, hb.size, fun b hb' _ => hb.block b hb'⟩ (by cases hv : u.ownBlock <;> simp), h.own2.kept (row := none) ⟨hb.os, hb.tape, hb.output, hb.size, fun b hb' _ => hb.block b hb'⟩ (by cases hv : v.ownBlock <;> simp), h.ns⟩
theorem TwoL.push1 {B : Nat} {u v u' : Value} {LU LV M : List PS} {x y : World} (h : TwoL B u v LU LV x) (hap : ApdL B x u M u' y) : TwoL B u' v M LV y :=
  ⟨hap.own, h.own2.kept hap.grown h.ns.ne, h.ns.step hap.where_ fun q hq => (h.own2.lt' q hq).2⟩
theorem TwoL.push2 {B : Nat} {u v v' : Value} {LU LV M : List PS} {x y : World} (h : TwoL B u v LU LV x) (hap : ApdL B x v M v' y) : TwoL B u v' LU M y :=
  ⟨h.own1.kept hap.grown h.ns.symm.ne, hap.own, (h.ns.symm.step hap.where_ fun q hq => (h.own1.lt' q hq).2).symm⟩

end Go.Proofs.YthgcjiocelcblaaGreat

namespace Go.Proofs.YthgcjiocelcblaaGreat
open Go.RowKit

set_option maxRecDepth 100000 in
set_option maxHeartbeats 3200000 in
theorem missing_no1 (g : PG) (a : Option Addr) (n c : Nat) (G : List PG) (w : World) (hg : PageOk w g) (hp : PagesL w a G) (hgl : g.d.n ≤ 1000 ∧ g.o.n = 64)
    (hok : ¬ (OpenOk g.d.l g.o.l ∧ (takeH g.o.l).ki = 5)) :
    Calls Tryz.prog 102 #[.agg #[.slice g.d.a g.d.n g.d.c, .slice g.o.a g.o.n g.o.c], .slice a n c] w fun e w' => e = .returned (.tuple #[.agg #[.slice none 0 0, .slice none 0 0], .int .i64 63]) ∧ Below w.heap.size w w' := by
  have HM0 := Lib.hid (ms_new g a G w hg hp)
  have HGL := Lib.hid hgl
  have HNO := Lib.hid hok
  clear hg hp hgl hok
  go_enter Tryz.func102, Tryz.ntmps102
  go_upto_region 1 with fail
  obtain ⟨w0, hw0⟩ : ∃ x, x = (w.alloc (.cells #[.slice g.d.a g.d.n g.d.c, .slice g.o.a g.o.n g.o.c] 137)).alloc (.cells #[.slice none 0 0, .slice none 0 0] 137) := ⟨_, rfl⟩
  rw [← hw0] at HM0 ⊢
  clear hw0
  obtain ⟨H, b, hH, hb, hop⟩ := open_parts w0 g.d g.o HM0.out.page.1 HM0.out.page.2 HGL.out.1
  have HOP := Lib.hid hop
  clear hop
  obtain ⟨⟨p0, p1⟩, _⟩ := page_at HM0.out.1
  by_cases hok : OpenOk g.d.l g.o.l
  · rw [decide_eq_true hok] at hb
    subst hb
    have hk5 : H.ki ≠ 5 := by
      intro h5
      rw [hH] at h5
      unfold openH at h5
      rw [if_pos hok] at h5
      exact HNO.out ⟨hok, h5⟩
    clear hH hok
    go_wp2_with fail
    ((with_reducible refine HOP.out.mono ?_))
    rintro e w1 ⟨rfl, hb1⟩
    have HM1 := Lib.hid (HM0.out.step hb1)
    clear hb1 HOP p0 p1
    have t5 : ((H.ki : Int) != 5) = true := by simp; omega
    clear hk5
    have hhd := hdr_new H w1
    go_upto_region 3 with fail
    obtain ⟨wq, hwq⟩ : ∃ x, x = w1.alloc (.cells #[.int .u8 (H.ki : Int), .int .u32 (H.ep : Int), .int .u32 (H.ba : Int), .int .u16 (H.ix : Int), .int .u16 (H.ct : Int), .int .u32 (H.bl : Int), .int .u32 (H.mo : Int)] 93) := ⟨_, rfl⟩
    have HM8 : Hid (MS g 137 a G w wq) := Lib.hid (by rw [hwq]; exact HM1.out.step (bel_alloc (Below.refl _ _) _))
    rw [← hwq]
    clear hwq hhd t5 HM0 HM1
    obtain ⟨⟨p0, p1⟩, z0, z1⟩ := page_at HM8.out.2.1
    go_wp2
    refine bodyPost_ret (v := .tuple #[.agg #[.slice none 0 0, .slice none 0 0], .int .i64 63]) ?_ rfl ⟨rfl, ?_⟩
    · simp [results, Tryz.results102, go_sem, p0, p1]
    · exact (HM8.out.bel.setCell (p := ⟨w.heap.size + 1, 0, none⟩) (by simp) _).setCell (p := ⟨w.heap.size + 1, 1, none⟩) (by simp) _
  · rw [decide_eq_false hok] at hb
    subst hb
    clear hH hok
    go_wp2_with fail
    ((with_reducible refine HOP.out.mono ?_))
    rintro e w1 ⟨rfl, hb1⟩
    have HM1 := Lib.hid (HM0.out.step hb1)
    clear hb1 HOP p0 p1
    go_upto_region 3 with fail
    obtain ⟨wq, hwq⟩ : ∃ x, x = w1.alloc (.cells #[.int .u8 (H.ki : Int), .int .u32 (H.ep : Int), .int .u32 (H.ba : Int), .int .u16 (H.ix : Int), .int .u16 (H.ct : Int), .int .u32 (H.bl : Int), .int .u32 (H.mo : Int)] 93) := ⟨_, rfl⟩
    have HM8 : Hid (MS g 137 a G w wq) := Lib.hid (by rw [hwq]; exact HM1.out.step (bel_alloc (Below.refl _ _) _))
    rw [← hwq]
    clear hwq HM0 HM1
    obtain ⟨⟨p0, p1⟩, z0, z1⟩ := page_at HM8.out.2.1
    go_wp2
    refine bodyPost_ret (v := .tuple #[.agg #[.slice none 0 0, .slice none 0 0], .int .i64 63]) ?_ rfl ⟨rfl, ?_⟩
    · simp [results, Tryz.results102, go_sem, p0, p1]
    · exact (HM8.out.bel.setCell (p := ⟨w.heap.size + 1, 0, none⟩) (by simp) _).setCell (p := ⟨w.heap.size + 1, 1, none⟩) (by simp) _

set_option maxRecDepth 100000 in
set_option maxHeartbeats 3200000 in
theorem missing_no2 (g : PG) (a : Option Addr) (n c : Nat) (G : List PG) (w : World) (hn : n = G.length) (hg : PageOk w g) (hp : PagesL w a G) (hm : n ≤ 1000) (hgl : g.d.n ≤ 1000 ∧ g.o.n = 64) (hl : ∀ g ∈ G, g.d.n ≤ 1000 ∧ g.o.n ≤ 1000)
    (hok : OpenOk g.d.l g.o.l) (hki : (takeH g.o.l).ki = 5) (hok2 : ¬ OpenOk (outD g G) (outO g G)) :
    Calls Tryz.prog 102 #[.agg #[.slice g.d.a g.d.n g.d.c, .slice g.o.a g.o.n g.o.c], .slice a n c] w fun e w' => e = .returned (.tuple #[.agg #[.slice none 0 0, .slice none 0 0], .int .i64 63]) ∧ Below w.heap.size w w' := by
  have HM0 := Lib.hid (ms_new g a G w hg hp)
  have HN := Lib.hid hn
  have HL := Lib.hid hl
  have HGL := Lib.hid hgl
  have HOK2 := Lib.hid hok2
  have HH : Hid (decide (OpenOk g.d.l g.o.l) = true ∧ (openH g.d.l g.o.l).ki = 5) := Lib.hid ⟨decide_eq_true hok, by unfold openH; rw [if_pos hok]; exact hki⟩
  clear hn hg hp hgl hl hok hki hok2
  go_enter Tryz.func102, Tryz.ntmps102
  go_upto_region 1 with fail
  obtain ⟨w0, hw0⟩ : ∃ x, x = (w.alloc (.cells #[.slice g.d.a g.d.n g.d.c, .slice g.o.a g.o.n g.o.c] 137)).alloc (.cells #[.slice none 0 0, .slice none 0 0] 137) := ⟨_, rfl⟩
  rw [← hw0] at HM0 ⊢
  clear hw0
  obtain ⟨H, b, hH, hb, hop⟩ := open_parts w0 g.d g.o HM0.out.page.1 HM0.out.page.2 HGL.out.1
  rw [HH.out.1] at hb
  subst hb
  have hk5 : H.ki = 5 := by rw [hH]; exact HH.out.2
  have HOP := Lib.hid hop
  clear hop hH HH
  obtain ⟨⟨p0, p1⟩, _⟩ := page_at HM0.out.1
  go_wp2_with fail
  ((with_reducible refine HOP.out.mono ?_))
  rintro e w1 ⟨rfl, hb1⟩
  have HM1 := Lib.hid (HM0.out.step hb1)
  clear hb1 HOP p0 p1
  have t5 : ((H.ki : Int) != 5) = false := by rw [hk5]; rfl
  clear hk5
  have hhd := hdr_new H w1
  go_upto_region 4 with fail
  obtain ⟨wq, hwq⟩ : ∃ x, x = w1.alloc (.cells #[.int .u8 (H.ki : Int), .int .u32 (H.ep : Int), .int .u32 (H.ba : Int), .int .u16 (H.ix : Int), .int .u16 (H.ct : Int), .int .u32 (H.bl : Int), .int .u32 (H.mo : Int)] 93) := ⟨_, rfl⟩
  have HMq : Hid (MS g 137 a G w wq) := Lib.hid (by rw [hwq]; exact HM1.out.step (bel_alloc (Below.refl _ _) _))
  rw [← hwq]
  clear hwq hhd t5 HM0 HM1
  go_wp2_with fail
  ((with_reducible refine (parts_any a n c G wq HN.out HMq.out.pages (by omega) (fun g hg => Nat.le_trans (HL.out g hg).2 (by omega))).mono ?_))
  intro e w2 hq
  obtain ⟨u, v, rfl, hu, hv, hns, hb⟩ := hq
  have HU2 := Lib.hid hu
  have HV2 := Lib.hid hv
  have HNS := Lib.hid hns
  have HB2 : Hid (Below wq.heap.size wq w2) := Lib.hid hb
  have HM2 := Lib.hid (HMq.out.step hb)
  have HVL := Lib.hid HV2.out.lt
  clear hu hv hns hb
  obtain ⟨⟨p0, p1⟩, _⟩ := page_at HM2.out.1
  have hlen1 : (G.map PG.d).length ≤ 1000000 - 1 := by rw [List.length_map, ← HN.out]; omega
  obtain ⟨L1, hL1⟩ : ∃ L1, L1 = G.map PG.d ++ [g.d] := ⟨_, rfl⟩
  have HL1 := Lib.hid hL1
  have hll1 : L1.length = n + 1 := by rw [hL1, List.length_append, List.length_map, HN.out]; rfl
  have HLL1 := Lib.hid hll1
  clear hll1
  go_wp2_with (at_builtin; refine wpList_appL rfl _ _ rfl wq.heap.size u _ rfl (HU2.out.alloc _) _ 1 1 [g.d] rfl rfl (cells_one w2 g.d) (fun h => by cases h) (Nat.le_trans HB2.out.size (by simp)) (by omega) ?_; intro u' w3 hap; rw [← hL1] at hap; have HU3 := Lib.hid hap.own; have HV3 : Hid (OwnL wq.heap.size w3 v _) := Lib.hid ((HV2.out.alloc _).kept hap.grown HNS.out.ne); have HB3 := Lib.hid ((bel_alloc HB2.out _).trans hap.below); have HW23 : Hid (w2.heap.size ≤ w3.heap.size) := Lib.hid (Nat.le_trans (by simp) hap.below.size); clear hap p0 p1; obtain ⟨ua, uc, rfl, hcu, _, _, _⟩ := cellsL_own HU3.out; have HCU := Lib.hid hcu; rw [HLL1.out]; clear hcu hL1)
  have HM3 : Hid (MS g 137 a G w w3) := Lib.hid (HMq.out.step HB3.out)
  have HPL : Hid (PartsL w3 ua L1) := Lib.hid (partsL_of HCU.out fun p hp => by
    rw [HL1.out] at hp
    rcases List.mem_append.1 hp with hp | hp
    · exact dsOk HM3.out.pages p hp
    · rw [List.mem_singleton.1 hp]; exact HM3.out.page.1)
  have HPN : Hid (∀ p ∈ L1, p.n ≤ 1000) := Lib.hid fun p hp => by
    rw [HL1.out] at hp
    rcases List.mem_append.1 hp with hp | hp
    · rw [List.mem_map] at hp
      obtain ⟨q, hq, rfl⟩ := hp
      exact (HL.out q hq).1
    · rw [List.mem_singleton.1 hp]; exact HGL.out.1
  ((with_reducible refine (xorL_any ua uc L1 (n + 1) _ HLL1.out.symm HPL.out (by omega) (fun p hp => Nat.le_trans (HPN.out p hp) (by omega))).mono ?_))
  intro e w4 hr
  obtain ⟨D, rfl, hDl, hDn, hDk, hb, hfar⟩ := part_ret' hr
  have HDL : Hid (D.l = outD g G) := Lib.hid (by rw [hDl, HL1.out, List.map_append, ds_map]; rfl)
  have HDN : Hid (D.n ≤ 1000) := Lib.hid (by rw [hDn, xorL_len]; exact lgL_parts (partsL_mem HPL.out) HPN.out)
  have HD4 := Lib.hid hDk
  have HM4 := Lib.hid (HM3.out.step hb)
  have HV4 := Lib.hid (HV3.out.below hb)
  have HB4 : Hid (Below wq.heap.size wq w4) := Lib.hid (HB3.out.trans (hb.mono HB3.out.size))
  have HDF : Hid (Far (w.heap.size + 2) D) := Lib.hid fun x hx => Nat.le_trans (by
    have := World.block_lt_of_cell? w3 _ (page_at HM3.out.2.1).1.1
    simp at this; omega) (hfar x hx)
  have HVF : Hid (∀ x, D.a = some x → some x.block ≠ v.ownBlock) := Lib.hid fun x hx e => by
    have h1 := hfar x hx
    have h2 := (HVL.out x.block e.symm).2
    have h3 := HW23.out
    omega
  clear hr hDl hDn hDk hb hfar HCU HPL HU2
  obtain ⟨ob, oo, hoa, htk⟩ := tail_ok HM4.out.page.2 HGL.out.2
  obtain ⟨⟨_, p1⟩, _⟩ := page_at HM4.out.1
  rw [hoa, HGL.out.2] at p1
  have hc64 : 64 ≤ g.o.c := by have h := HM4.out.page.2.2.1; rw [HGL.out.2] at h; exact h
  have hcmx : g.o.c ≤ maxLen := HM4.out.page.2.2.2.1
  have HOA := Lib.hid hoa
  obtain ⟨T, hT⟩ : ∃ T, T = g.o.tail ob oo := ⟨_, rfl⟩
  have HTT := Lib.hid hT
  have HTE : Hid (T.l = g.o.l.drop 32 ∧ T.n = 32 ∧ Value.slice T.a T.n T.c = .slice (some ⟨ob, oo + 32, none⟩) 32 (g.o.c - 32)) := Lib.hid (by rw [hT]; exact ⟨rfl, rfl, rfl⟩)
  rw [← hT] at htk
  have HT4 := Lib.hid htk
  clear htk hT hoa
  obtain ⟨oc, hoc⟩ : ∃ oc, oc = g.o.c := ⟨_, rfl⟩
  rw [← hoc] at p1 hc64 hcmx HTE
  unfold maxLen at hcmx
  clear hoc
  have hcn : ¬ (oc = 32) := by omega
  have hc1 : (32 : Int) ≤ (oc : Int) := by omega
  have hc2 : (64 : Int) ≤ (oc : Int) := by omega
  have hlen2 : (G.map fun g => g.o.head).length ≤ 1000000 - 1 := by rw [List.length_map, ← HN.out]; omega
  obtain ⟨L2, hL2⟩ : ∃ L2, L2 = (G.map fun g => g.o.head) ++ [T] := ⟨_, rfl⟩
  have HL2 := Lib.hid hL2
  have hll2 : L2.length = n + 1 := by rw [hL2, List.length_append, List.length_map, HN.out]; rfl
  have HLL2 := Lib.hid hll2
  have HC1 := Lib.hid (cells_one w4 T)
  rw [HTE.out.2.2] at HC1
  clear hll2
  go_wp2_with (at_builtin; refine wpList_appL rfl _ _ rfl wq.heap.size v _ rfl (HV4.out.alloc _) _ 1 1 [T] rfl rfl HC1.out (fun h => by cases h) (Nat.le_trans HB4.out.size (by simp)) (by omega) ?_; intro v' w5 hap; rw [← hL2] at hap; have HV5 := Lib.hid hap.own; have HB5 := Lib.hid ((bel_alloc HB4.out _).trans hap.below); have HD5 : Hid (PartOk w5 D) := Lib.hid ((HD4.out.step (bel_alloc (Below.refl _ w4) _)).grown hap.grown HVF.out); clear hap p1; obtain ⟨va, vc, rfl, hcv, _, _, _⟩ := cellsL_own HV5.out; have HCV := Lib.hid hcv; rw [HLL2.out]; clear hcv hL2)
  have HM5 : Hid (MS g 137 a G w w5) := Lib.hid (HMq.out.step HB5.out)
  have HPL5 : Hid (PartsL w5 va L2) := Lib.hid (partsL_of HCV.out fun p hp => by
    rw [HL2.out] at hp
    rcases List.mem_append.1 hp with hp | hp
    · exact hsOk HM5.out.pages p hp
    · rw [List.mem_singleton.1 hp, HTT.out]; exact tail_at HM5.out.page.2 HGL.out.2 HOA.out)
  have HPN5 : Hid (∀ p ∈ L2, p.n ≤ 1000) := Lib.hid fun p hp => by
    rw [HL2.out] at hp
    rcases List.mem_append.1 hp with hp | hp
    · rw [List.mem_map] at hp
      obtain ⟨q, hq, rfl⟩ := hp
      exact head_le (HL.out q hq).2
    · rw [List.mem_singleton.1 hp, HTE.out.2.1]; omega
  ((with_reducible refine (xorL_any va vc L2 (n + 1) _ HLL2.out.symm HPL5.out (by omega) (fun p hp => Nat.le_trans (HPN5.out p hp) (by omega))).mono ?_))
  intro e w6 hr
  obtain ⟨X, rfl, hox, hb⟩ := hr
  obtain ⟨xb, hxb⟩ : ∃ xb, xb = xorL (L2.map PS.l) := ⟨_, rfl⟩
  rw [← hxb] at hox
  have hxl : xb.length = lgL (L2.map PS.l) := by rw [hxb, xorL_len]
  have HXL1 : Hid (0 < xb.length ∧ xb.length ≤ 1000) := Lib.hid (by
    rw [hxl]
    refine ⟨?_, lgL_parts (partsL_mem HPL5.out) HPN5.out⟩
    have h1 : T.l ∈ L2.map PS.l := by rw [HL2.out]; simp
    have h2 := lgL_mem h1
    have h3 : T.l.length = 32 := by rw [(HT4.out.1).1, HTE.out.2.1]
    omega)
  have HXB : Hid (xb ++ List.replicate 32 0 = outO g G) := Lib.hid (by
    rw [hxb, HL2.out, List.map_append, hs_map]
    simp only [List.map_cons, List.map_nil, HTE.out.1]
    rfl)
  have HOX := Lib.hid hox
  have HB6 := Lib.hid hb
  clear hox hb hxb hxl
  have hx1 := HXL1.out.1
  have hx2 := HXL1.out.2
  go_wp2_with (at_builtin; refine wpList_appZ rfl _ _ rfl w5.heap.size _ xb rfl HOX.out hx1 32 rfl (by omega) (by omega) HB6.out.size (by omega) ?_; intro y w7 hap; rw [HXB.out] at hap; have HB7 := Lib.hid (HB6.out.trans hap.below); obtain ⟨O, rfl, hOl, hOn, hOk, hOf⟩ := part_own hap.own; have HOL := Lib.hid hOl; have HO7 := Lib.hid hOk; have HOF := Lib.hid hOf; clear hap hx1 hx2 hOl hOn hOk hOf)
  have HD7 : Hid (PartOk w7 D) := Lib.hid (HD5.out.keep HB7.out (Nat.le_refl _))
  have HM7 : Hid (MS g 137 a G w w7) := Lib.hid (HM5.out.step HB7.out)
  have hw57 : w.heap.size + 2 ≤ w5.heap.size := by
    have := World.block_lt_of_cell? w5 _ (page_at HM5.out.2.1).1.1
    simp at this; omega
  have HOF2 : Hid (Far (w.heap.size + 2) O) := Lib.hid fun x hx => Nat.le_trans hw57 (HOF.out x hx)
  obtain ⟨H2, b2, hH2, hb2, hop⟩ := open_parts w7 D O HD7.out HO7.out HDN.out
  rw [HDL.out, HOL.out, decide_eq_false HOK2.out] at hb2
  subst hb2
  ((with_reducible refine hop.mono ?_))
  rintro e w8 ⟨rfl, hb8⟩
  have HM8 := Lib.hid ((HM7.out.step hb8).step (bel_alloc (Below.refl _ w8) (.cells #[.int .u8 (H2.ki : Int), .int .u32 (H2.ep : Int), .int .u32 (H2.ba : Int), .int .u16 (H2.ix : Int), .int .u16 (H2.ct : Int), .int .u32 (H2.bl : Int), .int .u32 (H2.mo : Int)] 93)))
  have HD8 := Lib.hid ((HD7.out.step hb8).step (bel_alloc (Below.refl _ w8) (.cells #[.int .u8 (H2.ki : Int), .int .u32 (H2.ep : Int), .int .u32 (H2.ba : Int), .int .u16 (H2.ix : Int), .int .u16 (H2.ct : Int), .int .u32 (H2.bl : Int), .int .u32 (H2.mo : Int)] 93)))
  have HO8 := Lib.hid ((HO7.out.step hb8).step (bel_alloc (Below.refl _ w8) (.cells #[.int .u8 (H2.ki : Int), .int .u32 (H2.ep : Int), .int .u32 (H2.ba : Int), .int .u16 (H2.ix : Int), .int .u16 (H2.ct : Int), .int .u32 (H2.bl : Int), .int .u32 (H2.mo : Int)] 93)))
  clear hb8 hop hH2 hw57
  go_upto_region 8 with fail
  obtain ⟨w9, hw9⟩ : ∃ x, x = w8.alloc (.cells #[.int .u8 (H2.ki : Int), .int .u32 (H2.ep : Int), .int .u32 (H2.ba : Int), .int .u16 (H2.ix : Int), .int .u16 (H2.ct : Int), .int .u32 (H2.bl : Int), .int .u32 (H2.mo : Int)] 93) := ⟨_, rfl⟩
  rw [← hw9] at HM8 HD8 HO8 ⊢
  clear hw9
  obtain ⟨⟨p0, p1⟩, z0, z1⟩ := page_at HM8.out.2.1
  go_wp2
  refine bodyPost_ret (v := .tuple #[.agg #[.slice none 0 0, .slice none 0 0], .int .i64 63]) ?_ rfl ⟨rfl, ?_⟩
  · simp [results, Tryz.results102, go_sem, p0, p1]
  · exact (HM8.out.bel.setCell (p := ⟨w.heap.size + 1, 0, none⟩) (by simp) _).setCell (p := ⟨w.heap.size + 1, 1, none⟩) (by simp) _

/-- Something comes out. -/
def MissOk (g : PG) (G : List PG) : Prop := (OpenOk g.d.l g.o.l ∧ (takeH g.o.l).ki = 5) ∧ OpenOk (outD g G) (outO g G)
theorem missing_any (g : PG) (a : Option Addr) (n c : Nat) (G : List PG) (w : World) (hn : n = G.length) (hg : PageOk w g) (hp : PagesL w a G) (hm : n ≤ 1000) (hgl : g.d.n ≤ 1000 ∧ g.o.n = 64) (hl : ∀ g ∈ G, g.d.n ≤ 1000 ∧ g.o.n ≤ 1000) :
    (MissOk g G → Calls Tryz.prog 102 #[.agg #[.slice g.d.a g.d.n g.d.c, .slice g.o.a g.o.n g.o.c], .slice a n c] w (MissRet g G w)) ∧
    (¬ MissOk g G → Calls Tryz.prog 102 #[.agg #[.slice g.d.a g.d.n g.d.c, .slice g.o.a g.o.n g.o.c], .slice a n c] w fun e w' => e = .returned (.tuple #[.agg #[.slice none 0 0, .slice none 0 0], .int .i64 63]) ∧ Below w.heap.size w w') := by
  refine ⟨fun h => missing_yes g a n c G w hn hg hp hm hgl hl h.1.1 h.1.2 h.2, fun h => ?_⟩
  by_cases h1 : OpenOk g.d.l g.o.l ∧ (takeH g.o.l).ki = 5
  · exact missing_no2 g a n c G w hn hg hp hm hgl hl h1.1 h1.2 fun h2 => h ⟨h1, h2⟩
  · exact missing_no1 g a n c G w hg hp hgl h1

end Go.Proofs.YthgcjiocelcblaaGreat

namespace Go.Proofs.YthgcjiocelcblaaGreat
open Go.RowKit

theorem row_front {w : World} {b off n : Nat} {bs : List Nat} (h : Row w (some ⟨b, off, none⟩) n bs) (k : Nat) (hk : k ≤ n) : Row w (some ⟨b, off, none⟩) k (bs.take k) := by
  obtain ⟨h1, h2, h3⟩ := h
  refine ⟨by rw [List.length_take, h1]; omega, fun x hx => h2 x (List.mem_of_mem_take hx), fun h0 => ?_⟩
  obtain ⟨b', off', e, hc⟩ := h3 (by omega)
  refine ⟨b', off', e, fun i hi => ?_⟩
  rw [hc i (by omega)]
  simp [List.getD, hi]
set_option maxHeartbeats 1600000 in
theorem with_any (b off n c : Nat) (bs : List Nat) (k : Nat) (pb pc : Nat) (x : Nat) (w : World) (hr : Row w (some ⟨b, off, none⟩) n bs) (hnc : n ≤ c) (hc : c ≤ 2 ^ 63 - 1) (hk : k < n) (hn : n ≤ 1000) (hx : Row w (some ⟨pb, 0, none⟩) 1 [x]) :
    Calls Tryz.prog 24 #[.slice (some ⟨b, off, none⟩) n c, .int .i64 (k : Int), .slice (some ⟨pb, 0, none⟩) 1 pc] w (RetOwn w (bs.take k ++ [x] ++ bs.drop (k + 1))) := by
  have HR := Lib.hid hr
  have HX := Lib.hid hx
  have HF := Lib.hid (row_front hr k (by omega))
  have HL : Hid (bs.length = n) := Lib.hid hr.1
  obtain ⟨res, hres⟩ : ∃ r, r = bs.take k ++ [x] ++ bs.drop (k + 1) := ⟨_, rfl⟩
  rw [← hres]
  have HRES := Lib.hid hres
  clear hr hx hres
  have h1 : k ≤ c := by omega
  have h2 : (k : Int) ≤ (c : Int) := by omega
  have h3 : (0 : Int) ≤ (k : Int) := by omega
  have h4 : k + 1 ≤ n := by omega
  have h5 : (k : Int) + 1 ≤ (n : Int) := by omega
  have h6 : (n : Int) ≤ (c : Int) := by omega
  have h7 : (0 : Int) ≤ (k : Int) + 1 := by omega
  go_enter Tryz.func24, Tryz.ntmps24
  go_wp2_with (at_builtin; refine wpList_app rfl _ _ rfl w.heap.size _ _ rfl (own_nil _ _) _ _ _ (bs.take k) rfl HF.out (fun h => by cases h) (Nat.le_refl _) (by simp; omega) ?_)
  intro v1 w1 hap
  have HO1 : Hid (Own w.heap.size w1 v1 (bs.take k)) := Lib.hid hap.own
  have HB1 : Hid (Below w.heap.size w w1) := Lib.hid hap.below
  clear hap
  have HX1 := Lib.hid (row_keep HX.out HB1.out (Nat.le_refl _))
  have HR1 := Lib.hid (row_keep HR.out HB1.out (Nat.le_refl _))
  have hl1 : (bs.take k).length ≤ 1000 := by rw [List.length_take]; omega
  obtain ⟨l1, hl1e⟩ : ∃ l1, l1 = bs.take k := ⟨_, rfl⟩
  rw [← hl1e] at HO1 hl1 HRES
  clear hl1e
  go_wp2_with (at_builtin; refine wpList_app rfl _ _ rfl w.heap.size _ _ rfl HO1.out _ _ _ [x] rfl HX1.out (fun h => by cases h) HB1.out.size (by omega) ?_)
  intro v2 w2 hap
  have HO2 : Hid (Own w.heap.size w2 v2 (l1 ++ [x])) := Lib.hid hap.own
  have HB2 : Hid (Below w.heap.size w w2) := Lib.hid (HB1.out.trans hap.below)
  clear hap
  have HS2 := Lib.hid (row_suffix (row_keep HR.out HB2.out (Nat.le_refl _)) (k + 1) (by omega))
  have hl2 : (l1 ++ [x]).length ≤ 2000 := by rw [List.length_append]; simp; omega
  obtain ⟨l2, hl2e⟩ : ∃ l2, l2 = l1 ++ [x] := ⟨_, rfl⟩
  rw [← hl2e] at HO2 hl2 HRES
  clear hl2e
  go_upto_region 4 with fail
  by_cases hce : c = k + 1
  · have hnk : n = k + 1 := by omega
    have HE : Hid (bs.drop (k + 1) = []) := Lib.hid (List.drop_eq_nil_of_le (by rw [HL.out, hnk]; exact Nat.le_refl _))
    rw [HE.out, List.append_nil] at HRES
    subst hce hnk
    have HR0 : Hid (∀ q : Addr, Row w2 (some q) 0 []) := Lib.hid fun q => ⟨rfl, (fun x hx => by cases hx), fun h => absurd h (Nat.lt_irrefl 0)⟩
    go_wp2_with (at_builtin; refine wpList_app rfl _ _ rfl w.heap.size _ _ rfl HO2.out _ 0 _ [] rfl (HR0.out _) (fun h => by cases h) HB2.out.size (by omega) ?_; intro v3 w3 hap; have HO3 := Lib.hid hap.own; have HB3 := Lib.hid (HB2.out.trans hap.below); clear hap)
    rw [List.append_nil, ← HRES.out] at HO3
    go_wp2
    go_ret
    exact ⟨_, rfl, HO3.out, HB3.out⟩
  · go_wp2_with (at_builtin; refine wpList_app rfl _ _ rfl w.heap.size _ _ rfl HO2.out _ _ _ _ rfl HS2.out (fun h => by cases h) HB2.out.size (by omega) ?_; intro v3 w3 hap; have HO3 := Lib.hid hap.own; have HB3 := Lib.hid (HB2.out.trans hap.below); clear hap)
    rw [← HRES.out] at HO3
    go_wp2
    go_ret
    exact ⟨_, rfl, HO3.out, HB3.out⟩

end Go.Proofs.YthgcjiocelcblaaGreat

namespace Go.Proofs.YthgcjiocelcblaaGreat
open Go.RowKit

def OfFar (h : RH) (G : List PG) (w : World) (e : Ending) (w' : World) : Prop :=
  ∃ D O : PS, e = .returned (.agg #[.slice D.a D.n D.c, .slice O.a O.n O.c]) ∧ D.l = xorL (dsOf G) ∧ O.l = sealB h (xorL (dsOf G)) (xorL (hsOf G)) ∧ PartOk w' D ∧ PartOk w' O ∧ D.n ≤ 1000 ∧ O.n = 64 ∧ Far w.heap.size D ∧ Far w.heap.size O ∧ Below w.heap.size w w'
set_option maxRecDepth 100000 in
set_option maxHeartbeats 3200000 in
theorem of_far (h : RH) (hf : h.Fits) (a : Option Addr) (n c : Nat) (G : List PG) (w : World) (hn : n = G.length) (hp : PagesL w a G) (hm : n ≤ 1000) (hl : ∀ g ∈ G, g.d.n ≤ 1000 ∧ g.o.n ≤ 1000) :
    Calls Tryz.prog 72 #[.agg h.cells, .slice a n c] w (OfFar h G w) := by
  have HP := Lib.hid hp
  have HN := Lib.hid hn
  have HL := Lib.hid hl
  have HS0 := Lib.hid (ofS_new h w)
  have HF := Lib.hid hf
  have HD1 : Hid (∀ p ∈ G.map PG.d, p.n ≤ 1000) := Lib.hid fun p hp => by
    rw [List.mem_map] at hp
    obtain ⟨g, hg, rfl⟩ := hp
    exact (hl g hg).1
  have HH1 : Hid (∀ p ∈ G.map (fun g => g.o.head), p.n ≤ 1000) := Lib.hid fun p hp => by
    rw [List.mem_map] at hp
    obtain ⟨g, hg, rfl⟩ := hp
    exact head_le (hl g hg).2
  have HLD : Hid ((G.map PG.d).length = n) := Lib.hid (by rw [List.length_map, hn])
  have HLH : Hid ((G.map fun g => g.o.head).length = n) := Lib.hid (by rw [List.length_map, hn])
  clear hp hn hl hf
  unfold RH.cells
  go_enter Tryz.func72, Tryz.ntmps72
  go_wp2_with fail
  obtain ⟨w0, hw0⟩ : ∃ x, x = (w.alloc (.cells #[.int .u8 (h.ki : Int), .int .u32 (h.ep : Int), .int .u32 (h.ba : Int), .int .u16 (h.ix : Int), .int .u16 (h.ct : Int), .int .u32 (h.bl : Int), .int .u32 (h.mo : Int)] 93)).alloc (.cells #[.slice none 0 0, .slice none 0 0] 137) := ⟨_, rfl⟩
  rw [← hw0] at HS0 ⊢
  clear hw0
  have HP0 := Lib.hid (HP.out.keep HS0.out.2.2 (Nat.le_refl _))
  ((with_reducible refine (parts_any a n c G w0 HN.out HP0.out (by omega) (fun g hg => Nat.le_trans (HL.out g hg).2 (by omega))).mono ?_))
  intro e w1 hq
  obtain ⟨u, v, rfl, hu, hv, hns, hb⟩ := hq
  have HP1 := Lib.hid (HP0.out.step hb)
  have HS1 := Lib.hid (HS0.out.step hb)
  obtain ⟨ua, uc, rfl, hcu, _, _, _⟩ := cellsL_own hu
  obtain ⟨va, vc, rfl, hcv, _, _, _⟩ := cellsL_own hv
  have HU1 := Lib.hid (partsL_of hcu (dsOk HP1.out))
  have HV1 := Lib.hid (partsL_of hcv (hsOk HP1.out))
  rw [HLD.out, HLH.out]
  clear hb hu hv hns hcu hcv
  go_wp2_with fail
  ((with_reducible refine (xorL_any ua uc (G.map PG.d) n _ HLD.out.symm HU1.out (by omega) (fun p hp => Nat.le_trans (HD1.out p hp) (by omega))).mono ?_))
  intro e w2 hr
  obtain ⟨D, rfl, hDl, hDn, hDk, hb, hfar⟩ := part_ret' hr
  have HDF : Hid (Far (w.heap.size + 2) D) := Lib.hid fun x hx => Nat.le_trans (Nat.le_trans (by have := World.block_lt_of_cell? w1 _ (page_at HS1.out.2.1).1.1; simp at this; omega) (Nat.le_refl w1.heap.size)) (hfar x hx)
  rw [ds_map] at hDl
  have HDL := Lib.hid hDl
  have HDN : Hid (D.n ≤ 1000) := Lib.hid (by rw [hDn, xorL_len]; exact lgL_parts (dsOk HP1.out) HD1.out)
  have HD2 := Lib.hid hDk
  have HS2 := Lib.hid (HS1.out.step hb)
  have HV2 := Lib.hid (HV1.out.step hb)
  clear hr hDl hDn hDk hb hfar
  obtain ⟨⟨c0, c1, c2, c3, c4, c5, c6⟩, hpg, _⟩ := HS2.out
  obtain ⟨⟨p0, p1⟩, z0, z1⟩ := page_at hpg
  clear hpg
  go_wp2_with fail
  clear p0 p1 z0 z1
  have HSEAL := seal_parts h HF.out D HDN.out
  have hS0 : HdrAt h w.heap.size w2.drew := ⟨c0, c1, c2, c3, c4, c5, c6⟩
  have HV2d : Hid (PartsL w2.drew (va) (G.map fun g => g.o.head)) := Lib.hid (HV2.out.step ((Below.refl _ w2).drew))
  have HS2d := Lib.hid (HS2.out.step ((Below.refl _ w2).drew))
  have HD2d := Lib.hid (HD2.out.step ((Below.refl _ w2).drew))
  go_region_held3 (fun x => x.cell? ⟨w.heap.size, 0, none⟩ = some (.int .u8 (h.ki : Int)) ∧ x.cell? ⟨w.heap.size, 1, none⟩ = some (.int .u32 (h.ep : Int)) ∧ x.cell? ⟨w.heap.size, 2, none⟩ = some (.int .u32 (h.ba : Int)) ∧ x.cell? ⟨w.heap.size, 3, none⟩ = some (.int .u16 (h.ix : Int)) ∧ x.cell? ⟨w.heap.size, 4, none⟩ = some (.int .u16 (h.ct : Int)) ∧ x.cell? ⟨w.heap.size, 5, none⟩ = some (.int .u32 (h.bl : Int)) ∧ x.cell? ⟨w.heap.size, 6, none⟩ = some (.int .u32 (h.mo : Int)))
    (first | exact hS4 | exact hS3 | exact hS0 | go_keep)
    (first
      | (go_simp; go_at_call 93; ((with_reducible refine (xorL_any va vc (G.map fun g => g.o.head) n _ HLH.out.symm HV2d.out (by omega) (fun p hp => Nat.le_trans (HH1.out p hp) (by omega))).mono ?_)); (intro e w3 hr; obtain ⟨X, rfl, hXl, hXn, hXk, hb⟩ := part_ret hr; rw [hs_map] at hXl; have HXL := Lib.hid hXl; have HXN : Hid (X.n ≤ 1000) := Lib.hid (by rw [hXn, xorL_len]; exact lgL_parts (hsOk (HP1.out)) HH1.out); have HX3 := Lib.hid hXk; have HS3 := Lib.hid (HS2d.out.step hb); have HD3 := Lib.hid (HD2d.out.step hb); clear hr hXl hXn hXk hb; have hS3 := HS3.out.1))
      | (go_simp; go_at_call 70; ((with_reducible refine (HSEAL.out _ X HD3.out HX3.out HXN.out).mono ?_)); (intro e w4 hr; obtain ⟨O, rfl, hOl, hOn, hOk, hb, hfar⟩ := part_ret' hr; have HOF : Hid (Far (w.heap.size + 2) O) := Lib.hid (fun x hx => Nat.le_trans (Nat.le_trans (by have := World.block_lt_of_cell? w3 _ (page_at HS3.out.2.1).1.1; simp at this; omega) (Nat.le_refl w3.heap.size)) (hfar x hx)); rw [HDL.out, HXL.out] at hOl; have HOL := Lib.hid hOl; have HON : Hid (O.n = 64) := Lib.hid (by rw [hOn]; exact sealB_len _ _ _); have HO4 := Lib.hid hOk; have HS4 := Lib.hid (HS3.out.step hb); have HD4 := Lib.hid (HD3.out.step hb); clear hr hOl hOn hOk hb hfar; obtain ⟨⟨p0, p1⟩, z0, z1⟩ := page_at HS4.out.2.1; have hS4 := HS4.out.1)))
  all_goals
    go_wp2
    refine bodyPost_ret (v := .agg #[.slice D.a D.n D.c, .slice O.a O.n O.c]) ?_ rfl ⟨D, O, rfl, HDL.out, HOL.out, ?_, ?_, HDN.out, HON.out, (fun x hx => Nat.le_trans (by omega) (HDF.out x hx)), (fun x hx => Nat.le_trans (by omega) (HOF.out x hx)), ?_⟩
    · simp [results, Tryz.results72, go_sem, p0, p1]
    · exact (HD4.out.set HDF.out (by omega)).set HDF.out (by omega)
    · exact (HO4.out.set HOF.out (by omega)).set HOF.out (by omega)
    · exact (HS4.out.2.2.setCell (p := ⟨w.heap.size + 1, 0, none⟩) (by simp) _).setCell (p := ⟨w.heap.size + 1, 1, none⟩) (by simp) _

end Go.Proofs.YthgcjiocelcblaaGreat

namespace Go.Proofs.YthgcjiocelcblaaGreat
open Go.RowKit

theorem xorL_swap (x : List Nat) (L : List (List Nat)) : xorL (x :: L) = xorL (L ++ [x]) := by
  apply list_ext_getD
  · rw [xorL_len, xorL_len, lgL_append, lgL, lgL, lgL]; omega
  · intro j
    rw [xorL_getD, xorL_getD, xatL_append, xatL, xatL, xatL, Nat.xor_zero, Nat.xor_comm]
theorem msR_new (g : PG) (a : Option Addr) (G : List PG) (w : World) (hg : PageOk w g) (hp : PagesL w a G) :
    MS g 137 a G w ((w.alloc (.cells #[.slice g.d.a g.d.n g.d.c, .slice g.o.a g.o.n g.o.c] 137)).alloc (.cells #[.slice none 0 0, .slice none 0 0] 137)) := by
  have h1 := heap_alloc_new w (.cells #[.slice g.d.a g.d.n g.d.c, .slice g.o.a g.o.n g.o.c] 137)
  have h2 := heap_alloc_new (w.alloc (.cells #[.slice g.d.a g.d.n g.d.c, .slice g.o.a g.o.n g.o.c] 137)) (.cells #[.slice none 0 0, .slice none 0 0] 137)
  rw [World.size_alloc] at h2
  have hb : Below w.heap.size w ((w.alloc (.cells #[.slice g.d.a g.d.n g.d.c, .slice g.o.a g.o.n g.o.c] 137)).alloc (.cells #[.slice none 0 0, .slice none 0 0] 137)) := bel_alloc (bel_alloc (Below.refl _ w) _) _
  exact ⟨blk_step h1 (bel_alloc (Below.refl _ _) _), h2, hg.keep hb (Nat.le_refl _), hp.keep hb (Nat.le_refl _), hb⟩
/-- What the document's open says of parts. -/
theorem refOpen_parts (x : World) (D O : PS) (hd : PartOk x D) (ho : PartOk x O) (hn : D.n ≤ 1000) : ∃ (H : RH) (b : Bool), H = openH D.l O.l ∧ b = decide (OpenOk D.l O.l) ∧
    Calls Tryz.prog 44 #[.slice D.a D.n D.c, .slice O.a O.n O.c] x fun e w' => e = .returned (.tuple #[.agg #[.int .i64 (H.ki : Int), .int .i64 (H.ep : Int), .int .i64 (H.ba : Int), .int .i64 (H.ix : Int), .int .i64 (H.ct : Int), .int .i64 (H.bl : Int), .int .i64 (H.mo : Int)], .bool b]) ∧ Below x.heap.size x w' :=
  ⟨_, _, rfl, rfl, refOpen_any D.a D.n D.c D.l O.a O.n O.c O.l x hd.1 hn hd.2.2.2 ho.1 ho.2.1 ho.2.2.1⟩
def RMissRet (g : PG) (G : List PG) (w : World) (e : Ending) (w' : World) : Prop :=
  (MissOk g G ∧ ∃ D O : PS, e = .returned (.tuple #[.agg #[.slice D.a D.n D.c, .slice O.a O.n O.c], .bool true]) ∧ D.l = outD g G ∧ O.l = outO g G ∧ PartOk w' D ∧ PartOk w' O ∧ Below w.heap.size w w') ∨
  (¬ MissOk g G ∧ e = .returned (.tuple #[.agg #[.slice none 0 0, .slice none 0 0], .bool false]) ∧ Below w.heap.size w w')

end Go.Proofs.YthgcjiocelcblaaGreat
