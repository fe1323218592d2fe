/- gabionref09.head. -/
import Derived.Test.YtmggjknljbpbgaaCaseS
import Derived.Deep.RegionHeld3
import Derived.Deep.DeepMust
namespace Go.Proofs.Ytmggjknljbpbgaa
open Go.RowKit

set_option maxRecDepth 100000 in
set_option maxHeartbeats 1600000 in
theorem refHead_any (da : Option Addr) (dn dc : Nat) (oa : Option Addr) (on oc : Nat) (hle : on ≤ oc) (hm : oc ≤ 2 ^ 63 - 1) (_ : oa = none → oc = 0) (w : World) :
    Calls Try.prog 53 #[.agg #[.slice da dn dc, .slice oa on oc]] w fun e w' => e = .returned (.slice oa (min on 32) oc) ∧ Below w.heap.size w w' := by
  by_cases h : 32 < on
  · have t1 : decide ((32 : Int) < (on : Int)) = true := by simp; omega
    have hmn : min on 32 = 32 := by omega
    have h32 : 32 ≤ oc := by omega
    have h33 : (32 : Int) ≤ (oc : Int) := by omega
    rw [hmn]
    clear hmn h
    go_enter Try.func53, Try.ntmps53
    go_wp2
    go_ret
    exact ⟨rfl, bel_alloc (Below.refl _ w) _⟩
  · have t1 : decide ((32 : Int) < (on : Int)) = false := by simp; omega
    have hmn : min on 32 = on := by omega
    rw [hmn]
    clear hmn h
    go_enter Try.func53, Try.ntmps53
    go_wp2
    go_ret
    exact ⟨rfl, bel_alloc (Below.refl _ w) _⟩
theorem refHead_page (g : PG) (w : World) (h : PageOk w g) : Hid (∀ x, Calls Try.prog 53 #[.agg #[.slice g.d.a g.d.n g.d.c, .slice g.o.a g.o.n g.o.c]] x fun e w' => e = .returned (.slice g.o.head.a g.o.head.n g.o.head.c) ∧ Below x.heap.size x w') :=
  Lib.hid fun x => refHead_any g.d.a g.d.n g.d.c g.o.a g.o.n g.o.c h.2.2.1 (by have := h.2.2.2.1; unfold maxLen at this; exact this) h.2.2.2.2 x

end Go.Proofs.Ytmggjknljbpbgaa

namespace Go.Proofs.Ytmggjknljbpbgaa
open Go.RowKit

/-- The law's header's box. -/
def WidC (h : RH) (p : Nat) (x : World) : Prop := x.cell? ⟨p, 0, none⟩ = some (.int .i64 (h.ki : Int)) ∧ x.cell? ⟨p, 1, none⟩ = some (.int .i64 (h.ep : Int)) ∧ x.cell? ⟨p, 2, none⟩ = some (.int .i64 (h.ba : Int)) ∧ x.cell? ⟨p, 3, none⟩ = some (.int .i64 (h.ix : Int)) ∧ x.cell? ⟨p, 4, none⟩ = some (.int .i64 (h.ct : Int)) ∧ x.cell? ⟨p, 5, none⟩ = some (.int .i64 (h.bl : Int)) ∧ x.cell? ⟨p, 6, none⟩ = some (.int .i64 (h.mo : Int))
/-- Both boxes. -/
def RfS (h : RH) (T : TypeId) (w : World) (x : World) : Prop := WidC h w.heap.size x ∧ x.heap[w.heap.size + 1]? = some (.cells #[.slice none 0 0, .slice none 0 0] T (0, 0)) ∧ Below w.heap.size w x
theorem WidC.step {h : RH} {p : Nat} {x y : World} (hs : WidC h p x) (hb : Below x.heap.size x y) : WidC h p y := by
  obtain ⟨h0, h1, h2, h3, h4, h5, h6⟩ := hs
  exact ⟨cell_st h0 hb, cell_st h1 hb, cell_st h2 hb, cell_st h3 hb, cell_st h4 hb, cell_st h5 hb, cell_st h6 hb⟩
theorem widC_at {h : RH} {x : World} {p : Nat} {T : TypeId} (hh : x.heap[p]? = some (.cells #[.int .i64 (h.ki : Int), .int .i64 (h.ep : Int), .int .i64 (h.ba : Int), .int .i64 (h.ix : Int), .int .i64 (h.ct : Int), .int .i64 (h.bl : Int), .int .i64 (h.mo : Int)] T (0, 0))) : WidC h p x := by
  unfold WidC
  simp [World.cell?, hh]
theorem RfS.step {h : RH} {T : TypeId} {w x y : World} (hs : RfS h T w x) (hb : Below x.heap.size x y) : RfS h T w y := ⟨hs.1.step hb, blk_step hs.2.1 hb, bel_trans hs.2.2 hb⟩
theorem rfS_new (h : RH) (w : World) : RfS h 66 w ((w.alloc (.cells #[.int .i64 (h.ki : Int), .int .i64 (h.ep : Int), .int .i64 (h.ba : Int), .int .i64 (h.ix : Int), .int .i64 (h.ct : Int), .int .i64 (h.bl : Int), .int .i64 (h.mo : Int)] 69)).alloc (.cells #[.slice none 0 0, .slice none 0 0] 66)) := by
  have h1 := heap_alloc_new w (.cells #[.int .i64 (h.ki : Int), .int .i64 (h.ep : Int), .int .i64 (h.ba : Int), .int .i64 (h.ix : Int), .int .i64 (h.ct : Int), .int .i64 (h.bl : Int), .int .i64 (h.mo : Int)] 69)
  have hw := widC_at (h := h) h1
  have h2 := heap_alloc_new (w.alloc (.cells #[.int .i64 (h.ki : Int), .int .i64 (h.ep : Int), .int .i64 (h.ba : Int), .int .i64 (h.ix : Int), .int .i64 (h.ct : Int), .int .i64 (h.bl : Int), .int .i64 (h.mo : Int)] 69)) (.cells #[.slice none 0 0, .slice none 0 0] 66)
  rw [World.size_alloc] at h2
  exact ⟨hw.step (bel_alloc (Below.refl _ _) _), h2, bel_alloc (bel_alloc (Below.refl _ w) _) _⟩
/-- What the two lists are while they grow. -/
structure TwoL (B : Nat) (u v : Value) (LU LV : List PS) (x : World) : Prop where
  own1 : OwnL B x u LU
  own2 : OwnL B x v LV
  ns : NoSh u v
theorem TwoL.step {B : Nat} {u v : Value} {LU LV : List PS} {x y : World} (h : TwoL B u v LU LV x) (hb : Below x.heap.size x y) : TwoL B u v LU LV y := ⟨h.own1.kept (row := none) ⟨hb.os, hb.tape, hb.output, hb.size, fun b hb' _ => hb.block b hb'⟩ (by cases hv : u.ownBlock <;> simp), h.own2.kept (row := none) ⟨hb.os, hb.tape, hb.output, hb.size, fun b hb' _ => hb.block b hb'⟩ (by cases hv : v.ownBlock <;> simp), h.ns⟩
theorem TwoL.push1 {B : Nat} {u v u' : Value} {LU LV M : List PS} {x y : World} (h : TwoL B u v LU LV x) (hap : ApdL B x u M u' y) : TwoL B u' v M LV y :=
  ⟨hap.own, h.own2.kept hap.grown h.ns.ne, h.ns.step hap.where_ fun q hq => (h.own2.lt' q hq).2⟩
theorem TwoL.push2 {B : Nat} {u v v' : Value} {LU LV M : List PS} {x y : World} (h : TwoL B u v LU LV x) (hap : ApdL B x v M v' y) : TwoL B u v' LU M y :=
  ⟨h.own1.kept hap.grown h.ns.symm.ne, hap.own, (h.ns.symm.step hap.where_ fun q hq => (h.own1.lt' q hq).2).symm⟩

set_option maxRecDepth 100000 in
set_option maxHeartbeats 6400000 in
theorem refOf_pages (h : RH) (hf : h.Fits) (a : Option Addr) (n c : Nat) (G : List PG) (w : World) (hn : n = G.length) (hp : PagesL w a G) (hm : n ≤ 1000) (hl : ∀ g ∈ G, g.d.n ≤ 1000 ∧ g.o.n ≤ 1000) :
    Calls Try.prog 40 #[.agg h.wide, .slice a n c] w (OfRet h G w) := by
  have HP := Lib.hid hp
  have HN := Lib.hid hn
  have HL := Lib.hid hl
  have HS0 := Lib.hid (rfS_new h w)
  have HF := Lib.hid hf
  have HD1 : Hid (∀ p ∈ G.map PG.d, p.n ≤ 1000) := Lib.hid fun p hp => by
    rw [List.mem_map] at hp
    obtain ⟨g, hg, rfl⟩ := hp
    exact (hl g hg).1
  have HH1 : Hid (∀ p ∈ G.map (fun g => g.o.head), p.n ≤ 1000) := Lib.hid fun p hp => by
    rw [List.mem_map] at hp
    obtain ⟨g, hg, rfl⟩ := hp
    exact head_le (hl g hg).2
  have HLD : Hid ((G.map PG.d).length = n) := Lib.hid (by rw [List.length_map, hn])
  have HLH : Hid ((G.map fun g => g.o.head).length = n) := Lib.hid (by rw [List.length_map, hn])
  clear hp hn hl hf
  unfold RH.wide
  go_enter Try.func40, Try.ntmps40
  go_upto_region 1 with fail
  obtain ⟨w0, hw0⟩ : ∃ x, x = (w.alloc (.cells #[.int .i64 (h.ki : Int), .int .i64 (h.ep : Int), .int .i64 (h.ba : Int), .int .i64 (h.ix : Int), .int .i64 (h.ct : Int), .int .i64 (h.bl : Int), .int .i64 (h.mo : Int)] 69)).alloc (.cells #[.slice none 0 0, .slice none 0 0] 66) := ⟨_, rfl⟩
  rw [← hw0] at HS0 ⊢
  clear hw0
  have HP0 := Lib.hid (HP.out.keep HS0.out.2.2 (Nat.le_refl _))
  have HT0 : Hid (TwoL w0.heap.size (.slice none 0 0) (.slice none 0 0) [] [] w0) := Lib.hid ⟨ownL_nil _ _, ownL_nil _ _, fun q hq => by simp [Value.ownBlock] at hq⟩
  have HB00 := Lib.hid (Below.refl w0.heap.size w0)
  go_wp2
  go_loopw [5, 6, 7] (fun u v i wr => ∃ k : Nat, k ≤ n ∧ i = .int .i64 (k : Int) ∧ TwoL w0.heap.size u v ((G.take k).map PG.d) ((G.take k).map fun g => g.o.head) wr ∧ Below w0.heap.size w0 wr) (fun _ _ i _ => n - (intOf i).toNat)
  case atStart => exact ⟨0, Nat.zero_le _, rfl, HT0.out, HB00.out⟩
  case round =>
    obtain ⟨k, hk, rfl, htl, hbe⟩ := hrel
    have HT := Lib.hid htl
    have HB := Lib.hid hbe
    clear htl hbe
    by_cases hlt : k < n
    · have t1 : decide (k < n) = true := by simpa using hlt
      have hpw := HP0.out.keep HB.out (Nat.le_refl _)
      have hkL : k < G.length := by have := HN.out; omega
      obtain ⟨b, off, rfl, x0, x1⟩ := hpw.cell hkL
      have hok := hpw.at hkL
      have hT1 := map_take_succ PG.d G k PG.nil hkL
      have hT2 := map_take_succ (fun g : PG => g.o.head) G k PG.nil hkL
      have hlen1 : ((G.take k).map PG.d).length ≤ 100000 := by rw [List.length_map, List.length_take]; omega
      have hlen2 : ((G.take k).map fun g : PG => g.o.head).length ≤ 100000 := by rw [List.length_map, List.length_take]; omega
      obtain ⟨g, hg⟩ : ∃ g, g = G.getD k PG.nil := ⟨_, rfl⟩
      rw [← hg] at x0 x1 hok hT1 hT2
      obtain ⟨R1, hR1⟩ : ∃ R, R = (G.take k).map PG.d := ⟨_, rfl⟩
      obtain ⟨R2, hR2⟩ : ∃ R, R = (G.take k).map fun g : PG => g.o.head := ⟨_, rfl⟩
      rw [← hR1] at HT hT1 hlen1
      rw [← hR2] at HT hT2 hlen2
      have HT1 := Lib.hid hT1
      have HT2 := Lib.hid hT2
      have HHD := refHead_page g wr hok
      unfold PS.v at x0 x1
      have hi0 : (0 : Int) ≤ (k : Int) := by omega
      have hi1 : (k : Int) < (n : Int) := by omega
      have hCE : ∀ x, Below w0.heap.size w0 x → x.cell? ⟨b, off + k * 2, none⟩ = some (.slice g.d.a g.d.n g.d.c) ∧ x.cell? ⟨b, off + k * 2 + 1, none⟩ = some (.slice g.o.a g.o.n g.o.c) := fun x hx => by
        obtain ⟨b', off', e, y0, y1⟩ := (HP0.out.keep hx (Nat.le_refl _)).cell hkL
        cases e
        rw [← hg] at y0 y1
        exact ⟨y0, y1⟩
      have HCE := Lib.hid hCE
      clear hg hR1 hR2 hT1 hT2 hpw hok hkL hCE
      go_wp2_with (first
        | (at_builtin; refine wpList_appL rfl _ _ rfl w0.heap.size u5 R1 rfl (HT.out.step (bel_alloc (Below.refl _ wr) _)).own1 _ 1 1 [g.d] rfl rfl (cells_one wr g.d) (fun h => by cases h) (Nat.le_trans HB.out.size (by simp)) (by omega) ?_; intro u' w3 hap; rw [HT1.out] at hap; have HT3 := Lib.hid ((HT.out.step (bel_alloc (Below.refl _ wr) _)).push1 hap); have HB3 := Lib.hid ((bel_alloc HB.out _).trans hap.below); clear hap x0 x1; obtain ⟨x0, x1⟩ := HCE.out _ HB3.out)
        | (go_at_call 53; go_must ((with_reducible refine (HHD.out _).mono ?_); rintro e w4 ⟨rfl, hb⟩; have HT4 := Lib.hid (HT3.out.step hb); have HB4 := Lib.hid (bel_trans HB3.out hb); clear hb x0 x1))
        | (at_builtin; go_must (refine wpList_appL rfl _ _ rfl w0.heap.size u6 R2 rfl (HT4.out.step (bel_alloc (Below.refl _ w4) _)).own2 _ 1 1 [g.o.head] rfl rfl (cells_one w4 g.o.head) (fun h => by cases h) (Nat.le_trans HB4.out.size (by simp)) (by omega) ?_; intro v' w5 hap; rw [HT2.out] at hap; have HT5 := Lib.hid ((HT4.out.step (bel_alloc (Below.refl _ w4) _)).push2 hap); have HB5 := Lib.hid ((bel_alloc HB4.out _).trans hap.below); clear hap)))
      go_roundw
      case rel => exact ⟨k + 1, by omega, by go_num, HT5.out, HB5.out⟩
      case measure => simp [intOf]; omega
    · obtain rfl : k = n := by omega
      have t1 : decide (k < k) = false := by simp
      rw [List.take_of_length_le (by have := HN.out; omega)] at HT
      have HPr := Lib.hid (HP0.out.keep HB.out (Nat.le_refl _))
      have HSr := Lib.hid (HS0.out.step HB.out)
      obtain ⟨ua, uc, rfl, hcu, _, _, _⟩ := cellsL_own HT.out.own1
      obtain ⟨va, vc, rfl, hcv, _, _, _⟩ := cellsL_own HT.out.own2
      have HU1 := Lib.hid (partsL_of hcu (dsOk HPr.out))
      have HV1 := Lib.hid (partsL_of hcv (hsOk HPr.out))
      rw [HLD.out, HLH.out]
      clear hcu hcv HT
      go_wp2_with fail
      ((with_reducible refine (refXorL_any ua uc (G.map PG.d) k _ HLD.out.symm HU1.out (by omega) (fun p hp => Nat.le_trans (HD1.out p hp) (by omega))).mono ?_))
      intro e w2 hr
      obtain ⟨D, rfl, hDl, hDn, hDk, hb, hfar⟩ := part_ret' hr
      have HDF : Hid (Far (w.heap.size + 2) D) := Lib.hid fun x hx => Nat.le_trans (Nat.le_trans (by have := World.block_lt_of_cell? wr _ (page_at HSr.out.2.1).1.1; simp at this; omega) (Nat.le_refl wr.heap.size)) (hfar x hx)
      rw [ds_map] at hDl
      have HDL := Lib.hid hDl
      have HDN : Hid (D.n ≤ 1000) := Lib.hid (by rw [hDn, xorL_len]; exact lgL_parts (dsOk HPr.out) HD1.out)
      have HD2 := Lib.hid hDk
      have HS2 := Lib.hid (HSr.out.step hb)
      have HV2 := Lib.hid (HV1.out.step hb)
      clear hr hDl hDn hDk hb hfar t1
      obtain ⟨⟨c0, c1, c2, c3, c4, c5, c6⟩, _, _⟩ := HS2.out
      go_upto_region 8 with fail
      have HSEAL : Hid (∀ (x : World) (X : PS), PartOk x D → PartOk x X → X.n ≤ 1000 → Calls Try.prog 45 #[.agg #[.int .i64 (h.ki : Int), .int .i64 (h.ep : Int), .int .i64 (h.ba : Int), .int .i64 (h.ix : Int), .int .i64 (h.ct : Int), .int .i64 (h.bl : Int), .int .i64 (h.mo : Int)], .slice D.a D.n D.c, .slice X.a X.n X.c] x (RetOwn x (sealB h D.l X.l))) :=
        Lib.hid fun x X hd hx hn => refSeal_any h HF.out D.a D.n D.c D.l X.a X.n X.c X.l x hd.1 HDN.out hd.2.2.2 hx.1 hx.2.1 hx.2.2.1 hx.2.2.2 hn
      have hS0 : WidC h w.heap.size w2.drew := ⟨c0, c1, c2, c3, c4, c5, c6⟩
      have HV2d : Hid (PartsL w2.drew (va) (G.map fun g => g.o.head)) := Lib.hid (HV2.out.step ((Below.refl _ w2).drew))
      have HS2d := Lib.hid (HS2.out.step ((Below.refl _ w2).drew))
      have HD2d := Lib.hid (HD2.out.step ((Below.refl _ w2).drew))
      have hk1 : k ≤ 100000 := by omega
      have HH2 : Hid (∀ p ∈ G.map (fun g => g.o.head), p.n ≤ 100000) := Lib.hid fun p hp => Nat.le_trans (HH1.out p hp) (by omega)
      go_region_held3 (fun x => x.cell? ⟨w.heap.size, 0, none⟩ = some (.int .i64 (h.ki : Int)) ∧ x.cell? ⟨w.heap.size, 1, none⟩ = some (.int .i64 (h.ep : Int)) ∧ x.cell? ⟨w.heap.size, 2, none⟩ = some (.int .i64 (h.ba : Int)) ∧ x.cell? ⟨w.heap.size, 3, none⟩ = some (.int .i64 (h.ix : Int)) ∧ x.cell? ⟨w.heap.size, 4, none⟩ = some (.int .i64 (h.ct : Int)) ∧ x.cell? ⟨w.heap.size, 5, none⟩ = some (.int .i64 (h.bl : Int)) ∧ x.cell? ⟨w.heap.size, 6, none⟩ = some (.int .i64 (h.mo : Int)))
        (first | exact hS4 | exact hS3 | exact hS0 | go_keep)
        (first
          | (go_simp; go_at_call 36; ((with_reducible refine (refXorL_any va vc (G.map fun g => g.o.head) k _ HLH.out.symm HV2d.out hk1 HH2.out).mono ?_)); (intro e w3 hr; obtain ⟨X, rfl, hXl, hXn, hXk, hb⟩ := part_ret hr; rw [hs_map] at hXl; have HXL := Lib.hid hXl; have HXN : Hid (X.n ≤ 1000) := Lib.hid (by rw [hXn, xorL_len]; exact lgL_parts (hsOk (HPr.out)) HH1.out); have HX3 := Lib.hid hXk; have HS3 := Lib.hid (HS2d.out.step hb); have HD3 := Lib.hid (HD2d.out.step hb); clear hr hXl hXn hXk hb; have hS3 := HS3.out.1))
          | (go_simp; go_at_call 45; ((with_reducible refine (HSEAL.out _ X HD3.out HX3.out HXN.out).mono ?_)); (intro e w4 hr; obtain ⟨O, rfl, hOl, hOn, hOk, hb, hfar⟩ := part_ret' hr; have HOF : Hid (Far (w.heap.size + 2) O) := Lib.hid (fun x hx => Nat.le_trans (Nat.le_trans (by have := World.block_lt_of_cell? w3 _ (page_at HS3.out.2.1).1.1; simp at this; omega) (Nat.le_refl w3.heap.size)) (hfar x hx)); rw [HDL.out, HXL.out] at hOl; have HOL := Lib.hid hOl; have HON : Hid (O.n = 64) := Lib.hid (by rw [hOn]; exact sealB_len _ _ _); have HO4 := Lib.hid hOk; have HS4 := Lib.hid (HS3.out.step hb); have HD4 := Lib.hid (HD3.out.step hb); clear hr hOl hOn hOk hb hfar; obtain ⟨⟨p0, p1⟩, z0, z1⟩ := page_at HS4.out.2.1; have hS4 := HS4.out.1)))
      all_goals
        go_wp2
        refine bodyPost_ret (v := .agg #[.slice D.a D.n D.c, .slice O.a O.n O.c]) ?_ rfl ⟨D, O, rfl, HDL.out, HOL.out, ?_, ?_, HDN.out, HON.out, ?_⟩
        · simp [results, Try.results40, go_sem, p0, p1]
        · exact (HD4.out.set HDF.out (by omega)).set HDF.out (by omega)
        · exact (HO4.out.set HOF.out (by omega)).set HOF.out (by omega)
        · exact (HS4.out.2.2.setCell (p := ⟨w.heap.size + 1, 0, none⟩) (by simp) _).setCell (p := ⟨w.heap.size + 1, 1, none⟩) (by simp) _

end Go.Proofs.Ytmggjknljbpbgaa
