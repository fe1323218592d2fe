/- ParityBack: the walk. -/
import Derived.Test.YtmggjknljbpbgaaCasePages
import Derived.Test.YtmggjknljbpbgaaSummed
namespace Go.Proofs.Ytmggjknljbpbgaa
open Go.RowKit

theorem CaseIn.keep {W W' : World} {c : CA} {H : List RH} {L : List PS} {B : Nat} (h : CaseIn W c H L) (hb : Below B W W') (hB : W.heap.size ≤ B) : CaseIn W' c H L :=
  ⟨h.heads.keep hb hB, h.hlen, h.hmax, h.hfit, h.data.keep hb hB, h.dlen, h.dmax, h.szlo, h.szhi, h.whlo, h.whhi, h.wfit⟩
theorem case_all {W : World} {b : Nat} {v0 v1 v2 v3 v4 v5 v6 v7 v8 v9 v10 : Value} {t : TypeId} (h : W.heap[b]? = some (.cells #[v0, v1, v2, v3, v4, v5, v6, v7, v8, v9, v10] t (0, 0))) :
    W.cell? ⟨b, 0, none⟩ = some v0 ∧ W.cell? ⟨b, 1, none⟩ = some v1 ∧ W.cell? ⟨b, 2, none⟩ = some v2 ∧ W.cell? ⟨b, 3, none⟩ = some v3 ∧ W.cell? ⟨b, 4, none⟩ = some v4 ∧ W.cell? ⟨b, 5, none⟩ = some v5 ∧ W.cell? ⟨b, 6, none⟩ = some v6 ∧ W.cell? ⟨b, 7, none⟩ = some v7 ∧ W.cell? ⟨b, 8, none⟩ = some v8 ∧ W.cell? ⟨b, 9, none⟩ = some v9 ∧ W.cell? ⟨b, 10, none⟩ = some v10 ∧ W.frozen? ⟨b, 4, none⟩ = false := by
  simp [World.cell?, World.frozen?, h]
theorem set_grown (x : World) (C o : Nat) (v : Value) : x.grownBy (x.setCell ⟨C, o, none⟩ v) (some C) :=
  ⟨rfl, rfl, rfl, by simp, fun k _ hk => by
    have hne : C ≠ k := fun e => hk (by rw [e])
    unfold World.setCell
    simp only
    rw [Array.getElem?_modify, if_neg hne]⟩
theorem CaseS.set {B C o : Nat} {u v y : Value} {GU GV GA : List PG} {x : World} (h : CaseS B u v GU GV GA x) (hC : C < B) : CaseS B u v GU GV GA (x.setCell ⟨C, o, none⟩ y) := by
  have hg := set_grown x C o y
  refine ⟨h.own1.kept hg ?_, h.own2.kept hg ?_, h.ns, fun g hm => (h.pages g hm).grown hg fun a ha e => ?_, fun g hm a ha => ?_⟩
  · exact .inr fun e => by have := (h.own1.lt' _ e).1; omega
  · exact .inr fun e => by have := (h.own2.lt' _ e).1; omega
  · have := (h.apart g hm a ha).1
    simp only [Option.some.injEq] at e
    omega
  · obtain ⟨h1, h2, h3⟩ := h.apart g hm a ha
    exact ⟨h1, Nat.lt_of_lt_of_le h2 hg.size, h3⟩
/-- All but number k, from the last down to number j. -/
def restFrom (G : List PG) (k j : Nat) : List PG := ((G.take k).drop j ++ G.drop (max (k + 1) j)).reverse
theorem restFrom_top (G : List PG) (k : Nat) : restFrom G k G.length = [] := by
  unfold restFrom
  rw [List.drop_eq_nil_of_le (by simp; omega), List.drop_eq_nil_of_le (by omega)]; rfl
theorem restFrom_zero (G : List PG) (k : Nat) : restFrom G k 0 = restOf G k := by
  unfold restFrom restOf
  simp
theorem dtk (G : List PG) (k j : Nat) (h : k ≤ j) : (G.take k).drop j = [] := List.drop_eq_nil_of_le (by rw [List.length_take]; omega)
theorem restFrom_same (G : List PG) (k : Nat) : restFrom G k k = restFrom G k (k + 1) := by
  unfold restFrom
  rw [dtk G k k (Nat.le_refl _), dtk G k (k + 1) (by omega), Nat.max_eq_left (Nat.le_succ k), Nat.max_eq_left (Nat.le_refl _)]
theorem getD_eq (G : List PG) (j : Nat) (hj : j < G.length) : G.getD j PG.nil = G[j] := by simp [List.getD, hj]
theorem restFrom_step (G : List PG) (k j : Nat) (hj : j < G.length) (hne : j ≠ k) : restFrom G k (j + 1) ++ [G.getD j PG.nil] = restFrom G k j := by
  unfold restFrom
  rw [getD_eq G j hj]
  by_cases h : j < k
  · have e1 : max (k + 1) (j + 1) = k + 1 := by omega
    have e2 : max (k + 1) j = k + 1 := by omega
    rw [e1, e2, List.drop_eq_getElem_cons (l := G.take k) (i := j) (by simp; omega)]
    simp
  · have e1 : max (k + 1) (j + 1) = j + 1 := by omega
    have e2 : max (k + 1) j = j := by omega
    rw [dtk G k j (by omega), dtk G k (j + 1) (by omega), e1, e2, List.nil_append, List.nil_append, List.drop_eq_getElem_cons hj, List.reverse_cons]
theorem restFrom_len (G : List PG) (k j : Nat) : (restFrom G k j).length ≤ G.length + G.length := by
  unfold restFrom; simp; omega
theorem which_of (x : Int) (n : Nat) (h0 : 0 < n) (h1 : n ≤ 12) : ∃ m : Nat, m < n ∧ wrap64 ((IntKind.u64.wrap x).tmod (n : Int)) = (m : Int) := by
  rw [IntKind.wrap_u64]
  have h0 : 0 ≤ x % 18446744073709551616 := Int.emod_nonneg _ (by omega)
  rw [Int.tmod_eq_emod_of_nonneg h0]
  have h2 := Int.emod_nonneg (x % 18446744073709551616) (b := (n : Int)) (by omega)
  have h3 := Int.emod_lt_of_pos (x % 18446744073709551616) (b := (n : Int)) (by omega)
  refine ⟨(x % 18446744073709551616 % (n : Int)).toNat, by omega, ?_⟩
  unfold wrap64
  omega
theorem pagesL_of {W : World} {a : Option Addr} {G : List PG} (hc : CellsG W a G) (h : ∀ g ∈ G, PageOk W g) : PagesL W a G := ⟨hc, h⟩
theorem row_drewN {W : World} {a : Option Addr} {n : Nat} {l : List Nat} (h : Row W a n l) (m : Nat) : Row (W.drewN m) a n l := by
  refine ⟨h.1, h.2.1, fun h0 => ?_⟩
  obtain ⟨b, off, e, hc⟩ := h.2.2 h0
  refine ⟨b, off, e, fun i hi => ?_⟩
  rw [← hc i hi]
  exact World.cell?_drewN _ _ _
theorem part_len {W : World} {p : PS} (h : PartOk W p) : p.n = p.l.length := h.1.1.symm

set_option maxRecDepth 100000 in
set_option maxHeartbeats 6400000 in
theorem parityBack_in (c : CA) (H : List RH) (L : List PS) (w : World) (hin : CaseIn w c H L) :
    Calls Try.prog 12 #[.agg c.cells] w fun e w' => e = .returned (.bool true) ∧ Below w.heap.size w w' := by
  have HS := Lib.hid summed_any
  have HI0 := Lib.hid hin
  have HPA : Hid (∀ x, CaseIn x c H L → Calls Try.prog 38 #[.agg c.cells] x (CaseRet x)) := Lib.hid fun x hx => pages_any c H L x hx
  obtain ⟨ha, hn, hc, da, dn, dc, size, which, wh⟩ := c
  have HWF : Hid (wh.Fits) := Lib.hid hin.wfit
  clear hin
  unfold CA.cells at HPA ⊢
  simp only at HPA ⊢
  go_enter Try.func12, Try.ntmps12
  go_upto_region 1 with fail
  have hpb := heap_alloc_new w (.cells #[.slice ha hn hc, .slice da dn dc, .int .i64 size, .int .i64 which, .int .u8 (wh.ki : Int), .int .u32 (wh.ep : Int), .int .u32 (wh.ba : Int), .int .u16 (wh.ix : Int), .int .u16 (wh.ct : Int), .int .u32 (wh.bl : Int), .int .u32 (wh.mo : Int)] 58)
  have hba := bel_alloc (Below.refl _ w) (.cells #[.slice ha hn hc, .slice da dn dc, .int .i64 size, .int .i64 which, .int .u8 (wh.ki : Int), .int .u32 (wh.ep : Int), .int .u32 (wh.ba : Int), .int .u16 (wh.ix : Int), .int .u16 (wh.ct : Int), .int .u32 (wh.bl : Int), .int .u32 (wh.mo : Int)] 58)
  obtain ⟨w0, hw0⟩ : ∃ x, x = w.alloc (.cells #[.slice ha hn hc, .slice da dn dc, .int .i64 size, .int .i64 which, .int .u8 (wh.ki : Int), .int .u32 (wh.ep : Int), .int .u32 (wh.ba : Int), .int .u16 (wh.ix : Int), .int .u16 (wh.ct : Int), .int .u32 (wh.bl : Int), .int .u32 (wh.mo : Int)] 58) := ⟨_, rfl⟩
  have HSZ : Hid (w0.heap.size = w.heap.size + 1) := Lib.hid (by rw [hw0]; simp)
  rw [← hw0] at hpb hba ⊢
  have HPB := Lib.hid hpb
  have HB0 := Lib.hid hba
  have HI := Lib.hid (HI0.out.keep hba (Nat.le_refl _))
  clear hw0 hpb hba HI0
  obtain ⟨c0, c1, c2, c3, c4, c5, c6, c7, c8, c9, c10, _⟩ := case_all HPB.out
  go_wp2_with fail
  ((with_reducible refine (HPA.out _ HI.out).mono ?_))
  intro e w1 hr
  clear c0 c1 c2 c3 c4 c5 c6 c7 c8 c9 c10 HPA HI
  rcases hr with ⟨u, v, G, sz, rfl, hg0, hg12, hsz, hse, hcs, hb⟩ | ⟨rfl, hb⟩
  case inr =>
    have HB1 := Lib.hid (HB0.out.trans (hb.mono HB0.out.size))
    clear hb
    go_wp2_with fail
    ((with_reducible refine (HS.out _).mono ?_))
    rintro e w2 ⟨rfl, hb⟩
    have HB2 := Lib.hid (bel_trans HB1.out hb)
    clear hb
    go_wp2_with fail
    ((with_reducible refine (HS.out _).mono ?_))
    rintro e w3 ⟨rfl, hb⟩
    have HB3 := Lib.hid (bel_trans HB2.out hb)
    clear hb
    go_wp2
    go_ret
    exact ⟨rfl, HB3.out⟩
  have HB1 : Hid (Below w.heap.size w w1) := Lib.hid (HB0.out.trans (hb.mono HB0.out.size))
  have HP1 := Lib.hid (blk_step HPB.out hb)
  have HSE := Lib.hid hse
  have HCS := Lib.hid hcs
  have HG0 := Lib.hid hg0
  have HG12 := Lib.hid hg12
  have HSZ3 := Lib.hid hsz
  obtain ⟨ua, uc, rfl, _⟩ := cellsG_own hcs.own1
  obtain ⟨va, vc, rfl, _⟩ := cellsG_own hcs.own2
  clear hb hse hcs hg0 hg12 hsz HPB HB0
  go_wp2_with fail
  ((with_reducible refine (HS.out _).mono ?_))
  rintro e w2 ⟨rfl, hb⟩
  have HB2 := Lib.hid (bel_trans HB1.out hb)
  have HP2 := Lib.hid (blk_step HP1.out hb)
  have HCS2 := Lib.hid (HCS.out.step hb)
  have HSZ2 : Hid (w.heap.size < w0.heap.size) := Lib.hid (by have := HSZ.out; omega)
  clear hb HB1 HP1 HCS
  go_upto_region 4 with fail
  obtain ⟨_, _, _, _, c4, _, _, _, _, _, _, z4⟩ := case_all HP2.out
  go_upto_region 5 with fail
  obtain ⟨k', hk'⟩ : ∃ k', k' = wh.withKind 5 := ⟨_, rfl⟩
  have HKF' : Hid k'.Fits := Lib.hid (by rw [hk']; exact withKind_fits HWF.out (by omega))
  have HK5 : Hid (k'.ki = 5) := Lib.hid (by rw [hk']; rfl)
  have hpb : (w2.setCell ⟨w.heap.size, 4, none⟩ (.int .u8 5)).heap[w.heap.size]? = some (.cells #[.slice ha hn hc, .slice da dn dc, .int .i64 size, .int .i64 which, .int .u8 (k'.ki : Int), .int .u32 (k'.ep : Int), .int .u32 (k'.ba : Int), .int .u16 (k'.ix : Int), .int .u16 (k'.ct : Int), .int .u32 (k'.bl : Int), .int .u32 (k'.mo : Int)] 58 (0, 0)) := by rw [hk']; exact set_blk0 _ HP2.out
  have HB3 : Hid (Below w.heap.size w (w2.setCell ⟨w.heap.size, 4, none⟩ (.int .u8 5))) := Lib.hid (HB2.out.setCell (p := ⟨w.heap.size, 4, none⟩) (Nat.le_refl _) _)
  have HCS3 := Lib.hid (HCS2.out.set (C := w.heap.size) (o := 4) (y := .int .u8 5) HSZ2.out)
  obtain ⟨w3, hw3⟩ : ∃ x, x = w2.setCell ⟨w.heap.size, 4, none⟩ (.int .u8 5) := ⟨_, rfl⟩
  rw [← hw3] at hpb HB3 HCS3 ⊢
  have HP3 := Lib.hid hpb
  clear hpb hw3 hk' c4 z4 HB2 HP2 HCS2
  have hlt : w.heap.size < w3.heap.size := (Array.getElem?_eq_some_iff.1 HP3.out).1
  have HLT := Lib.hid hlt
  clear hlt
  obtain ⟨_, _, _, c3, c4, c5, c6, c7, c8, c9, c10, _⟩ := case_all HP3.out
  have hpg : PagesL w3 ua G := pagesL_of (by
    obtain ⟨a', c', e, h, _⟩ := cellsG_own HCS3.out.own1
    simp only [Value.slice.injEq] at e
    rw [e.1]; exact h) HCS3.out.pages
  have HPG := Lib.hid hpg
  have HGL : Hid (∀ q ∈ G, q.d.n ≤ 1000 ∧ q.o.n = 64) := Lib.hid fun q hq => by
    have h1 := part_len (hpg.2 q hq).1
    have h2 := part_len (hpg.2 q hq).2
    have h3 := HSE.out.len q hq
    obtain ⟨h, _, _, e⟩ := HSE.out.sealed q hq
    rw [e, sealB_len] at h2
    have := HSZ3.out
    exact ⟨by omega, h2⟩
  have HGL2 : Hid (∀ q ∈ G, q.d.n ≤ 1000 ∧ q.o.n ≤ 1000) := Lib.hid fun q hq => by
    obtain ⟨h1, h2⟩ := HGL.out q hq
    exact ⟨h1, by omega⟩
  have HOP : Hid (Calls Try.prog 39 #[.agg #[.int .u8 (k'.ki : Int), .int .u32 (k'.ep : Int), .int .u32 (k'.ba : Int), .int .u16 (k'.ix : Int), .int .u16 (k'.ct : Int), .int .u32 (k'.bl : Int), .int .u32 (k'.mo : Int)], .slice ua G.length uc] w3 (OfRet k' G w3)) := Lib.hid (of_pages k' HKF'.out ua G.length uc G w3 rfl hpg (by have := HG12.out; omega) HGL2.out)
  clear hpg
  go_wp2_with fail
  ((with_reducible refine HOP.out.mono ?_))
  intro e w4 hr
  obtain ⟨D, Ow, rfl, hdl, hol, hdk, hok, hdn2, hon2, hb⟩ := hr
  have hba := bel_trans hb (bel_alloc (Below.refl _ w4) (.cells #[.slice D.a D.n D.c, .slice Ow.a Ow.n Ow.c] 64))
  have hpb := heap_alloc_new w4 (.cells #[.slice D.a D.n D.c, .slice Ow.a Ow.n Ow.c] 64)
  have hb5 := bel_alloc (Below.refl _ w4) (.cells #[.slice D.a D.n D.c, .slice Ow.a Ow.n Ow.c] 64)
  clear c3 c4 c5 c6 c7 c8 c9 c10 HOP
  have HDN := Lib.hid hdn2
  have HON := Lib.hid hon2
  have HDL := Lib.hid hdl
  have HOL := Lib.hid hol
  clear hdn2 hon2 hdl hol
  go_upto_region 6 with fail
  obtain ⟨w5, hw5⟩ : ∃ x, x = w4.alloc (.cells #[.slice D.a D.n D.c, .slice Ow.a Ow.n Ow.c] 64) := ⟨_, rfl⟩
  rw [← hw5] at hba hpb hb5 ⊢
  have HP5 := Lib.hid (blk_step HP3.out hba)
  have HPB5 := Lib.hid hpb
  have HB5 := Lib.hid (bel_trans HB3.out hba)
  have HPG5 := Lib.hid (HPG.out.step hba)
  have HD5 := Lib.hid (hdk.step hb5)
  have HO5 := Lib.hid (hok.step hb5)
  clear hb hba hpb hb5 hw5 hdk hok HP3 HB3 HPG HCS3
  have h5 : w.heap.size ≤ w5.heap.size := HB5.out.size
  have H5 := Lib.hid h5
  clear h5
  obtain ⟨_, _, _, c3, _⟩ := case_all HP5.out
  obtain ⟨n, hn0⟩ : ∃ n, n = G.length := ⟨_, rfl⟩
  have HN : Hid (n = G.length) := Lib.hid hn0
  have hn1 : 0 < n := by rw [hn0]; exact HG0.out
  have hn12 : n ≤ 12 := by rw [hn0]; exact HG12.out
  rw [← hn0]
  clear hn0
  obtain ⟨k, hkn, hke⟩ := which_of which n hn1 hn12
  go_upto_region 7 with fail
  rw [hke]
  clear hke c3
  have HB55 : Hid (Below w5.heap.size w5 w5) := Lib.hid (Below.refl _ _)
  have HR0 : Hid (OwnG 64 w5.heap.size w5 (.slice none 0 0) (restFrom G k n)) := Lib.hid (by rw [HN.out, restFrom_top]; exact ownG_nil _ _ _)
  go_wp2
  go_loopw [8, 9] (fun v i wr => ∃ (j : Nat) (z : Int), j ≤ n ∧ z = (j : Int) - 1 ∧ i = .int .i64 z ∧ OwnG 64 w5.heap.size wr v (restFrom G k j) ∧ Below w5.heap.size w5 wr) (fun _ i _ => (intOf i + 1).toNat)
  case atStart => exact ⟨n, _, Nat.le_refl _, rfl, rfl, HR0.out, HB55.out⟩
  case round =>
    obtain ⟨j, z, hj, hz, rfl, hown, hbe⟩ := hrel
    have HO := Lib.hid hown
    have HB := Lib.hid hbe
    clear hown hbe
    rcases j with _ | i
    · obtain rfl : z = -1 := by omega
      clear hz hj
      rw [restFrom_zero] at HO
      have t1 : decide ((0 : Int) ≤ -1) = false := by decide
      have HPGr := Lib.hid (HPG5.out.step HB.out)
      have HPBr := Lib.hid (blk_step HPB5.out HB.out)
      have HDr := Lib.hid (HD5.out.step HB.out)
      have HOr := Lib.hid (HO5.out.step HB.out)
      have HBr := Lib.hid (bel_trans HB5.out HB.out)
      go_upto_region 13 with fail
      obtain ⟨ra, rc, rfl, hcr, _, _, _⟩ := cellsG_own HO.out
      obtain ⟨R, hR⟩ : ∃ R, R = restOf G k := ⟨_, rfl⟩
      have hkG : k < G.length := by have := HN.out; omega
      have hpr : PagesL wr ra R := pagesL_of (by rw [hR]; exact hcr) (fun g hg => HPGr.out.2 g (rest_mem (k := k) (by rw [← hR]; exact hg)))
      have hrl : R.length = G.length - 1 := by rw [hR, rest_len G k hkG]
      obtain ⟨y, hy⟩ : ∃ y : PG, y = ⟨D, Ow⟩ := ⟨_, rfl⟩
      have hyd : y.d.l = xorL (dsOf G) := by rw [hy]; exact HDL.out
      have hyo : y.o.l = sealB k' (xorL (dsOf G)) (xorL (hsOf G)) := by rw [hy]; exact HOL.out
      have hok1 := with_ok HKF'.out HK5.out hyd hyo
      have hok2 := back_ok HSE.out hkG hyd hyo
      have hbd := back_d HSE.out hkG hyd
      have hbo := back_o HSE.out hkG hyo
      rw [← hR] at hok2 hbd hbo ⊢
      have HMI : Hid (Calls Try.prog 42 #[.agg #[.slice D.a D.n D.c, .slice Ow.a Ow.n Ow.c], .slice ra R.length rc] wr (MissRet y R wr)) := Lib.hid (by
        have h := missing_yes y ra R.length rc R wr rfl (by rw [hy]; exact ⟨HDr.out, HOr.out⟩) hpr (by have := HG12.out; omega) (by rw [hy]; exact ⟨HDN.out, HON.out⟩) (fun q hq => HGL2.out q (rest_mem (k := k) (by rw [← hR]; exact hq))) hok1.1 hok1.2 hok2
        rw [hy] at h ⊢
        exact h)
      have HBD := Lib.hid hbd
      have HBO := Lib.hid hbo
      obtain ⟨⟨p0, p1⟩, _⟩ := page_at HPBr.out
      clear hcr hR hpr hrl hy hyd hyo hok1 hok2 hbd hbo hkG t1
      go_wp2_with fail
      ((with_reducible refine HMI.out.mono ?_))
      intro e w10 hr
      obtain ⟨D2, O2, rfl, hdl, hol, hdk, hok, hb⟩ := hr
      have hba := bel_trans hb (bel_alloc (Below.refl _ w10) (.cells #[.slice D2.a D2.n D2.c, .slice O2.a O2.n O2.c] 64))
      have hb2 := bel_alloc (Below.refl _ w10) (.cells #[.slice D2.a D2.n D2.c, .slice O2.a O2.n O2.c] 64)
      have hpb := heap_alloc_new w10 (.cells #[.slice D2.a D2.n D2.c, .slice O2.a O2.n O2.c] 64)
      have HX2 : Hid (D2.l = (G.getD k PG.nil).d.l) := Lib.hid (by rw [hdl]; exact HBD.out)
      have HX3 : Hid (O2.l = (G.getD k PG.nil).o.l) := Lib.hid (by rw [hol]; exact HBO.out)
      clear p0 p1 HMI hdl hol
      go_upto_region 14 with fail
      obtain ⟨w11, hw11⟩ : ∃ x, x = w10.alloc (.cells #[.slice D2.a D2.n D2.c, .slice O2.a O2.n O2.c] 64) := ⟨_, rfl⟩
      rw [← hw11] at hba hpb hb2 ⊢
      clear hw11
      have HPG11 := Lib.hid (HPGr.out.step hba)
      have HB11 := Lib.hid (bel_trans HBr.out hba)
      have HD11 := Lib.hid (hdk.step hb2)
      have HO11 := Lib.hid (hok.step hb2)
      have HPB11 := Lib.hid hpb
      clear hb hba hb2 hpb hdk hok
      have hkG : k < G.length := by have := HN.out; omega
      obtain ⟨b, off, rfl, x0, x1⟩ := HPG11.out.cell hkG
      have hgk := HPG11.out.at hkG
      obtain ⟨⟨p0, p1⟩, _⟩ := page_at HPB11.out
      obtain ⟨g, hg⟩ : ∃ g, g = G.getD k PG.nil := ⟨_, rfl⟩
      rw [← hg] at x0 x1 hgk HX2 HX3
      have HS2 : Hid (∀ m, Calls Try.prog 35 #[.slice D2.a D2.n D2.c, .slice g.d.a g.d.n g.d.c] (w11.drewN m) fun e w' => e = .returned (.bool true) ∧ w' = w11.drewN m) := Lib.hid (fun m => by
        have h := sameB_any D2.a D2.n D2.c g.d.a g.d.n g.d.c D2.l g.d.l (w11.drewN m) (row_drewN HD11.out.1 m) (row_drewN hgk.1.1 m)
        rw [HX2.out] at h
        simpa using h)
      have HS3 : Hid (∀ m, Calls Try.prog 35 #[.slice O2.a O2.n O2.c, .slice g.o.a g.o.n g.o.c] (w11.drewN m) fun e w' => e = .returned (.bool true) ∧ w' = w11.drewN m) := Lib.hid (fun m => by
        have h := sameB_any O2.a O2.n O2.c g.o.a g.o.n g.o.c O2.l g.o.l (w11.drewN m) (row_drewN HO11.out.1 m) (row_drewN hgk.2.1 m)
        rw [HX3.out] at h
        simpa using h)
      unfold PS.v at x0 x1
      have hk0 : (0 : Int) ≤ (k : Int) := by omega
      have hk1 : (k : Int) < (n : Int) := by omega
      clear hgk hg hkG
      go_quiet ((first | (go_at_call 35; exact Calls.quiet_of_same (HS2.out _)) | (go_at_call 35; exact Calls.quiet_of_same (HS3.out _))))
      go_wp2
      go_ret
      exact ⟨rfl, ⟨HB11.out.os, HB11.out.tape, HB11.out.output, HB11.out.size, HB11.out.block⟩⟩
    · obtain rfl : z = (i : Int) := by omega
      clear hz
      by_cases hik : i = k
      · subst hik
        have t2 : ((i : Int) != (i : Int)) = false := by simp
        go_wp2
        go_roundw
        case rel => exact ⟨i, _, by omega, rfl, rfl, by rw [restFrom_same]; exact HO.out, HB.out⟩
        case measure => simp [intOf]
      · have t2 : ((i : Int) != (k : Int)) = true := by simp; omega
        have hpw := HPG5.out.step HB.out
        have hiG : i < G.length := by have := HN.out; omega
        obtain ⟨b, off, rfl, x0, x1⟩ := hpw.cell hiG
        have hst := restFrom_step G k i hiG hik
        have hrl := restFrom_len G k (i + 1)
        rw [← HN.out] at hrl
        obtain ⟨g, hg⟩ : ∃ g, g = G.getD i PG.nil := ⟨_, rfl⟩
        rw [← hg] at x0 x1 hst
        obtain ⟨R, hR⟩ : ∃ R, R = restFrom G k (i + 1) := ⟨_, rfl⟩
        rw [← hR] at hst HO hrl
        have HST := Lib.hid hst
        have hrl2 : R.length ≤ 1000000 := by omega
        have HX0 := Lib.hid (page_box wr g.d.v g.o.v 64)
        have hi0 : (0 : Int) ≤ (i : Int) := by omega
        have hi1 : (i : Int) < (n : Int) := by omega
        clear hpw hiG hg hR hst hrl
        unfold PS.v at x0 x1
        go_wp2_with (at_builtin; refine wpList_appG 64 59 Try.underlying59 info_pagep rfl _ _ rfl w5.heap.size u8 R rfl (HO.out.alloc _) wr.heap.size 1 g rfl HX0.out.1 HX0.out.2 (Nat.le_trans HB.out.size (by simp)) hrl2 ?_; intro v' w6 hap; rw [HST.out] at hap; have HO6 := Lib.hid hap.own; have HB6 := Lib.hid ((bel_alloc HB.out _).trans hap.below); clear hap)
        go_roundw
        case rel => exact ⟨i, _, by omega, rfl, rfl, HO6.out, HB6.out⟩
        case measure => simp [intOf]

end Go.Proofs.Ytmggjknljbpbgaa
