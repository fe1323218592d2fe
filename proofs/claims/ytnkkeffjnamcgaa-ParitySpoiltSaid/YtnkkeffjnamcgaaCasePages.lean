/- gabionlaw09.pages. -/
import Derived.Test.YtnkkeffjnamcgaaCaseS
import Derived.Test.YtnkkeffjnamcgaaParityOneWalk
import Derived.Test.YtnkkeffjnamcgaaPad
namespace Go.Proofs.Ytnkkeffjnamcgaa
open Go.RowKit

/-- A case. -/
structure CA where
  ha : Option Addr
  hn : Nat
  hc : Nat
  da : Option Addr
  dn : Nat
  dc : Nat
  size : Int
  which : Int
  wh : RH
def CA.cells (c : CA) : Array Value := #[.slice c.ha c.hn c.hc, .slice c.da c.dn c.dc, .int .i64 c.size, .int .i64 c.which, .int .u8 (c.wh.ki : Int), .int .u32 (c.wh.ep : Int), .int .u32 (c.wh.ba : Int), .int .u16 (c.wh.ix : Int), .int .u16 (c.wh.ct : Int), .int .u32 (c.wh.bl : Int), .int .u32 (c.wh.mo : Int)]
structure CaseIn (W : World) (c : CA) (H : List RH) (L : List PS) : Prop where
  heads : CellsH W c.ha H
  hlen : c.hn = H.length
  hmax : c.hn ≤ maxLen
  hfit : ∀ h ∈ H, h.Fits
  data : PartsL W c.da L
  dlen : c.dn = L.length
  dmax : c.dn ≤ maxLen
  szlo : -9223372036854775808 ≤ c.size
  szhi : c.size ≤ 9223372036854775807
  whlo : -9223372036854775808 ≤ c.which
  whhi : c.which ≤ 9223372036854775807
  wfit : c.wh.Fits
/-- What pages answers. -/
def CaseRet (w : World) (e : Ending) (w' : World) : Prop :=
  (∃ (u v : Value) (G : List PG) (size : Nat), e = .returned (.tuple #[u, v, .bool true]) ∧ 0 < G.length ∧ G.length ≤ 12 ∧ size ≤ 300 ∧ Sealed G size ∧ CaseS w.heap.size u v G G G w' ∧ Below w.heap.size w w') ∨
  (e = .returned (.tuple #[.slice none 0 0, .slice none 0 0, .bool false]) ∧ Below w.heap.size w w')

theorem OwnG.mono {T : TypeId} {B B' : Nat} {w : World} {sv : Value} {G : List PG} (h : OwnG T B w sv G) (hB : B' ≤ B) : OwnG T B' w sv G := by
  refine ⟨h.1, ?_⟩
  rcases h.2 with h0 | ⟨g, cap, cur, h1, h2, h3⟩
  · exact .inl h0
  · exact .inr ⟨g, cap, cur, h1, Nat.le_trans hB h2, h3⟩
theorem CaseS.mono {B B' : Nat} {u v : Value} {GU GV GA : List PG} {x : World} (h : CaseS B u v GU GV GA x) (hB : B' ≤ B) : CaseS B' u v GU GV GA x :=
  ⟨h.own1.mono hB, h.own2.mono hB, h.ns, h.pages, fun g hg a ha => by
    obtain ⟨h1, h2⟩ := h.apart g hg a ha
    exact ⟨Nat.le_trans hB h1, h2⟩⟩
theorem size_of (x : Int) : ∃ m : Nat, m < 300 ∧ wrap64 ((IntKind.u64.wrap x).tmod 300) = (m : Int) := by
  rw [IntKind.wrap_u64]
  have h0 : 0 ≤ x % 18446744073709551616 := Int.emod_nonneg _ (by omega)
  rw [Int.tmod_eq_emod_of_nonneg h0]
  refine ⟨(x % 18446744073709551616 % 300).toNat, by omega, ?_⟩
  unfold wrap64
  omega
theorem case_at {W : World} {b : Nat} {v0 v1 v2 : Value} {vs : List Value} {t : TypeId} (h : W.heap[b]? = some (.cells ⟨v0 :: v1 :: v2 :: vs⟩ t (0, 0))) :
    W.cell? ⟨b, 0, none⟩ = some v0 ∧ W.cell? ⟨b, 1, none⟩ = some v1 ∧ W.cell? ⟨b, 2, none⟩ = some v2 := by
  simp [World.cell?, h]

set_option maxRecDepth 100000 in
set_option maxHeartbeats 6400000 in
theorem pages_any (c : CA) (H : List RH) (L : List PS) (w : World) (hin : CaseIn w c H L) :
    Calls Try.prog 7 #[.agg c.cells] w (CaseRet w) := by
  obtain ⟨ha, hn, hc, da, dn, dc, size, which, wh⟩ := c
  have HI := Lib.hid hin
  have hmax := hin.hmax
  have dmax := hin.dmax
  have szlo := hin.szlo
  have szhi := hin.szhi
  unfold maxLen at hmax dmax
  simp only at hmax dmax szlo szhi
  clear hin
  unfold CA.cells
  simp only
  go_enter Try.func7, Try.ntmps7
  go_upto_region 1 with fail
  have hpb := heap_alloc_new w (.cells #[.slice ha hn hc, .slice da dn dc, .int .i64 size, .int .i64 which, .int .u8 (wh.ki : Int), .int .u32 (wh.ep : Int), .int .u32 (wh.ba : Int), .int .u16 (wh.ix : Int), .int .u16 (wh.ct : Int), .int .u32 (wh.bl : Int), .int .u32 (wh.mo : Int)] 29)
  have hba := bel_alloc (Below.refl _ w) (.cells #[.slice ha hn hc, .slice da dn dc, .int .i64 size, .int .i64 which, .int .u8 (wh.ki : Int), .int .u32 (wh.ep : Int), .int .u32 (wh.ba : Int), .int .u16 (wh.ix : Int), .int .u16 (wh.ct : Int), .int .u32 (wh.bl : Int), .int .u32 (wh.mo : Int)] 29)
  obtain ⟨w0, hw0⟩ : ∃ x, x = w.alloc (.cells #[.slice ha hn hc, .slice da dn dc, .int .i64 size, .int .i64 which, .int .u8 (wh.ki : Int), .int .u32 (wh.ep : Int), .int .u32 (wh.ba : Int), .int .u16 (wh.ix : Int), .int .u16 (wh.ct : Int), .int .u32 (wh.bl : Int), .int .u32 (wh.mo : Int)] 29) := ⟨_, rfl⟩
  have HSZ : Hid (w0.heap.size = w.heap.size + 1) := Lib.hid (by rw [hw0]; simp)
  rw [← hw0] at hpb hba ⊢
  have HPB := Lib.hid hpb
  have HB0 := Lib.hid hba
  clear hw0 hpb hba
  obtain ⟨c0, c1, c2⟩ := case_at HPB.out
  by_cases h1 : hn < 1
  · have t1 : decide ((hn : Int) < 1) = true := by simp; omega
    clear h1
    go_wp2
    refine bodyPost_ret (v := .tuple #[.slice none 0 0, .slice none 0 0, .bool false]) ?_ rfl (.inr ⟨rfl, HB0.out⟩)
    simp [results, Try.results7, go_sem]
  have t1 : decide ((hn : Int) < 1) = false := by simp; omega
  by_cases h2 : 12 < hn
  · have t2 : decide ((12 : Int) < (hn : Int)) = true := by simp; omega
    clear h1 h2
    go_wp2
    refine bodyPost_ret (v := .tuple #[.slice none 0 0, .slice none 0 0, .bool false]) ?_ rfl (.inr ⟨rfl, HB0.out⟩)
    simp [results, Try.results7, go_sem]
  have t2 : decide ((12 : Int) < (hn : Int)) = false := by simp; omega
  by_cases h3 : dn < hn
  · have t3 : decide (dn < hn) = true := by simpa using h3
    clear h1 h2 h3
    go_wp2
    refine bodyPost_ret (v := .tuple #[.slice none 0 0, .slice none 0 0, .bool false]) ?_ rfl (.inr ⟨rfl, HB0.out⟩)
    simp [results, Try.results7, go_sem]
  have t3 : decide (dn < hn) = false := by simpa using h3
  have hn1 : 1 ≤ hn := by omega
  have hn12 : hn ≤ 12 := by omega
  have hnd : hn ≤ dn := by omega
  clear h1 h2 h3
  go_upto_region 5 with fail
  obtain ⟨sz, hsz, hse⟩ := size_of size
  rw [hse]
  clear hse t1 t2 t3 c0 c2 szlo szhi
  have HB00 : Hid (Below w0.heap.size w0 w0) := Lib.hid (Below.refl _ _)
  have HHP := Lib.hid (HI.out.heads.keep HB0.out (Nat.le_refl _))
  have HLP := Lib.hid (HI.out.data.keep HB0.out (Nat.le_refl _))
  have HHL : Hid (hn = H.length) := Lib.hid HI.out.hlen
  have HDL : Hid (dn = L.length) := Lib.hid HI.out.dlen
  have HHF := Lib.hid HI.out.hfit
  simp only at HHP HLP
  clear c1 HI
  go_upto_region 8 with fail
  go_loopw [7, 8, 9] (fun u v i wr => ∃ (k : Nat) (G : List PG), k ≤ hn ∧ i = .int .i64 (k : Int) ∧ G.length = k ∧ Sealed G sz ∧ CaseS w0.heap.size u v G G G wr ∧ Below w0.heap.size w0 wr) (fun _ _ i _ => hn - (intOf i).toNat)
  case atStart => exact ⟨0, [], Nat.zero_le _, rfl, rfl, sealed_nil _, CaseS.start _ _, HB00.out⟩
  case round =>
    obtain ⟨k, G, hk, rfl, hgl, hgs, hcs, hbe⟩ := hrel
    have HGL := Lib.hid hgl
    have HGS := Lib.hid hgs
    have HCS := Lib.hid hcs
    have HB := Lib.hid hbe
    clear hgl hgs hcs hbe
    by_cases hlt : k < hn
    · have t1 : decide (k < hn) = true := by simpa using hlt
      have hpw := HLP.out.keep HB.out (Nat.le_refl _)
      have hkL : k < L.length := by have := HDL.out; omega
      have hkH : k < H.length := by have := HHL.out; omega
      obtain ⟨bb, off, rfl, hcl⟩ := hpw.cell hkL
      obtain ⟨hb, hoff, rfl, hh⟩ := (HHP.out.keep HB.out (Nat.le_refl _)).cell hkH
      have HOK : Hid (PartOk wr (L.getD k PS.nil)) := Lib.hid (hpw.2 k hkL)
      have HF : Hid ((H.getD k RH.zero).Fits) := Lib.hid (HHF.out _ (by simp [List.getD, hkH]))
      obtain ⟨p, hpd⟩ : ∃ p, p = L.getD k PS.nil := ⟨_, rfl⟩
      obtain ⟨h, hhd⟩ : ∃ h, h = H.getD k RH.zero := ⟨_, rfl⟩
      rw [← hpd] at hcl HOK
      rw [← hhd] at hh HF
      have HHC := Lib.hid hh
      clear hpd hhd hpw hkL hkH hh
      have HPB1 := Lib.hid (blk_step HPB.out HB.out)
      obtain ⟨c0, c1, _⟩ := case_at HPB1.out
      have hk0 : (0 : Int) ≤ (k : Int) := by omega
      have hk1 : (k : Int) < (dn : Int) := by omega
      have hk2 : (k : Int) < (hn : Int) := by omega
      by_cases h3 : 300 < p.n
      · have t3 : decide ((300 : Int) < (p.n : Int)) = true := by simp; omega
        clear h3
        go_wp2
        refine bodyPost_ret (v := .tuple #[.slice none 0 0, .slice none 0 0, .bool false]) ?_ rfl (.inr ⟨rfl, bel_trans HB0.out HB.out⟩)
        simp [results, Try.results7, go_sem]
      have t3 : decide ((300 : Int) < (p.n : Int)) = false := by simp; omega
      have hp3 : p.n ≤ 300 := by omega
      clear h3
      have HPAD := Lib.hid (refPad_any p.a p.n p.c p.l wr HOK.out.1 HOK.out.2.1 HOK.out.2.2.1 HOK.out.2.2.2 (by omega) (sz : Int) (by omega) (by omega))
      go_wp2_with fail
      ((with_reducible refine HPAD.out.mono ?_))
      intro e w1 hr
      obtain ⟨⟨qa, qn, qc, ql⟩, rfl, hql, hqn, hqk, hqb, hqa⟩ := own_parts hr
      simp only at hqn hqa
      have hle : sz ≤ qn := by rw [hqn]; exact pad_len
      have hqc : qn ≤ qc := hqk.2.1
      have hqm : qc ≤ maxLen := hqk.2.2.1
      have hqz : qa = none → qc = 0 := hqk.2.2.2
      unfold maxLen at hqm
      obtain ⟨dl, hdd⟩ : ∃ dl, dl = ql.take sz := ⟨_, rfl⟩
      have hdk : PartOk w1 ⟨qa, sz, qc, dl⟩ := by rw [hdd]; exact cut_ok hqk hle
      have HD1 := Lib.hid hdk
      have HDA : Hid (∀ x, qa = some x → wr.heap.size ≤ x.block ∧ x.block < w1.heap.size) := Lib.hid hqa
      have HB1 : Hid (Below wr.heap.size wr w1) := Lib.hid hqb
      have HPB2 := Lib.hid (blk_step HPB1.out hqb)
      have hle1 : sz ≤ qc := by omega
      have hle2 : (sz : Int) ≤ (qc : Int) := by omega
      have hle0 : (0 : Int) ≤ (sz : Int) := by omega
      clear hr hql hqn hqk hqb hqa hle hdd hdk hqc c0 c1 hcl t3
      obtain ⟨c0, c1, _⟩ := case_at HPB2.out
      obtain ⟨x0, x1, x2, x3, x4, x5, x6⟩ := HHC.out
      replace x0 := cell_keep x0 HB1.out (Nat.le_refl _)
      replace x1 := cell_keep x1 HB1.out (Nat.le_refl _)
      replace x2 := cell_keep x2 HB1.out (Nat.le_refl _)
      replace x3 := cell_keep x3 HB1.out (Nat.le_refl _)
      replace x4 := cell_keep x4 HB1.out (Nat.le_refl _)
      replace x5 := cell_keep x5 HB1.out (Nat.le_refl _)
      replace x6 := cell_keep x6 HB1.out (Nat.le_refl _)
      go_upto_region 14 with fail
      clear c0 c1 x0 x1 x2 x3 x4 x5 x6
      have hpb := heap_alloc_new w1 (.cells #[.int .u8 (h.ki : Int), .int .u32 (h.ep : Int), .int .u32 (h.ba : Int), .int .u16 (h.ix : Int), .int .u16 (h.ct : Int), .int .u32 (h.bl : Int), .int .u32 (h.mo : Int)] 27)
      have hba := bel_alloc (Below.refl _ w1) (.cells #[.int .u8 (h.ki : Int), .int .u32 (h.ep : Int), .int .u32 (h.ba : Int), .int .u16 (h.ix : Int), .int .u16 (h.ct : Int), .int .u32 (h.bl : Int), .int .u32 (h.mo : Int)] 27)
      obtain ⟨w2, hw2⟩ : ∃ x, x = w1.alloc (.cells #[.int .u8 (h.ki : Int), .int .u32 (h.ep : Int), .int .u32 (h.ba : Int), .int .u16 (h.ix : Int), .int .u16 (h.ct : Int), .int .u32 (h.bl : Int), .int .u32 (h.mo : Int)] 27) := ⟨_, rfl⟩
      have HSZ2 : Hid (w2.heap.size = w1.heap.size + 1) := Lib.hid (by rw [hw2]; simp)
      rw [← hw2] at hpb hba ⊢
      have HP2 := Lib.hid hpb
      have HA2 := Lib.hid hba
      clear hw2 hpb hba
      obtain ⟨⟨z0, _⟩, f0⟩ := hdr_at HP2.out
      have hkw := kind_wrap h.ki HF.out.ki
      have hkk : (0 : Int) ≤ (h.ki : Int) := by omega
      go_upto_region 15 with fail
      clear z0 f0
      obtain ⟨m, hm⟩ : ∃ m, m = 1 + h.ki % 6 := ⟨_, rfl⟩
      have hme : 1 + (h.ki : Int) % 6 = (m : Int) := by omega
      have hm1 : 1 ≤ m ∧ m ≤ 6 := by omega
      rw [hme]
      have hpb : (w2.setCell ⟨w1.heap.size, 0, none⟩ (.int .u8 (m : Int))).heap[w1.heap.size]? = some (.cells #[.int .u8 ((h.withKind m).ki : Int), .int .u32 ((h.withKind m).ep : Int), .int .u32 ((h.withKind m).ba : Int), .int .u16 ((h.withKind m).ix : Int), .int .u16 ((h.withKind m).ct : Int), .int .u32 ((h.withKind m).bl : Int), .int .u32 ((h.withKind m).mo : Int)] 27 (0, 0)) := set_blk0 _ HP2.out
      have hba : Below w1.heap.size w1 (w2.setCell ⟨w1.heap.size, 0, none⟩ (.int .u8 (m : Int))) := HA2.out.setCell (p := ⟨w1.heap.size, 0, none⟩) (Nat.le_refl _) _
      have HHF : Hid ((h.withKind m).Fits) := Lib.hid (withKind_fits HF.out (by omega))
      have HHM : Hid (1 ≤ (h.withKind m).ki ∧ (h.withKind m).ki ≤ 6) := Lib.hid hm1
      obtain ⟨w3, hw3⟩ : ∃ x, x = w2.setCell ⟨w1.heap.size, 0, none⟩ (.int .u8 (m : Int)) := ⟨_, rfl⟩
      rw [← hw3] at hpb hba ⊢
      obtain ⟨h', hh'⟩ : ∃ h', h' = h.withKind m := ⟨_, rfl⟩
      rw [← hh'] at hpb HHF HHM
      have HA3 := Lib.hid hba
      have HD3 := Lib.hid (HD1.out.step hba)
      have HP3 := Lib.hid hpb
      clear hw3 hh' hpb hba hme hkw hkk HP2 HA2
      have HOF : Hid (∀ x, Calls Try.prog 30 #[.agg #[.int .u8 (h'.ki : Int), .int .u32 (h'.ep : Int), .int .u32 (h'.ba : Int), .int .u16 (h'.ix : Int), .int .u16 (h'.ct : Int), .int .u32 (h'.bl : Int), .int .u32 (h'.mo : Int)]] x _) := Lib.hid (of_hdr h' HHF.out)
      obtain ⟨⟨c0, c1, c2, c3, c4, c5, c6⟩, _⟩ := hdr_at HP3.out
      go_wp2_with fail
      ((with_reducible refine (HOF.out _).mono ?_))
      rintro e w4 ⟨rfl, hb⟩
      have HA4 := Lib.hid (HA3.out.trans (hb.mono HA3.out.size))
      have HD4 := Lib.hid (HD3.out.step hb)
      clear hb c0 c1 c2 c3 c4 c5 c6 HOF
      have HSL := refSeal_parts h' HHF.out ⟨qa, sz, qc, dl⟩ (by simp only; omega)
      go_wp2_with fail
      ((with_reducible refine (HSL.out _ HD4.out).mono ?_))
      intro e w5 hr
      obtain ⟨o, rfl, hol, hon, hok, hb, hoa⟩ := own_parts hr
      have HA5 := Lib.hid (HA4.out.trans (hb.mono HA4.out.size))
      have HD5 := Lib.hid (HD4.out.step hb)
      have HO5 := Lib.hid hok
      have HOL := Lib.hid hol
      have HOA : Hid (∀ x, o.a = some x → w4.heap.size ≤ x.block ∧ x.block < w5.heap.size) := Lib.hid hoa
      clear hr hol hon hok hb hoa HSL
      obtain ⟨g, hg⟩ : ∃ g : PG, g = ⟨⟨qa, sz, qc, dl⟩, o⟩ := ⟨_, rfl⟩
      have hbw : Below wr.heap.size wr w5 := HB1.out.trans (HA5.out.mono HB1.out.size)
      have HSE : Hid (Sealed (G ++ [g]) sz) := Lib.hid (by rw [hg]; exact sealed_more HGS.out HD5.out.1.1 HHF.out HHM.out HOL.out)
      have HCM : Hid (CaseS w0.heap.size u7 u8 G G (G ++ [g]) w5) := Lib.hid (HCS.out.more hbw HB.out.size (by rw [hg]; exact ⟨HD5.out, HO5.out⟩) (fun x hx => by
        rw [hg] at hx
        rcases hx with hx | hx
        · obtain ⟨y1, y2⟩ := HDA.out x hx
          exact ⟨y1, Nat.lt_of_lt_of_le y2 HA5.out.size⟩
        · obtain ⟨y1, y2⟩ := HOA.out x hx
          exact ⟨Nat.le_trans (Nat.le_trans HB1.out.size HA4.out.size) y1, y2⟩))
      have HB5 := Lib.hid (bel_trans HB.out hbw)
      have hgl : G.length ≤ 1000000 := by rw [HGL.out]; omega
      clear hbw HD5 HO5 HD4 HD3 HP3 HA3 HA4 HA5 HOL HOA HDA HD1
      have HX0 : Hid ((w5.alloc (.cells #[.slice qa sz qc, .slice o.a o.n o.c] 39)).cell? ⟨w5.heap.size, 0, none⟩ = some g.d.v ∧ (w5.alloc (.cells #[.slice qa sz qc, .slice o.a o.n o.c] 39)).cell? ⟨w5.heap.size, 1, none⟩ = some g.o.v) := Lib.hid (by rw [hg]; exact page_box w5 _ _ _)
      have HX1 : Hid (∀ x : World, (x.alloc (.cells #[.slice qa sz qc, .slice o.a o.n o.c] 41)).cell? ⟨x.heap.size, 0, none⟩ = some g.d.v ∧ (x.alloc (.cells #[.slice qa sz qc, .slice o.a o.n o.c] 41)).cell? ⟨x.heap.size, 1, none⟩ = some g.o.v) := Lib.hid (by rw [hg]; exact fun x => page_box x _ _ _)
      have HC5 := Lib.hid (HCM.out.step (bel_alloc (Below.refl _ w5) (.cells #[.slice qa sz qc, .slice o.a o.n o.c] 39)))
      have HB5a := Lib.hid (bel_alloc HB5.out (.cells #[.slice qa sz qc, .slice o.a o.n o.c] 39))
      have HBS : Hid (w0.heap.size ≤ (w5.alloc (.cells #[.slice qa sz qc, .slice o.a o.n o.c] 39)).heap.size) := Lib.hid (Nat.le_trans HB5.out.size (by simp))
      clear hg
      go_upto_region 16 with fail
      go_wp2_with (first
        | (at_builtin; refine wpList_appG 39 32 Try.underlying32 info_pagep rfl _ _ rfl w0.heap.size u7 G rfl HC5.out.own1 w5.heap.size 1 g rfl HX0.out.1 HX0.out.2 HBS.out hgl ?_; intro u' w6 hap; have HC6 := Lib.hid (HC5.out.push1 hap); have HB6 := Lib.hid (HB5a.out.trans hap.below); clear hap)
        | (at_builtin; refine wpList_appG 41 33 Try.underlying33 info_pager rfl _ _ rfl w0.heap.size u8 G rfl (HC6.out.step (bel_alloc (Below.refl _ w6) _)).own2 w6.heap.size 1 g rfl (HX1.out w6).1 (HX1.out w6).2 (Nat.le_trans HB6.out.size (by simp)) hgl ?_; intro v' w7 hap; have HC7 := Lib.hid ((HC6.out.step (bel_alloc (Below.refl _ w6) _)).push2 hap); have HB7 := Lib.hid ((bel_alloc HB6.out _).trans hap.below); clear hap))
      go_roundw
      case rel => exact ⟨k + 1, G ++ [g], by omega, by go_num, by rw [List.length_append, HGL.out]; rfl, HSE.out, HC7.out, HB7.out⟩
      case measure => simp [intOf]; omega
    · obtain rfl : k = hn := by omega
      have t1 : decide (k < k) = false := by simp
      go_wp2
      refine bodyPost_ret (v := .tuple #[u7, u8, .bool true]) ?_ rfl (.inl ⟨u7, u8, G, sz, rfl, by rw [HGL.out]; omega, by rw [HGL.out]; omega, by omega, HGS.out, ?_, bel_trans HB0.out HB.out⟩)
      · simp [results, Try.results7, go_sem]
      · exact HCS.out.mono HB0.out.size

theorem CaseIn.keep {W W' : World} {c : CA} {H : List RH} {L : List PS} {B : Nat} (h : CaseIn W c H L) (hb : Below B W W') (hB : W.heap.size ≤ B) : CaseIn W' c H L :=
  ⟨h.heads.keep hb hB, h.hlen, h.hmax, h.hfit, h.data.keep hb hB, h.dlen, h.dmax, h.szlo, h.szhi, h.whlo, h.whhi, h.wfit⟩
theorem case_all {W : World} {b : Nat} {v0 v1 v2 v3 v4 v5 v6 v7 v8 v9 v10 : Value} {t : TypeId} (h : W.heap[b]? = some (.cells #[v0, v1, v2, v3, v4, v5, v6, v7, v8, v9, v10] t (0, 0))) :
    W.cell? ⟨b, 0, none⟩ = some v0 ∧ W.cell? ⟨b, 1, none⟩ = some v1 ∧ W.cell? ⟨b, 2, none⟩ = some v2 ∧ W.cell? ⟨b, 3, none⟩ = some v3 ∧ W.cell? ⟨b, 4, none⟩ = some v4 ∧ W.cell? ⟨b, 5, none⟩ = some v5 ∧ W.cell? ⟨b, 6, none⟩ = some v6 ∧ W.cell? ⟨b, 7, none⟩ = some v7 ∧ W.cell? ⟨b, 8, none⟩ = some v8 ∧ W.cell? ⟨b, 9, none⟩ = some v9 ∧ W.cell? ⟨b, 10, none⟩ = some v10 ∧ W.frozen? ⟨b, 4, none⟩ = false := by
  simp [World.cell?, World.frozen?, h]
theorem set_grown (x : World) (C o : Nat) (v : Value) : x.grownBy (x.setCell ⟨C, o, none⟩ v) (some C) :=
  ⟨rfl, rfl, rfl, by simp, fun k _ hk => by
    have hne : C ≠ k := fun e => hk (by rw [e])
    unfold World.setCell
    simp only
    rw [Array.getElem?_modify, if_neg hne]⟩
theorem CaseS.set {B C o : Nat} {u v y : Value} {GU GV GA : List PG} {x : World} (h : CaseS B u v GU GV GA x) (hC : C < B) : CaseS B u v GU GV GA (x.setCell ⟨C, o, none⟩ y) := by
  have hg := set_grown x C o y
  refine ⟨h.own1.kept hg ?_, h.own2.kept hg ?_, h.ns, fun g hm => (h.pages g hm).grown hg fun a ha e => ?_, fun g hm a ha => ?_⟩
  · exact .inr fun e => by have := (h.own1.lt' _ e).1; omega
  · exact .inr fun e => by have := (h.own2.lt' _ e).1; omega
  · have := (h.apart g hm a ha).1
    simp only [Option.some.injEq] at e
    omega
  · obtain ⟨h1, h2, h3⟩ := h.apart g hm a ha
    exact ⟨h1, Nat.lt_of_lt_of_le h2 hg.size, h3⟩
theorem which_of (x : Int) (n : Nat) (h0 : 0 < n) (h1 : n ≤ 12) : ∃ m : Nat, m < n ∧ wrap64 ((IntKind.u64.wrap x).tmod (n : Int)) = (m : Int) := by
  rw [IntKind.wrap_u64]
  have h0 : 0 ≤ x % 18446744073709551616 := Int.emod_nonneg _ (by omega)
  rw [Int.tmod_eq_emod_of_nonneg h0]
  have h2 := Int.emod_nonneg (x % 18446744073709551616) (b := (n : Int)) (by omega)
  have h3 := Int.emod_lt_of_pos (x % 18446744073709551616) (b := (n : Int)) (by omega)
  refine ⟨(x % 18446744073709551616 % (n : Int)).toNat, by omega, ?_⟩
  unfold wrap64
  omega
theorem pagesL_of {W : World} {a : Option Addr} {G : List PG} (hc : CellsG W a G) (h : ∀ g ∈ G, PageOk W g) : PagesL W a G := ⟨hc, h⟩
theorem row_drewN {W : World} {a : Option Addr} {n : Nat} {l : List Nat} (h : Row W a n l) (m : Nat) : Row (W.drewN m) a n l := by
  refine ⟨h.1, h.2.1, fun h0 => ?_⟩
  obtain ⟨b, off, e, hc⟩ := h.2.2 h0
  refine ⟨b, off, e, fun i hi => ?_⟩
  rw [← hc i hi]
  exact World.cell?_drewN _ _ _
theorem part_len {W : World} {p : PS} (h : PartOk W p) : p.n = p.l.length := h.1.1.symm


end Go.Proofs.Ytnkkeffjnamcgaa
