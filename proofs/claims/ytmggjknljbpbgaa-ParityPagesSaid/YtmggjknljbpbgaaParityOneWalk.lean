/- ParityOne: the walk. -/
import Derived.Test.YtmggjknljbpbgaaParOfHdr
import Derived.Test.YtmggjknljbpbgaaSummed
import Derived.Test.YtmggjknljbpbgaaFrame
namespace Go.Proofs.Ytmggjknljbpbgaa
open Go.RowKit

/-- Two headers' boxes. -/
def TwoH (h k : RH) (w : World) (x : World) : Prop :=
  x.heap[w.heap.size]? = some (.cells #[.int .u8 (h.ki : Int), .int .u32 (h.ep : Int), .int .u32 (h.ba : Int), .int .u16 (h.ix : Int), .int .u16 (h.ct : Int), .int .u32 (h.bl : Int), .int .u32 (h.mo : Int)] 56 (0, 0)) ∧
  x.heap[w.heap.size + 1]? = some (.cells #[.int .u8 (k.ki : Int), .int .u32 (k.ep : Int), .int .u32 (k.ba : Int), .int .u16 (k.ix : Int), .int .u16 (k.ct : Int), .int .u32 (k.bl : Int), .int .u32 (k.mo : Int)] 56 (0, 0)) ∧ Below w.heap.size w x
theorem TwoH.step {h k : RH} {w x y : World} (hs : TwoH h k w x) (hb : Below x.heap.size x y) : TwoH h k w y := ⟨blk_step hs.1 hb, blk_step hs.2.1 hb, bel_trans hs.2.2 hb⟩
theorem twoH_new (h k : RH) (w : World) : TwoH h k w ((w.alloc (.cells #[.int .u8 (h.ki : Int), .int .u32 (h.ep : Int), .int .u32 (h.ba : Int), .int .u16 (h.ix : Int), .int .u16 (h.ct : Int), .int .u32 (h.bl : Int), .int .u32 (h.mo : Int)] 56)).alloc (.cells #[.int .u8 (k.ki : Int), .int .u32 (k.ep : Int), .int .u32 (k.ba : Int), .int .u16 (k.ix : Int), .int .u16 (k.ct : Int), .int .u32 (k.bl : Int), .int .u32 (k.mo : Int)] 56)) := by
  have h1 := heap_alloc_new w (.cells #[.int .u8 (h.ki : Int), .int .u32 (h.ep : Int), .int .u32 (h.ba : Int), .int .u16 (h.ix : Int), .int .u16 (h.ct : Int), .int .u32 (h.bl : Int), .int .u32 (h.mo : Int)] 56)
  have h2 := heap_alloc_new (w.alloc (.cells #[.int .u8 (h.ki : Int), .int .u32 (h.ep : Int), .int .u32 (h.ba : Int), .int .u16 (h.ix : Int), .int .u16 (h.ct : Int), .int .u32 (h.bl : Int), .int .u32 (h.mo : Int)] 56)) (.cells #[.int .u8 (k.ki : Int), .int .u32 (k.ep : Int), .int .u32 (k.ba : Int), .int .u16 (k.ix : Int), .int .u16 (k.ct : Int), .int .u32 (k.bl : Int), .int .u32 (k.mo : Int)] 56)
  rw [World.size_alloc] at h2
  exact ⟨blk_step h1 (bel_alloc (Below.refl _ _) _), h2, bel_alloc (bel_alloc (Below.refl _ w) _) _⟩
theorem set_blk0 {x : World} {B o : Nat} {cs : Array Value} {t : TypeId} (v : Value) (h : x.heap[B]? = some (.cells cs t (0, 0))) : (x.setCell ⟨B, o, none⟩ v).heap[B]? = some (.cells (cs.setIfInBounds o v) t (0, 0)) := by
  unfold World.setCell
  simp only
  rw [Array.getElem?_modify, if_pos rfl, h]
  rfl
theorem set_blk1 {x : World} {B C o : Nat} {ob : Obj} (v : Value) (hne : B ≠ C) (h : x.heap[B]? = some ob) : (x.setCell ⟨C, o, none⟩ v).heap[B]? = some ob := by
  unfold World.setCell
  simp only
  rw [Array.getElem?_modify, if_neg (Ne.symm hne), h]
theorem TwoH.kind1 {h k : RH} {w x : World} (hs : TwoH h k w x) (n : Nat) : TwoH (h.withKind n) k w (x.setCell ⟨w.heap.size, 0, none⟩ (.int .u8 (n : Int))) :=
  ⟨set_blk0 _ hs.1, set_blk1 _ (by omega) hs.2.1, hs.2.2.setCell (p := ⟨w.heap.size, 0, none⟩) (Nat.le_refl _) _⟩
theorem TwoH.kind2 {h k : RH} {w x : World} (hs : TwoH h k w x) (n : Nat) : TwoH h (k.withKind n) w (x.setCell ⟨w.heap.size + 1, 0, none⟩ (.int .u8 (n : Int))) :=
  ⟨set_blk1 _ (by omega) hs.1, set_blk0 _ hs.2.1, hs.2.2.setCell (p := ⟨w.heap.size + 1, 0, none⟩) (by simp) _⟩
theorem hdr_at {h : RH} {w : World} {p : Nat} {T : TypeId} (hh : w.heap[p]? = some (.cells #[.int .u8 (h.ki : Int), .int .u32 (h.ep : Int), .int .u32 (h.ba : Int), .int .u16 (h.ix : Int), .int .u16 (h.ct : Int), .int .u32 (h.bl : Int), .int .u32 (h.mo : Int)] T (0, 0))) : HdrAt h p w ∧ w.frozen? ⟨p, 0, none⟩ = false := by
  unfold HdrAt
  refine ⟨⟨?_, ?_, ?_, ?_, ?_, ?_, ?_⟩, ?_⟩ <;> simp [World.cell?, World.frozen?, hh]

theorem xor_one (x : List Nat) : xorL [x] = x := by
  apply list_ext_getD
  · rw [xorL_len, lgL, lgL]; simp
  · intro j
    rw [xorL_getD, xatL, xatL]; simp

set_option maxRecDepth 100000 in
set_option maxHeartbeats 6400000 in
theorem parityOne_in (h k : RH) (hf : h.Fits) (hkf : k.Fits) (d : PS) (w : World) (hd : PartOk w d) (hdm : d.n ≤ maxLen) :
    Calls Try.prog 15 #[.agg h.cells, .agg k.cells, .slice d.a d.n d.c] w fun e w' => e = .returned (.bool true) ∧ Below w.heap.size w w' := by
  unfold maxLen at hdm
  have HS := Lib.hid summed_any
  have HF := Lib.hid hf
  have HKF := Lib.hid hkf
  have HT0 := Lib.hid (twoH_new h k w)
  have HD := Lib.hid hd
  clear hf hkf hd
  unfold RH.cells
  go_enter Try.func15, Try.ntmps15
  go_upto_region 1 with fail
  obtain ⟨w0, hw0⟩ : ∃ x, x = (w.alloc (.cells #[.int .u8 (h.ki : Int), .int .u32 (h.ep : Int), .int .u32 (h.ba : Int), .int .u16 (h.ix : Int), .int .u16 (h.ct : Int), .int .u32 (h.bl : Int), .int .u32 (h.mo : Int)] 56)).alloc (.cells #[.int .u8 (k.ki : Int), .int .u32 (k.ep : Int), .int .u32 (k.ba : Int), .int .u16 (k.ix : Int), .int .u16 (k.ct : Int), .int .u32 (k.bl : Int), .int .u32 (k.mo : Int)] 56) := ⟨_, rfl⟩
  rw [← hw0] at HT0 ⊢
  clear hw0
  go_wp2_with fail
  ((with_reducible refine (HS.out _).mono ?_))
  rintro e w1 ⟨rfl, hb⟩
  have HT1 := Lib.hid (HT0.out.step hb)
  clear hb HT0
  by_cases h3 : 300 < d.n
  · have t3 : decide ((300 : Int) < (d.n : Int)) = true := by simp; omega
    clear h3
    go_wp2_with fail
    ((with_reducible refine (HS.out _).mono ?_))
    rintro e w2 ⟨rfl, hb⟩
    have HT2 := Lib.hid (HT1.out.step hb)
    clear hb
    go_wp2
    go_ret
    exact ⟨rfl, HT2.out.2.2⟩
  have t3 : decide ((300 : Int) < (d.n : Int)) = false := by simp; omega
  have hdn : d.n ≤ 300 := by omega
  clear h3
  obtain ⟨⟨c0, _⟩, z0⟩ := hdr_at HT1.out.1
  have hkw := kind_wrap h.ki HF.out.ki
  have hk0 : (0 : Int) ≤ (h.ki : Int) := by omega
  go_upto_region 4 with fail
  obtain ⟨m, hm⟩ : ∃ m, m = 1 + h.ki % 6 := ⟨_, rfl⟩
  have hme : 1 + (h.ki : Int) % 6 = (m : Int) := by omega
  have hm1 : 1 ≤ m ∧ m ≤ 6 := by omega
  rw [hme]
  have HT2 := Lib.hid (HT1.out.kind1 m)
  have HHF : Hid ((h.withKind m).Fits) := Lib.hid (withKind_fits HF.out (by omega))
  have HHM : Hid (1 ≤ (h.withKind m).ki ∧ (h.withKind m).ki ≤ 6) := Lib.hid hm1
  have HDD := Lib.hid (HD.out.keep HT2.out.2.2 (Nat.le_refl _))
  obtain ⟨w2, hw2⟩ : ∃ x, x = w1.setCell ⟨w.heap.size, 0, none⟩ (.int .u8 (m : Int)) := ⟨_, rfl⟩
  rw [← hw2] at HT2 HDD ⊢
  obtain ⟨h', hh'⟩ : ∃ h', h' = h.withKind m := ⟨_, rfl⟩
  rw [← hh'] at HT2 HHF HHM
  clear hw2 hme hm hm1 hkw hk0 c0 z0 HT1 hh' HF
  have HOF : Hid (∀ x, Calls Try.prog 41 #[.agg #[.int .u8 (h'.ki : Int), .int .u32 (h'.ep : Int), .int .u32 (h'.ba : Int), .int .u16 (h'.ix : Int), .int .u16 (h'.ct : Int), .int .u32 (h'.bl : Int), .int .u32 (h'.mo : Int)]] x _) := Lib.hid (of_hdr h' HHF.out)
  obtain ⟨⟨c0, c1, c2, c3, c4, c5, c6⟩, _⟩ := hdr_at HT2.out.1
  go_wp2_with fail
  ((with_reducible refine (HOF.out _).mono ?_))
  rintro e w3 ⟨rfl, hb⟩
  have HT3 := Lib.hid (HT2.out.step hb)
  have HD3 := Lib.hid (HDD.out.step hb)
  clear hb c0 c1 c2 c3 c4 c5 c6 HOF HT2 HDD
  have HSL := refSeal_parts h' HHF.out d (by omega)
  go_wp2_with fail
  ((with_reducible refine (HSL.out _ HD3.out).mono ?_))
  intro e w4 hr
  obtain ⟨O, rfl, hol, hon, hok, hb, hfar⟩ := part_ret' hr
  have HFAR : Hid (Far (w.heap.size + 2) O) := Lib.hid fun x hx => Nat.le_trans (by
    have := World.block_lt_of_cell? w3 _ (hdr_at HT3.out.2.1).1.1
    simp at this; omega) (hfar x hx)
  have HOL := Lib.hid hol
  have HON : Hid (O.n = 64) := Lib.hid (by rw [hon]; exact sealB_len _ _ _)
  have HO4 := Lib.hid hok
  have HT4 := Lib.hid (HT3.out.step hb)
  have HD4 := Lib.hid (HD3.out.step hb)
  clear hr hol hon hok hb hfar HSL HT3 HD3
  go_upto_region 5 with fail
  have hpb := heap_alloc_new w4 (.cells #[.slice d.a d.n d.c, .slice O.a O.n O.c] 64)
  have hba := bel_alloc (Below.refl _ w4) (.cells #[.slice d.a d.n d.c, .slice O.a O.n O.c] 64)
  have hpr : w.heap.size + 2 ≤ w4.heap.size := by
    obtain ⟨⟨q, _⟩, _⟩ := hdr_at HT4.out.2.1
    have := World.block_lt_of_cell? w4 _ q
    simp at this; omega
  have HPR := Lib.hid hpr
  have HT5 := Lib.hid (HT4.out.step hba)
  have HD5 := Lib.hid (HD4.out.step hba)
  have HO5 := Lib.hid (HO4.out.step hba)
  obtain ⟨w5, hw5⟩ : ∃ x, x = w4.alloc (.cells #[.slice d.a d.n d.c, .slice O.a O.n O.c] 64) := ⟨_, rfl⟩
  have HSZ : Hid (w5.heap.size = w4.heap.size + 1) := Lib.hid (by rw [hw5]; simp)
  rw [← hw5] at HT5 HD5 HO5 hpb ⊢
  clear hw5 hba HT4 HD4 HO4
  obtain ⟨⟨c0, _⟩, z0⟩ := hdr_at HT5.out.2.1
  go_upto_region 6 with fail
  have HT6 := Lib.hid (HT5.out.kind2 5)
  have HP6 := Lib.hid (set_blk1 (C := w.heap.size + 1) (o := 0) (.int .u8 5) (by omega) hpb)
  have HD6 := Lib.hid (HD.out.keep HT6.out.2.2 (Nat.le_refl _))
  have HO6 := Lib.hid (HO5.out.set (C := w.heap.size + 1) (o := 0) (v := .int .u8 5) HFAR.out (by omega))
  obtain ⟨k', hk'⟩ : ∃ k', k' = k.withKind 5 := ⟨_, rfl⟩
  have HKF' : Hid k'.Fits := Lib.hid (by rw [hk']; exact withKind_fits HKF.out (by omega))
  have HK5 : Hid (k'.ki = 5) := Lib.hid (by rw [hk']; rfl)
  obtain ⟨w6, hw6⟩ : ∃ x, x = w5.setCell ⟨w.heap.size + 1, 0, none⟩ (.int .u8 5) := ⟨_, rfl⟩
  have hwe : w5.setCell ⟨w.heap.size + 1, 0, none⟩ (.int .u8 ((5 : Nat) : Int)) = w6 := hw6.symm
  rw [← hk', hwe] at HT6
  rw [hwe] at HD6
  rw [← hw6] at HP6 HO6 ⊢
  clear hw6 hwe hk' hpb hpr HO5 HD5 HT5 HSZ z0 c0 HKF
  obtain ⟨⟨c0, c1, c2, c3, c4, c5, c6⟩, _⟩ := hdr_at HT6.out.2.1
  obtain ⟨⟨p0, p1⟩, _⟩ := page_at HP6.out
  obtain ⟨g, hg⟩ : ∃ g : PG, g = ⟨d, O⟩ := ⟨_, rfl⟩
  have HG := Lib.hid hg
  have hba := bel_alloc (Below.refl _ w6) (.cells #[.slice d.a d.n d.c, .slice O.a O.n O.c] 64)
  have HPG : Hid (PagesL (w6.alloc (.cells #[.slice d.a d.n d.c, .slice O.a O.n O.c] 64)) (some ⟨w6.heap.size, 0, none⟩) [g]) := Lib.hid ⟨fun _ => ⟨_, 0, rfl, fun i hi => by
      obtain rfl : i = 0 := by simpa using hi
      rw [hg]
      exact page_box w6 _ _ _⟩, fun q hq => by
      rw [List.mem_singleton.1 hq, hg]
      exact ⟨HD6.out.step hba, HO6.out.step hba⟩⟩
  have HGL : Hid (∀ q ∈ [g], q.d.n ≤ 1000 ∧ q.o.n ≤ 1000) := Lib.hid fun q hq => by
    have := HON.out
    rw [List.mem_singleton.1 hq, hg]
    exact ⟨by simp only; omega, by simp only; omega⟩
  have HOP : Hid (Calls Try.prog 39 #[.agg #[.int .u8 (k'.ki : Int), .int .u32 (k'.ep : Int), .int .u32 (k'.ba : Int), .int .u16 (k'.ix : Int), .int .u16 (k'.ct : Int), .int .u32 (k'.bl : Int), .int .u32 (k'.mo : Int)], .slice (some ⟨w6.heap.size, 0, none⟩) 1 1] (w6.alloc (.cells #[.slice d.a d.n d.c, .slice O.a O.n O.c] 64)) (OfRet k' [g] _)) := Lib.hid (of_pages k' HKF'.out _ 1 1 [g] _ rfl HPG.out (by omega) HGL.out)
  clear hg hba
  go_wp2_with fail
  ((with_reducible refine HOP.out.mono ?_))
  intro e w8 hr
  obtain ⟨D, Ow, rfl, hdl, hol, hdk, hok, hdn2, hon2, hb⟩ := hr
  have hb6 := (bel_alloc (Below.refl _ w6) (.cells #[.slice d.a d.n d.c, .slice O.a O.n O.c] 64)).trans (hb.mono (by simp))
  have HP8 := Lib.hid (blk_step HP6.out hb6)
  have HT8 := Lib.hid (HT6.out.step hb6)
  have HD8 := Lib.hid (HD6.out.step hb6)
  have HO8 := Lib.hid (HO6.out.step hb6)
  have HDW := Lib.hid hdk
  have HOW := Lib.hid hok
  have HDL := Lib.hid hdl
  have HOL2 := Lib.hid hol
  have HDN := Lib.hid hdn2
  have HON2 := Lib.hid hon2
  clear hb hb6 hdl hol hdk hok hdn2 hon2 HP6 HT6 HD6 HO6 HPG HGL c0 c1 c2 c3 c4 c5 c6 p0 p1
  go_upto_region 7 with fail
  have HSE : Hid (Sealed [g] d.n) := Lib.hid ⟨fun q hq => by rw [List.mem_singleton.1 hq, HG.out]; exact HD.out.1.1, fun q hq => by rw [List.mem_singleton.1 hq, HG.out]; exact ⟨h', HHF.out, HHM.out, HOL.out⟩⟩
  obtain ⟨y, hy⟩ : ∃ y : PG, y = ⟨D, Ow⟩ := ⟨_, rfl⟩
  have hyd : y.d.l = xorL (dsOf [g]) := by rw [hy]; exact HDL.out
  have hyo : y.o.l = sealB k' (xorL (dsOf [g])) (xorL (hsOf [g])) := by rw [hy]; exact HOL2.out
  have hr0 : restOf [g] 0 = [] := rfl
  have hok1 := with_ok HKF'.out HK5.out hyd hyo
  have hok2 := back_ok HSE.out (k := 0) (by simp) hyd hyo
  have hbd := back_d HSE.out (k := 0) (by simp) hyd
  have hbo := back_o HSE.out (k := 0) (by simp) hyo
  rw [hr0] at hok2 hbd hbo
  have hgg : [g].getD 0 PG.nil = ⟨d, O⟩ := HG.out
  rw [hgg] at hbd hbo
  have HBD := Lib.hid hbd
  have HBO := Lib.hid hbo
  have HX1 : Hid (D.l = d.l) := Lib.hid (by rw [HDL.out, HG.out]; exact xor_one d.l)
  have hpb := heap_alloc_new w8 (.cells #[.slice D.a D.n D.c, .slice Ow.a Ow.n Ow.c] 64)
  have hba := bel_alloc (Below.refl _ w8) (.cells #[.slice D.a D.n D.c, .slice Ow.a Ow.n Ow.c] 64)
  obtain ⟨w9, hw9⟩ : ∃ x, x = w8.alloc (.cells #[.slice D.a D.n D.c, .slice Ow.a Ow.n Ow.c] 64) := ⟨_, rfl⟩
  rw [← hw9] at hpb hba ⊢
  clear hw9
  have HPB := Lib.hid hpb
  have HP9 := Lib.hid (blk_step HP8.out hba)
  have HB9 := Lib.hid (bel_trans HT8.out.2.2 hba)
  have HD9 := Lib.hid (HD8.out.step hba)
  have HO9 := Lib.hid (HO8.out.step hba)
  have HDW9 := Lib.hid (HDW.out.step hba)
  have HOW9 := Lib.hid (HOW.out.step hba)
  obtain ⟨⟨p0, p1⟩, _⟩ := page_at HPB.out
  have HMI : Hid (Calls Try.prog 42 #[.agg #[.slice D.a D.n D.c, .slice Ow.a Ow.n Ow.c], .slice none 0 0] w9 (MissRet ⟨D, Ow⟩ [] w9)) := Lib.hid (by
    have h := missing_yes y none 0 0 [] w9 rfl (by rw [hy]; exact ⟨HDW9.out, HOW9.out⟩) (pagesL_nil _) (by omega) (by rw [hy]; exact ⟨HDN.out, HON2.out⟩) (fun q hq => by cases hq) hok1.1 hok1.2 hok2
    rw [hy] at h
    exact h)
  rw [hy] at HBD HBO
  clear hpb hba hok1 hok2 hbd hbo hgg hyd hyo hr0 hy HP8 HT8 HD8 HO8 HDW HOW HSE HOP
  go_wp2_with fail
  ((with_reducible refine HMI.out.mono ?_))
  intro e w10 hr
  obtain ⟨D2, O2, rfl, hdl, hol, hdk, hok, hb⟩ := hr
  have HPB10 := Lib.hid (blk_step HPB.out hb)
  have HP10 := Lib.hid (blk_step HP9.out hb)
  have HB10 := Lib.hid (bel_trans HB9.out hb)
  have HD10 := Lib.hid (HD9.out.step hb)
  have HO10 := Lib.hid (HO9.out.step hb)
  have HDW10 := Lib.hid (HDW9.out.step hb)
  have HX2 : Hid (D2.l = d.l) := Lib.hid (by rw [hdl]; exact HBD.out)
  have HX3 : Hid (O2.l = O.l) := Lib.hid (by rw [hol]; exact HBO.out)
  have HD2 := Lib.hid hdk
  have HO2 := Lib.hid hok
  clear hb hdl hol hdk hok HPB HP9 HB9 HD9 HO9 HDW9 HOW9 p0 p1 HMI
  go_upto_region 8 with fail
  have hpb := heap_alloc_new w10 (.cells #[.slice D2.a D2.n D2.c, .slice O2.a O2.n O2.c] 64)
  have hba := bel_alloc (Below.refl _ w10) (.cells #[.slice D2.a D2.n D2.c, .slice O2.a O2.n O2.c] 64)
  obtain ⟨w11, hw11⟩ : ∃ x, x = w10.alloc (.cells #[.slice D2.a D2.n D2.c, .slice O2.a O2.n O2.c] 64) := ⟨_, rfl⟩
  rw [← hw11] at hpb hba ⊢
  clear hw11
  have HS1 := Lib.hid (sameB_any D.a D.n D.c d.a d.n d.c D.l d.l w11 (HDW10.out.step hba).1 (HD10.out.step hba).1)
  have HS2 := Lib.hid (sameB_any D2.a D2.n D2.c d.a d.n d.c D2.l d.l w11 (HD2.out.step hba).1 (HD10.out.step hba).1)
  have HS3 := Lib.hid (sameB_any O2.a O2.n O2.c O.a O.n O.c O2.l O.l w11 (HO2.out.step hba).1 (HO10.out.step hba).1)
  rw [HX1.out] at HS1
  rw [HX2.out] at HS2
  rw [HX3.out] at HS3
  obtain ⟨⟨p0, p1⟩, _⟩ := page_at hpb
  obtain ⟨⟨q0, q1⟩, _⟩ := page_at (blk_step HPB10.out hba)
  obtain ⟨⟨r0, r1⟩, _⟩ := page_at (blk_step HP10.out hba)
  have HB11 := Lib.hid (bel_trans HB10.out hba)
  clear hpb hba
  go_wp2_with fail
  ((with_reducible refine HS1.out.mono ?_))
  rintro e w12 ⟨rfl, rfl⟩
  simp only [decide_true]
  go_wp2_with fail
  ((with_reducible refine HS2.out.mono ?_))
  rintro e w13 ⟨rfl, rfl⟩
  simp only [decide_true]
  go_wp2_with fail
  ((with_reducible refine HS3.out.mono ?_))
  rintro e w14 ⟨rfl, rfl⟩
  simp only [decide_true]
  go_wp2
  go_ret
  exact ⟨rfl, HB11.out⟩

theorem parityOne_walk (h k : RH) (a : Option Addr) (n c : Nat) (l : List Nat) (w : World) (hf : h.Fits) (hkf : k.Fits) (hin : InB w a n c l) :
    Calls Try.prog 15 #[.agg h.cells, .agg k.cells, .slice a n c] w fun e w' => e = .returned (.bool true) ∧ Below w.heap.size w w' :=
  parityOne_in h k hf hkf ⟨a, n, c, l⟩ w hin (Nat.le_trans hin.2.1 hin.2.2.1)

end Go.Proofs.Ytmggjknljbpbgaa
