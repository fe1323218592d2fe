/- MemberPlains: walked. -/
import Derived.Test.YtpaaolifpcgoeaaMemPl
namespace Go.Proofs.Ytpaaolifpcgoeaa
open Go.RowKit Go.Deep

theorem wbel1 {w x : World} {o : Obj} (h : Below (w.alloc o).drew.heap.size (w.alloc o).drew x) : Below w.heap.size w x :=
  (bel_alloc (Below.refl w.heap.size w) o).drew.trans (h.mono (by simp))
set_option maxRecDepth 100000 in
set_option maxHeartbeats 8000000 in
theorem memberPlains_any (ch sw dd dn : Int) (sq : Nat) (w : World) (hsq : sq < 4294967296) :
    Calls Try.prog 3 #[.agg #[.int .i64 ch, .int .i64 sw, .int .i64 dd, .int .i64 dn, .int .u32 (sq : Int)]] w fun e w' => e = .returned (.bool true) ∧ Below w.heap.size w w' := by
  have HF := Lib.hid memFirst0_any
  have HSH := Lib.hid fun x : World => memShape_any ch x
  obtain ⟨_, hn3, hn16⟩ := mod14_eq ch
  obtain ⟨n, hnn⟩ : ∃ n, n = memN ch := ⟨_, rfl⟩
  rw [← hnn] at HSH hn3 hn16
  obtain ⟨hkn, v0, _, v2, v3⟩ := modn1 n sw hn16
  obtain ⟨k, hke⟩ : ∃ i, i = modM (n + 1) sw := ⟨_, rfl⟩
  rw [← hke] at v2 v3 hkn
  have HV := Lib.hid (And.intro v0 (And.intro v2 v3))
  clear v0 v2 v3
  have HFI := Lib.hid fun x : World => memFirst_any n 20 6 256 x (by omega)
  clear hnn hke
  go_enter Try.func3, Try.ntmps3
  go_upto_region 1 with fail
  go_region
  go_wp2_with fail
  ((with_reducible refine (HF.out _).mono ?_))
  rintro e w1 ⟨rfl, hb1⟩
  have HB1 : Hid (Below w.heap.size w w1) := Lib.hid (wbel1 hb1)
  clear hb1
  go_wp2_with fail
  ((with_reducible refine (HSH.out _).mono ?_))
  rintro e w2 ⟨rfl, hb2⟩
  have HB2 : Hid (Below w.heap.size w w2) := Lib.hid (bel_trans HB1.out hb2)
  clear hb2 HB1
  go_upto_region 5 with fail
  have g3 := heap_alloc_new w2 (.cells #[.int .i64 (n : Int), .int .i64 20, .int .i64 6, .int .i64 256] 27)
  have hb3 := bel_alloc HB2.out (.cells #[.int .i64 (n : Int), .int .i64 20, .int .i64 6, .int .i64 256] 27)
  obtain ⟨w3, hw3⟩ : ∃ x, x = w2.alloc (.cells #[.int .i64 (n : Int), .int .i64 20, .int .i64 6, .int .i64 256] 27) := ⟨_, rfl⟩
  obtain ⟨gb, hgb⟩ : ∃ x, x = w2.heap.size := ⟨_, rfl⟩
  have hg3 : gb < w3.heap.size := by rw [hw3, hgb]; simp
  rw [← hw3] at g3 hb3 ⊢
  rw [← hgb] at g3 ⊢
  have G3 := Lib.hid g3
  have HB3 := Lib.hid (And.intro hb3 hg3)
  clear hw3 hgb g3 hb3 hg3 HB2
  obtain ⟨y0, y1, y2, y3⟩ := mfour_at G3.out
  go_wp2_with fail
  ((with_reducible refine (HFI.out _).mono ?_))
  rintro e w4 ⟨v, rfl, ho4, hb4⟩
  have ho4' := ho4.2
  rw [firstL_len] at ho4'
  rcases ho4' with ⟨_, h0⟩ | ⟨eb, c, cur, rfl, hge, hbk, _⟩
  · omega
  have hebl : eb < w4.heap.size := (Array.getElem?_eq_some_iff.1 hbk).1
  have hM : ∀ x, x = w4.alloc (.cells #[.int .u32 1, .slice (some ⟨eb, 0, none⟩) n c, .int .i64 (n : Int), .int .i64 255, .int .i64 0] 31) → MPS w w4.heap.size gb eb n c 1 (firstL n) (n : Int) 255 0 x := fun x hx => by
    have hb5 := bel_alloc (Below.refl w4.heap.size w4) (.cells #[.int .u32 1, .slice (some ⟨eb, 0, none⟩) n c, .int .i64 (n : Int), .int .i64 255, .int .i64 0] 31)
    have h34 := hb4.size
    have h03 := HB3.out.1.size
    have h3g := HB3.out.2
    rw [hx]
    exact ⟨heap_alloc_new _ _, (hb5.block gb (by omega)).trans ((hb4.block gb (by omega)).trans G3.out), ownI_mono (ownI_below ho4 hb5) h03, (HB3.out.1.trans (hb4.mono h03)).trans (hb5.mono (by omega)), ⟨by omega, by omega, by omega⟩, ⟨by omega, by omega⟩, firstL_len n⟩
  have HMF := Lib.hid hM
  clear y0 y1 y2 y3 ho4 hbk hM hb4 hge hebl
  go_upto_region 6 with fail
  obtain ⟨w5, hw5⟩ : ∃ x, x = w4.alloc (.cells #[.int .u32 1, .slice (some ⟨eb, 0, none⟩) n c, .int .i64 (n : Int), .int .i64 255, .int .i64 0] 31) := ⟨_, rfl⟩
  have HM := Lib.hid (HMF.out w5 hw5)
  rw [← hw5]
  obtain ⟨sb, hsb⟩ : ∃ x, x = w4.heap.size := ⟨_, rfl⟩
  rw [← hsb] at HM ⊢
  clear HMF hw5 hsb HB3 G3
  obtain ⟨y0, y1, y2, y3⟩ := mfour_at HM.out.geo
  obtain ⟨z0, z1, z2, z3, z4⟩ := five_at HM.out.set
  have zf := mfree_at HM.out.set
  have zf0 := zf 0
  have zf2 := zf 2
  clear zf
  obtain ⟨tk, htk⟩ : ∃ b, b = decide (k < n) := ⟨_, rfl⟩
  have tkq : decide (k < n) = tk := htk.symm
  have HTK := Lib.hid htk
  clear htk
  obtain ⟨v0, v2, v3⟩ := HV.out
  go_upto_if 43 with fail
  clear v0 v2 v3 HV
  generalize (IntKind.u64.wrap sw).tmod ((n : Int) + 1) = ut
  generalize IntKind.u64.wrap sw = ux
  go_cut [] (fun wx => MPS w sb gb eb n c 1 (intsN (chipsL n k)) (k : Int) 255 0 wx)
  case first =>
    by_cases hk : k < n
    · obtain rfl : tk = true := by rw [HTK.out]; simpa using hk
      have k0 : (0 : Int) ≤ (k : Int) := by omega
      have k1 : (k : Int) < (n : Int) := by omega
      obtain ⟨ck, fk⟩ := ownI_at HM.out.own (firstL_len n) hk
      rw [firstL_at n k hk] at ck
      have hML := HM.out.setL k (n : Int)
      have z2' := (five_at hML.set).2.2.1
      have zf2' := mfree_at hML.set 2
      have HM6 : Hid (MPS w sb gb eb n c 1 (intsN (chipsL n k)) (k : Int) 255 0 ((w5.setCell ⟨eb, k, none⟩ (.int .i64 (n : Int))).setCell ⟨sb, 2, none⟩ (.int .i64 (k : Int))).drew) := Lib.hid (by
        have h2 := (hML.setS 2 (.int .i64 (k : Int)) (sq' := 1) (sp' := (k : Int)) (de' := 255) (dn' := 0) rfl).step (Below.refl _ _).drew
        rw [chipsL_set n k hk] at h2
        exact h2)
      clear hML tkq
      go_upto_region 8 with fail
      go_still_tail 11, (by kernel_rfl)
      change wpList _ _ _ _ _ w5.drew
      go_wp2_with fail
      go_meet
      exact HM6.out
    · obtain rfl : tk = false := by rw [HTK.out]; simp; omega
      obtain rfl : k = n := by omega
      have HM6 : Hid (MPS w sb gb eb k c 1 (intsN (chipsL k k)) (k : Int) 255 0 w5) := Lib.hid (by rw [chipsL_all]; exact HM.out)
      clear tkq
      go_wp2_with fail
      go_meet
      exact HM6.out
  case rest =>
  obtain ⟨w6, hw6⟩ : ∃ x, x = wc := ⟨_, rfl⟩
  rw [← hw6] at hcut ⊢
  have HM6 := Lib.hid hcut
  clear hcut hw6 HM z0 z1 z2 z3 z4 y0 y1 y2 y3 zf0 zf2 tkq HTK
  have HM7 : Hid (MPS w sb gb eb n c sq (intsN (chipsL n k)) (k : Int) 255 0 (w6.setCell ⟨sb, 0, none⟩ (.int .u32 (sq : Int)))) := Lib.hid (HM6.out.setS 0 (.int .u32 (sq : Int)) (sq' := sq) (sp' := (k : Int)) (de' := 255) (dn' := 0) rfl)
  have z0 := (five_at HM6.out.set).1
  have zf0 := mfree_at HM6.out.set 0
  obtain ⟨td, htd⟩ : ∃ b, b = decide ((0 : Int) ≤ dd) := ⟨_, rfl⟩
  have tdq : decide ((0 : Int) ≤ dd) = td := htd.symm
  have HTD := Lib.hid htd
  clear htd
  go_upto_if 59 with fail
  obtain ⟨w7, hw7⟩ : ∃ x, x = w6.setCell ⟨sb, 0, none⟩ (.int .u32 (sq : Int)) := ⟨_, rfl⟩
  rw [← hw7] at HM7 ⊢
  clear hw7 z0 zf0 HM6
  go_cut [] (fun wx => ∃ de dm : Nat, (de = 255 ∧ dm = 0 ∨ de < n ∧ dm < 16) ∧ MPS w sb gb eb n c sq (intsN (chipsL n k)) (k : Int) (de : Int) (dm : Int) wx)
  case first =>
    by_cases hd : 0 ≤ dd
    · obtain ⟨de, hdl, e1⟩ := tmod_small dd n hd (by omega)
      obtain ⟨dm, hml, e2, e3⟩ := mod16 dn
      have hdd : de = 255 ∧ dm = 0 ∨ de < n ∧ dm < 16 := .inr ⟨hdl, hml⟩
      obtain rfl : td = true := by rw [HTD.out]; simpa using hd
      have hM8 := (HM7.out.setS 3 (.int .i64 (de : Int)) (sq' := sq) (sp' := (k : Int)) (de' := (de : Int)) (dn' := 0) rfl)
      have z3 := (five_at HM7.out.set).2.2.2.1
      have zf3 := mfree_at HM7.out.set 3
      have z4 := (five_at hM8.set).2.2.2.2
      have zf4 := mfree_at hM8.set 4
      have HM8 := Lib.hid (hM8.setS 4 (.int .i64 (dm : Int)) (sq' := sq) (sp' := (k : Int)) (de' := (de : Int)) (dn' := (dm : Int)) rfl)
      obtain ⟨y0, y1, y2, y3⟩ := mfour_at HM7.out.geo
      clear hM8
      clear tdq
      go_wp2_with fail
      go_meet
      exact ⟨de, dm, hdd, HM8.out⟩
    · obtain rfl : td = false := by rw [HTD.out]; simpa using hd
      clear tdq
      go_wp2_with fail
      go_meet
      exact ⟨255, 0, .inl ⟨rfl, rfl⟩, HM7.out⟩
  case rest =>
  obtain ⟨de, dm, hdd, hM8⟩ := hcut
  obtain ⟨w8, hw8⟩ : ∃ x, x = wc := ⟨_, rfl⟩
  rw [← hw8] at hM8 ⊢
  have HM8 := Lib.hid hM8
  clear hM8 hw8 HM7 tdq HTD
  have hset := chipsL_ok n k de dm hn16 hkn hdd
  have hlt : ∀ x ∈ chipsL n k, x < 256 := fun x hx => by have := chipsL_mem n k x hx; omega
  have hde : de < 256 := by omega
  have hdm : dm < 256 := by omega
  have HIN := Lib.hid (intsN_in hlt)
  have hrow : ∀ x, MPS w sb gb eb n c sq (intsN (chipsL n k)) (k : Int) (de : Int) (dm : Int) x → RowI x (some ⟨eb, 0, none⟩) n c (intsN (chipsL n k)) := fun x hx => by
    obtain ⟨a', c', e, hr, _⟩ := ownI_row hx.own HIN.out
    rw [hx.len] at e hr
    cases e
    exact hr
  obtain ⟨D, hD⟩ : ∃ D, D = padTo (memB sq (chipsL n k) k de dm 20 6 256) 256 := ⟨_, rfl⟩
  have hDl : D.length = 256 := by rw [hD]; exact page_len _ _ _ _ _ (by rw [chipsL_len]; omega)
  have HPG : Hid (Calls Try.prog 8 #[.agg #[.int .u32 (sq : Int), .slice (some ⟨eb, 0, none⟩) n c, .int .i64 (k : Int), .int .i64 (de : Int), .int .i64 (dm : Int)], .agg #[.int .i64 (n : Int), .int .i64 20, .int .i64 6, .int .i64 256]] w8 (MemPageRet w8 D (sealB (memH sq) D []))) := Lib.hid (by
    rw [hD]
    exact memPage_any sq _ n c (chipsL n k) k de dm w8 hsq (hrow w8 HM8.out) hn3 hn16 hlt (by omega) hde hdm hset)
  have HPA : Hid (∀ (x : World) (a a2 : Option Addr) (cp c2 : Nat), Row x a 256 D → (a = none → cp = 0) → Row x a2 64 (sealB (memH sq) D []) → 64 ≤ c2 → c2 ≤ maxLen → Calls Try.prog 9 #[.agg #[.int .i64 (n : Int), .int .i64 20, .int .i64 6, .int .i64 256], .slice a 256 cp, .slice a2 64 c2] x (MemParseRet x sq (chipsL n k) k de dm)) := Lib.hid fun x a a2 cp c2 h1 h2 h3 h4 h5 => by
    rw [hD] at h1 h3
    exact memParse_ok sq n (chipsL n k) k de dm a a2 cp c2 x hsq (chipsL_len _ _) hn3 hn16 hlt (by omega) hset h1 h2 h3 h4 h5
  have HRW := Lib.hid hrow
  have HCK : Hid (∀ (x : World), RowI x (some ⟨eb, 0, none⟩) n c (intsN (chipsL n k)) → Calls Try.prog 12 #[.agg #[.int .u32 (sq : Int), .slice (some ⟨eb, 0, none⟩) n c, .int .i64 (k : Int), .int .i64 (de : Int), .int .i64 (dm : Int)], .agg #[.int .i64 (n : Int), .int .i64 20, .int .i64 6, .int .i64 256]] x fun e w' => e = .returned (.int .i64 0) ∧ Below x.heap.size x w') := Lib.hid fun x hr => setCheck_any sq _ n c _ _ _ n 20 6 256 _ x hr (by unfold GoodG; omega) (by unfold In64; omega) 0 (by rw [if_pos hset])
  have HDL := Lib.hid hDl
  clear hrow hD hDl hset hlt hde hdm hdd
  obtain ⟨z0, z1, z2, z3, z4⟩ := five_at HM8.out.set
  obtain ⟨y0, y1, y2, y3⟩ := mfour_at HM8.out.geo
  go_wp2_with fail
  ((with_reducible refine HPG.out.mono ?_))
  rintro e w9 ⟨dv, ov, rfl, hdo, hoo, hb9⟩
  obtain ⟨da, dc, rfl, hrd, _⟩ := row_of_own hdo
  obtain ⟨oa, oc, rfl, hro, _⟩ := row_of_own hoo
  have hcp := own_caps hoo
  have hnc := own_nocap hdo
  rw [HDL.out] at hrd ⊢
  rw [sealB_len] at hro hcp ⊢
  have HM9 := Lib.hid (HM8.out.step hb9)
  have HP9 := Lib.hid (HPA.out w9 da oa dc oc hrd hnc hro hcp.1 hcp.2)
  clear hdo hoo hb9 hrd hro hcp hnc z0 z1 z2 z3 z4 y0 y1 y2 y3 HPA HPG HM8
  obtain ⟨y0, y1, y2, y3⟩ := mfour_at HM9.out.geo
  go_wp2_with fail
  ((with_reducible refine HP9.out.mono ?_))
  rintro e wa ⟨cv, rfl, hoc, hba⟩
  obtain ⟨ta, tc, rfl, hrt, _⟩ := ownI_row hoc HIN.out
  have hil : (intsN (chipsL n k)).length = n := HM9.out.len
  rw [hil] at hrt ⊢
  have HMA := Lib.hid (HM9.out.step hba)
  have HRT := Lib.hid hrt
  clear hoc hba hrt hil y0 y1 y2 y3 HM9 HP9 HIN
  go_upto_region 14 with fail
  have tbx := heap_alloc_new wa (.cells #[.int .u32 (sq : Int), .slice ta n tc, .int .i64 (k : Int), .int .i64 (de : Int), .int .i64 (dm : Int)] 31)
  have hbb := bel_alloc (Below.refl wa.heap.size wa) (.cells #[.int .u32 (sq : Int), .slice ta n tc, .int .i64 (k : Int), .int .i64 (de : Int), .int .i64 (dm : Int)] 31)
  obtain ⟨wb, hwb⟩ : ∃ x, x = wa.alloc (.cells #[.int .u32 (sq : Int), .slice ta n tc, .int .i64 (k : Int), .int .i64 (de : Int), .int .i64 (dm : Int)] 31) := ⟨_, rfl⟩
  obtain ⟨tb, htb⟩ : ∃ x, x = wa.heap.size := ⟨_, rfl⟩
  rw [← hwb] at tbx hbb ⊢
  rw [← htb] at tbx ⊢
  have HMB := Lib.hid (HMA.out.step hbb)
  have HTB := Lib.hid tbx
  have HRB := Lib.hid (rowI_below HRT.out hbb)
  clear hwb htb tbx hbb HMA HRT
  obtain ⟨C, hCd⟩ : ∃ C : World → Prop, (∀ x, C x → Below wb.heap.size wb x) ∧ (∀ x, Below wb.heap.size wb x → C x) := ⟨_, fun _ h => h, fun _ h => h⟩
  have hC0 := hCd.2 _ (Below.refl wb.heap.size wb).drew
  haveI hne : Nonempty (Wd C) := ⟨⟨_, hC0⟩⟩
  have HCD := Lib.hid hCd
  clear hCd
  have HSTP : Hid (∀ y : Wd C, MPS w sb gb eb n c sq (intsN (chipsL n k)) (k : Int) (de : Int) (dm : Int) y.w) := Lib.hid fun y => HMB.out.step (HCD.out.1 _ y.ok)
  have HTP : Hid (∀ y : Wd C, y.w.heap[tb]? = some (.cells #[.int .u32 (sq : Int), .slice ta n tc, .int .i64 (k : Int), .int .i64 (de : Int), .int .i64 (dm : Int)] 31 (0, 0))) := Lib.hid fun y => ((HCD.out.1 _ y.ok).block _ (Array.getElem?_eq_some_iff.1 HTB.out).1).trans HTB.out
  have f0 : ∀ y : Wd C, y.w.cell? ⟨tb, 0, none⟩ = some (.int .u32 (sq : Int)) := fun y => (five_at (HTP.out y)).1
  have f1 : ∀ y : Wd C, y.w.cell? ⟨tb, 1, none⟩ = some (.slice ta n tc) := fun y => (five_at (HTP.out y)).2.1
  have f2 : ∀ y : Wd C, y.w.cell? ⟨tb, 2, none⟩ = some (.int .i64 (k : Int)) := fun y => (five_at (HTP.out y)).2.2.1
  have f3 : ∀ y : Wd C, y.w.cell? ⟨tb, 3, none⟩ = some (.int .i64 (de : Int)) := fun y => (five_at (HTP.out y)).2.2.2.1
  have f4 : ∀ y : Wd C, y.w.cell? ⟨tb, 4, none⟩ = some (.int .i64 (dm : Int)) := fun y => (five_at (HTP.out y)).2.2.2.2
  have s0 : ∀ y : Wd C, y.w.cell? ⟨sb, 0, none⟩ = some (.int .u32 (sq : Int)) := fun y => (five_at (HSTP.out y).set).1
  have s1 : ∀ y : Wd C, y.w.cell? ⟨sb, 1, none⟩ = some (.slice (some ⟨eb, 0, none⟩) n c) := fun y => (five_at (HSTP.out y).set).2.1
  have s2 : ∀ y : Wd C, y.w.cell? ⟨sb, 2, none⟩ = some (.int .i64 (k : Int)) := fun y => (five_at (HSTP.out y).set).2.2.1
  have s3 : ∀ y : Wd C, y.w.cell? ⟨sb, 3, none⟩ = some (.int .i64 (de : Int)) := fun y => (five_at (HSTP.out y).set).2.2.2.1
  have s4 : ∀ y : Wd C, y.w.cell? ⟨sb, 4, none⟩ = some (.int .i64 (dm : Int)) := fun y => (five_at (HSTP.out y).set).2.2.2.2
  have g0 : ∀ y : Wd C, y.w.cell? ⟨gb, 0, none⟩ = some (.int .i64 (n : Int)) := fun y => (mfour_at (HSTP.out y).geo).1
  have g1 : ∀ y : Wd C, y.w.cell? ⟨gb, 1, none⟩ = some (.int .i64 20) := fun y => (mfour_at (HSTP.out y).geo).2.1
  have g2 : ∀ y : Wd C, y.w.cell? ⟨gb, 2, none⟩ = some (.int .i64 6) := fun y => (mfour_at (HSTP.out y).geo).2.2.1
  have g3 : ∀ y : Wd C, y.w.cell? ⟨gb, 3, none⟩ = some (.int .i64 256) := fun y => (mfour_at (HSTP.out y).geo).2.2.2
  have HST0 : Hid (∀ (y : Wd C) (z : World), Below y.w.heap.size y.w z → C z) := Lib.hid fun y z hb => HCD.out.2 _ (bel_trans (HCD.out.1 _ y.ok) hb)
  have HOF := Lib.hid fun (y : Wd C) (a' : Option Addr) (c' : Nat) => memOf_any (sq : Int) a' n c' (k : Int) (de : Int) (dm : Int) y.w (by omega) (by omega)
  have HSM := Lib.hid fun y : Wd C => memSame_yes (sq : Int) (k : Int) (de : Int) (dm : Int) ta (some ⟨eb, 0, none⟩) n tc c (intsN (chipsL n k)) y.w (rowI_below HRB.out (HCD.out.1 _ y.ok)) (HRW.out _ (HSTP.out y))
  have HCC := Lib.hid fun y : Wd C => HCK.out y.w (HRW.out _ (HSTP.out y))
  refine wp_region_wd C (by kernel_rfl) (by kernel_rfl) hC0 ?_
  repeat (go_big_quiet_step (first
    | (go_at_call 11; with_reducible exact Calls.wd (HST0.out _) (HOF.out _ _ _))
    | (go_at_call 10; with_reducible exact Calls.wd (HST0.out _) (HSM.out _))
    | (go_at_call 12; with_reducible exact Calls.wd (HST0.out _) (HCC.out _))))
  refine wpQuiet_nil ?_
  intro _ hw'
  obtain ⟨y, rfl⟩ := hw'
  have HY : Hid (Below w.heap.size w y.w) := Lib.hid (HSTP.out y).bel
  clear f0 f1 f2 f3 f4 s0 s1 s2 s3 s4 g0 g1 g2 g3
  go_wp2_with fail
  go_ret
  exact ⟨rfl, HY.out⟩
end Go.Proofs.Ytpaaolifpcgoeaa
