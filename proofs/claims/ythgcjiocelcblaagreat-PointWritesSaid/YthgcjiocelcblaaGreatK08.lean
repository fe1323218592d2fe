/- point.Decode's own function. -/
import Derived.Test.YthgcjiocelcblaaGreatK06
import Derived.Test.YthgcjiocelcblaaGreatK07
namespace Go.Proofs.YthgcjiocelcblaaGreat
open Go.RowKit

theorem ownU_base {B B' : Nat} {w : World} {v : Value} {l : List Nat} (h : OwnU B w v l) (hB : B' ≤ B) : OwnU B' w v l := by
  rcases h with ⟨e, h | ⟨g, cap, cur, a, b, c⟩⟩
  · exact ⟨e, .inl h⟩
  · exact ⟨e, .inr ⟨g, cap, cur, a, Nat.le_trans hB b, c⟩⟩
def SlV (v : Value) : Prop := ∃ a l c, v = .slice a l c
theorem slV_nil : SlV (.slice none 0 0) := ⟨_, _, _, rfl⟩
theorem ownU_sl {B : Nat} {w : World} {v : Value} {l : List Nat} (h : OwnU B w v l) : SlV v := by
  rcases h with ⟨e, ⟨h, _⟩ | ⟨g, cap, cur, a, b, c⟩⟩
  · exact ⟨_, _, _, h⟩
  · exact ⟨_, _, _, a⟩
def pCs (sq ba : Nat) (v1 v2 : Value) : Array Value := #[.int .u32 (sq : Int), .int .u32 (ba : Int), v1, v2]
def pBx (sq ba : Nat) (v1 v2 : Value) (z : Bool) : List (Array Value × TypeId) := [(pCs sq ba v1 v2, 25), (#[.bool z], 4)]
theorem pCs_no8 {sq ba : Nat} {v1 v2 : Value} (h1 : SlV v1) (h2 : SlV v2) (o q : Nat) (h : (pCs sq ba v1 v2)[o]? = some (.int .u8 (q : Int))) : False := by
  obtain ⟨_, _, _, rfl⟩ := h1
  obtain ⟨_, _, _, rfl⟩ := h2
  unfold pCs at h
  rcases (show o = 0 ∨ o = 1 ∨ o = 2 ∨ o = 3 ∨ 4 ≤ o by omega) with rfl | rfl | rfl | rfl | h2
  · simp at h
  · simp at h
  · simp at h
  · simp at h
  · rw [Array.getElem?_eq_none (by simpa using h2)] at h; cases h
theorem pbool_no8 (z : Bool) (o q : Nat) (h : (#[.bool z] : Array Value)[o]? = some (.int .u8 (q : Int))) : False := by
  rcases Nat.eq_zero_or_pos o with rfl | h2
  · simp at h
  · rw [Array.getElem?_eq_none (by simp; omega)] at h; cases h
section
variable {w W : World} {p pr pg H : Nat} {bx : List (Array Value × TypeId)} {x : World} {bs : List Nat} {sq ba : Nat} {v1 v2 : Value} {z : Bool}
theorem TkR.mono {H' : Nat} (hI : TkR w W p pr pg bx H x bs) (h : H ≤ H') : TkR w W p pr pg bx H' x bs := by
  obtain ⟨a, c, hr, hz⟩ := hI.lo
  exact ⟨hI.tk, a, c, hr, fun z e => Nat.lt_of_lt_of_le (hz z e) h⟩
theorem TkR.setB (hI : TkR w W p pr pg bx H x bs) (hp : p + bx.length ≤ pr) (hw : w.heap.size = p + bx.length) (i j : Nat) (v : Value) (cs : Array Value) (t : TypeId) (hi : bx[i]? = some (cs, t)) (bx' : List (Array Value × TypeId)) (hbx : bx.set i (cs.setIfInBounds j v, t) = bx') (hno : ∀ (o q : Nat), cs[o]? = some (Value.int .u8 (q : Int)) → False) {d : Nat} (hd : d = p + i) :
    TkR w W p pr pg bx' H (x.setCell ⟨d, j, none⟩ v) bs := by
  refine ⟨hI.tk.set hp hw i j v cs t hi bx' hbx (fun o q e => (hno o q e).elim) hd, ?_⟩
  have hil := (List.getElem?_eq_some_iff.1 hi).1
  have hbk := hI.tk.box i cs t hi
  subst hd
  obtain ⟨a, c, hr, hz⟩ := hI.lo
  exact ⟨a, c, rd_setB hr (by omega) (fun o q e => (hno o q (by simpa [World.cell?, hbk] using e)).elim) v, hz⟩
theorem TkR.pset (hI : TkR w W p pr pg (pBx sq ba v1 v2 z) H x bs) (hp : p + 2 ≤ pr) (hw : w.heap.size = p + 2) (h1 : SlV v1) (h2 : SlV v2) (j : Nat) (v : Value) (sq' ba' : Nat) (v1' v2' : Value) (h : (pCs sq ba v1 v2).setIfInBounds j v = pCs sq' ba' v1' v2') : TkR w W p pr pg (pBx sq' ba' v1' v2' z) H (x.setCell ⟨p, j, none⟩ v) bs :=
  hI.setB hp hw 0 j v _ _ rfl _ (by rw [h]; rfl) (fun o q e => pCs_no8 h1 h2 o q e) rfl
theorem TkR.pfin (hI : TkR w W p pr pg (pBx sq ba v1 v2 z) H x bs) (hp : p + 2 ≤ pr) (hw : w.heap.size = p + 2) (z' : Bool) : TkR w W p pr pg (pBx sq ba v1 v2 z') H (x.setCell ⟨p + 1, 0, none⟩ (.bool z')) bs :=
  hI.setB hp hw 1 0 _ #[.bool z] _ rfl _ rfl (fun o q e => pbool_no8 _ o q e) rfl
theorem TkR.pu32 {k : Nat} (hI : TkR w W p pr pg (pBx sq ba v1 v2 z) H x (bs.drop k)) (hp : p + 2 ≤ pr) (hk : k + 4 ≤ bs.length) :
    Calls Tryz.prog 30 #[.pointer (some ⟨pr, 0, none⟩)] x fun e y => e = .returned (.int .u32 ((leVal ((bs.drop k).take 4) : Nat) : Int)) ∧ TkR w W p pr pg (pBx sq ba v1 v2 z) H y (bs.drop (k + 4)) ∧ TSameBut x pr y := hI.u32 hp hk
theorem TkR.ptake {k many : Nat} (hI : TkR w W p pr pg (pBx sq ba v1 v2 z) H x (bs.drop k)) (hH : H ≤ x.heap.size) (hp : p + 2 ≤ pr) (hpr : pr < x.heap.size) (hW : W.heap.size ≤ x.heap.size) (hk : k + 4 * many ≤ bs.length) (hl : bs.length ≤ 100000) :
    Calls Tryz.prog 31 #[.pointer (some ⟨pr, 0, none⟩), .int .u32 (many : Int)] x fun e y => ∃ v, e = .returned v ∧ OwnU x.heap.size y v (numsU bs k many) ∧ TkR w W p pr pg (pBx sq ba v1 v2 z) x.heap.size y (bs.drop (k + 4 * many)) ∧ x.heap.size ≤ y.heap.size ∧ ∀ j, j < x.heap.size → j ≠ pr → y.heap[j]? = x.heap[j]? := ptTake_ok (hI.mono hH) hp hpr hW hk hl
theorem TkR.pzero {k : Nat} (hI : TkR w W p pr pg (pBx sq ba v1 v2 z) H x (bs.drop k)) (hH : H ≤ x.heap.size) (hp : p + 2 ≤ pr) (hpr : pr < x.heap.size) :
    Calls Tryz.prog 32 #[.pointer (some ⟨pr, 0, none⟩)] x fun e y => e = .returned (.bool (zeros (bs.drop k))) ∧ TkR w W p pr pg (pBx sq ba v1 v2 z) x.heap.size y (bs.drop k) ∧ Below x.heap.size x y := by
  obtain ⟨a, c, hr⟩ := hI.tk.rd
  exact (rZero_any hr).mono fun e y h => ⟨h.1, ⟨hI.tk.step hp h.2, rdLow_far (hI.mono hH).lo hpr h.2⟩, h.2⟩
theorem TkR.pCells (hI : TkR w W p pr pg (pBx sq ba v1 v2 z) H x bs) : (x.cell? ⟨p, 0, none⟩ = some (.int .u32 (sq : Int)) ∧ x.cell? ⟨p, 1, none⟩ = some (.int .u32 (ba : Int)) ∧ x.cell? ⟨p, 2, none⟩ = some v1 ∧ x.cell? ⟨p, 3, none⟩ = some v2 ∧ x.cell? ⟨p + 1, 0, none⟩ = some (.bool z)) ∧ x.frozen? ⟨p, 0, none⟩ = false ∧ x.frozen? ⟨p, 1, none⟩ = false ∧ x.frozen? ⟨p, 2, none⟩ = false ∧ x.frozen? ⟨p, 3, none⟩ = false ∧ x.frozen? ⟨p + 1, 0, none⟩ = false := by
  have h := hI.tk.box 0 _ _ rfl
  have h2 := hI.tk.box 1 _ _ rfl
  rw [Nat.add_zero] at h
  unfold pCs at h
  refine ⟨⟨?_, ?_, ?_, ?_, ?_⟩, ?_, ?_, ?_, ?_, ?_⟩ <;> simp [World.cell?, World.frozen?, h, h2]
end
/-- A point that was taken: its numbers, and rows of the call's own. -/
def PtAt (w : World) (p sq ba : Nat) (l1 l2 : List Nat) (z : Bool) (x : World) : Prop :=
  ∃ v1 v2, x.heap[p]? = some (.cells (pCs sq ba v1 v2) 25 (0, 0)) ∧ x.heap[p + 1]? = some (.cells #[.bool z] 4 (0, 0)) ∧ OwnU (w.heap.size + 3) x v1 l1 ∧ OwnU (w.heap.size + 3) x v2 l2 ∧ Below p w x
/-- What bytes say of a point. -/
def ptN (bs : List Nat) (k : Nat) : Nat := leVal ((bs.drop (4 * k)).take 4)
set_option maxRecDepth 100000 in
set_option maxHeartbeats 4000000 in
theorem ptBy_ok (w : World) (p : Nat) (bs : List Nat) (hl : bs.length ≤ 100000) (h16 : 16 ≤ bs.length) (hk : 16 + 4 * ptN bs 2 + 4 * ptN bs 3 ≤ bs.length) (hw : w.heap.size = p + 2)
    (hb0 : w.heap[p]? = some (.cells (pCs 0 0 (.slice none 0 0) (.slice none 0 0)) 25 (0, 0))) (hb1 : w.heap[p + 1]? = some (.cells #[.bool false] 4 (0, 0))) :
    ByOk 29 #[.pointer (some ⟨p, 0, none⟩), .pointer (some ⟨p + 1, 0, none⟩)] bs w (PtAt w p (ptN bs 0) (ptN bs 1) (numsU bs 16 (ptN bs 2)) (numsU bs (16 + 4 * ptN bs 2) (ptN bs 3)) (zeros (bs.drop (16 + 4 * ptN bs 2 + 4 * ptN bs 3)))) := by
  intro W pr pg a c hr hb hpr
  have hprW : pr < W.heap.size := (Array.getElem?_eq_some_iff.1 hr.1).1
  have hI0 : TkR w W p pr pg (pBx 0 0 (.slice none 0 0) (.slice none 0 0) false) W.heap.size W (bs.drop 0) := by
    refine ⟨tkB_start hw hb hr fun i cs t h => ?_, rdLow_of hr (Nat.lt_of_lt_of_le (by decide) h16)⟩
    match i, h with
    | 0, h => simp [pBx] at h; obtain ⟨rfl, rfl⟩ := h; exact hb0
    | 1, h => simp [pBx] at h; obtain ⟨rfl, rfl⟩ := h; exact hb1
    | i + 2, h => simp [pBx] at h
  have HP : Hid (p + 2 ≤ pr ∧ w.heap.size = p + 2 ∧ p + 5 ≤ pr ∧ pr < W.heap.size) := Lib.hid ⟨by omega, hw, by omega, hprW⟩
  have HI0 := Lib.hid hI0
  obtain ⟨sq, e0⟩ : ∃ y, ptN bs 0 = y := ⟨_, rfl⟩
  obtain ⟨ba, e1⟩ : ∃ y, ptN bs 1 = y := ⟨_, rfl⟩
  obtain ⟨mn, e2⟩ : ∃ y, ptN bs 2 = y := ⟨_, rfl⟩
  obtain ⟨en, e3⟩ : ∃ y, ptN bs 3 = y := ⟨_, rfl⟩
  rw [e2, e3] at hk
  rw [e0, e1, e2, e3]
  obtain ⟨zz, e4⟩ : ∃ y, zeros (bs.drop (16 + 4 * mn + 4 * en)) = y := ⟨_, rfl⟩
  rw [e4]
  unfold ptN at e0 e1 e2 e3
  have HV : Hid (leVal ((bs.drop 0).take 4) = sq ∧ leVal ((bs.drop 4).take 4) = ba ∧ leVal ((bs.drop 8).take 4) = mn ∧ leVal ((bs.drop 12).take 4) = en) := Lib.hid ⟨e0, e1, e2, e3⟩
  have HL : Hid (bs.length ≤ 100000 ∧ 16 ≤ bs.length ∧ 16 + 4 * mn + 4 * en ≤ bs.length) := Lib.hid ⟨hl, h16, hk⟩
  have HZ := Lib.hid e4
  have HN := Lib.hid slV_nil
  clear hI0 hr hb hpr hprW hl h16 hk hw hb0 hb1 e0 e1 e2 e3 e4
  show Calls Tryz.prog 29 #[.pointer (some ⟨pr, 0, none⟩), .pointer (some ⟨p, 0, none⟩), .pointer (some ⟨p + 1, 0, none⟩)] W _
  go_enter Tryz.func29, Tryz.ntmps29
  go_wp2_with fail
  ((with_reducible refine (HI0.out.pu32 (k := 0) HP.out.1 (by have := HL.out; omega)).mono ?_))
  rintro e x1 ⟨rfl, h, hs1⟩
  rw [HV.out.1]
  have HI1 := Lib.hid h
  have HS1 : Hid (x1.heap.size = W.heap.size) := Lib.hid hs1.1
  clear h hs1
  go_wp2_with fail
  ((with_reducible refine (HI1.out.pu32 (k := 4) HP.out.1 (by have := HL.out; omega)).mono ?_))
  rintro e x2 ⟨rfl, h, hs2⟩
  rw [HV.out.2.1]
  obtain ⟨⟨z0, z1, z2, z3, z4⟩, f0, f1, f2, f3, f4⟩ := h.pCells
  have HI2 := Lib.hid ((h.pset HP.out.1 HP.out.2.1 HN.out HN.out 0 (.int .u32 (sq : Int)) sq 0 _ _ rfl).pset HP.out.1 HP.out.2.1 HN.out HN.out 1 (.int .u32 (ba : Int)) sq ba _ _ rfl)
  have HS2 : Hid (x2.heap.size = W.heap.size) := Lib.hid (hs2.1.trans HS1.out)
  clear h hs2
  go_upto_region 1 with fail
  obtain ⟨X2, hX2⟩ : ∃ y, y = (x2.setCell ⟨p, 0, none⟩ (.int .u32 (sq : Int))).setCell ⟨p, 1, none⟩ (.int .u32 (ba : Int)) := ⟨_, rfl⟩
  have HSX : Hid (X2.heap.size = W.heap.size) := Lib.hid (by rw [hX2]; simp [World.setCell]; exact HS2.out)
  rw [← hX2] at HI2 ⊢
  clear hX2 z0 z1 z2 z3 z4 f0 f1 f2 f3 f4 HS2 HS1 HI1 HI0
  go_wp2_with fail
  ((with_reducible refine (HI2.out.pu32 (k := 8) HP.out.1 (by have := HL.out; omega)).mono ?_))
  rintro e x3 ⟨rfl, h, hs3⟩
  rw [HV.out.2.2.1]
  have HI3 := Lib.hid h
  have HS3 : Hid (x3.heap.size = W.heap.size) := Lib.hid (hs3.1.trans HSX.out)
  clear h hs3 HI2 HSX
  go_wp2_with fail
  ((with_reducible refine (HI3.out.pu32 (k := 12) HP.out.1 (by have := HL.out; omega)).mono ?_))
  rintro e x4 ⟨rfl, h, hs4⟩
  rw [HV.out.2.2.2]
  have HI4 := Lib.hid h
  have HS4 : Hid (x4.heap.size = W.heap.size) := Lib.hid (hs4.1.trans HS3.out)
  clear h hs4 HI3 HS3
  go_upto_region 2 with fail
  go_wp2_with fail
  ((with_reducible refine (HI4.out.ptake (k := 16) (many := mn) (Nat.le_of_eq HS4.out.symm) HP.out.1 (by have := HP.out; have := HS4.out; omega) (Nat.le_of_eq HS4.out.symm) (by have := HL.out; omega) HL.out.1).mono ?_))
  rintro e x5 ⟨v1, rfl, ho1, h, hz5, hk5⟩
  have HI5 := Lib.hid h
  have HO5 := Lib.hid ho1
  have HS5 := Lib.hid hz5
  clear h ho1 hz5 hk5
  go_wp2_with fail
  ((with_reducible refine (HI5.out.ptake (k := 16 + 4 * mn) (many := en) HS5.out HP.out.1 (by have := HP.out; have := HS4.out; have := HS5.out; omega) (by have := HS4.out; have := HS5.out; omega) (by have := HL.out; omega) HL.out.1).mono ?_))
  rintro e x6 ⟨v2, rfl, ho2, h, hz6, hk6⟩
  have hpr4 : pr < x4.heap.size := by have := HP.out; have := HS4.out; omega
  have ho1 : OwnU x4.heap.size x6 v1 (numsU bs 16 mn) := World.ownsRow.kept (row := some pr) HO5.out ⟨h.tk.bel.os.trans HI5.out.tk.bel.os.symm, h.tk.bel.tape.trans HI5.out.tk.bel.tape.symm, h.tk.bel.output.trans HI5.out.tk.bel.output.symm, hz6, fun b hb hne => hk6 b hb (fun e => hne (by rw [e]))⟩ (.inr fun e => by have := (World.ownsRow.lt HO5.out pr e).1; omega)
  obtain ⟨⟨z0, z1, z2, z3, z4⟩, f0, f1, f2, f3, f4⟩ := h.pCells
  have hq1 := ownU_sl ho1
  have hq2 := ownU_sl ho2
  obtain ⟨qa, qn, qc, rfl⟩ := hq1
  obtain ⟨ra, rn, rc, rfl⟩ := hq2
  obtain ⟨X6, hX6⟩ : ∃ y, y = (x6.setCell ⟨p, 2, none⟩ (.slice qa qn qc)).setCell ⟨p, 3, none⟩ (.slice ra rn rc) := ⟨_, rfl⟩
  have hI6 := ((h.pset HP.out.1 HP.out.2.1 HN.out HN.out 2 (.slice qa qn qc) sq ba (.slice qa qn qc) _ rfl).pset HP.out.1 HP.out.2.1 (ownU_sl ho1) HN.out 3 (.slice ra rn rc) sq ba (.slice qa qn qc) (.slice ra rn rc) rfl)
  rw [← hX6] at hI6
  have hsb : TSameBut x6 p X6 := by
    rw [hX6]
    refine ⟨by simp [World.setCell], fun j hj => ?_, rfl, rfl, rfl⟩
    rw [Below.heap_setCell _ _ _ _ hj, Below.heap_setCell _ _ _ _ hj]
  have HB5 : Hid (OwnU (w.heap.size + 3) X6 (.slice qa qn qc) (numsU bs 16 mn) ∧ OwnU (w.heap.size + 3) X6 (.slice ra rn rc) (numsU bs (16 + 4 * mn) en)) := by
    have hq := HP.out
    have hs := HS5.out
    have h4 := HS4.out
    exact Lib.hid ⟨ownU_base (ownU_low ho1 (by omega) hsb) (by omega), ownU_base (ownU_low ho2 (by omega) hsb) (by omega)⟩
  have HI6 := Lib.hid hI6
  have HZ6 : Hid (x5.heap.size ≤ X6.heap.size ∧ pr < X6.heap.size) := Lib.hid (by have := hsb.1; have := HS5.out; omega)
  clear h hz6 hk6 hpr4 ho1 ho2 hI6 hsb HI5 HO5 HI4
  go_upto_region 3 with fail
  rw [← hX6]
  clear hX6 z0 z1 z2 z3 z4 f0 f1 f2 f3 f4
  go_wp2_with fail
  ((with_reducible refine (HI6.out.pzero (k := 16 + 4 * mn + 4 * en) HZ6.out.1 HP.out.1 HZ6.out.2).mono ?_))
  rintro e x7 ⟨rfl, h, hb7⟩
  rw [HZ.out]
  obtain ⟨⟨z0, z1, z2, z3, z4⟩, f0, f1, f2, f3, f4⟩ := h.pCells
  have hlow : w.heap.size + 3 ≤ X6.heap.size := by have := HP.out; have := HZ6.out; omega
  have HI7 := Lib.hid (h.pfin HP.out.1 HP.out.2.1 zz)
  have HB7 : Hid (OwnU (w.heap.size + 3) (x7.setCell ⟨p + 1, 0, none⟩ (.bool zz)) (.slice qa qn qc) (numsU bs 16 mn) ∧ OwnU (w.heap.size + 3) (x7.setCell ⟨p + 1, 0, none⟩ (.bool zz)) (.slice ra rn rc) (numsU bs (16 + 4 * mn) en)) := by
    have hq := HP.out
    have hb := hb7.mono hlow
    have hsb : TSameBut x7 (p + 1) (x7.setCell ⟨p + 1, 0, none⟩ (.bool zz)) := ⟨by simp [World.setCell], fun j hj => Below.heap_setCell _ _ _ _ hj, rfl, rfl, rfl⟩
    exact Lib.hid ⟨ownU_low (ownU_bel HB5.out.1 hb7) (by omega) hsb, ownU_low (ownU_bel HB5.out.2 hb7) (by omega) hsb⟩
  clear h hb7 hlow
  go_wp2_with fail
  go_end0
  exact ⟨rfl, HI7.out.tk.inner, (.slice qa qn qc), (.slice ra rn rc), HI7.out.tk.box 0 _ _ rfl, HI7.out.tk.box 1 _ _ rfl, HB7.out.1, HB7.out.2, HI7.out.tk.bel⟩
/-- What is left behind, where more was asked than there is. -/
def PGone (w W : World) (p pr pg : Nat) (y : World) : Prop :=
  RG y pg true ∧ (W.heap.size ≤ y.heap.size ∧ ∀ k, w.heap.size ≤ k → k < W.heap.size → k ≠ pr → k ≠ pg → y.heap[k]? = W.heap[k]?) ∧ Below p w y
theorem pgone {w W : World} {p pr pg H : Nat} {bx : List (Array Value × TypeId)} {x y : World} {bs : List Nat} (hI : TkR w W p pr pg bx H x bs) (hp : p + 2 ≤ pr) (hw : w.heap.size = p + 2) (hpg : w.heap.size ≤ pg) (hW : w.heap.size ≤ W.heap.size)
    (hg : RG y pg true) (hs : x.heap.size ≤ y.heap.size) (ho : y.os = x.os) (ht : y.tape = x.tape) (hu : y.output = x.output) (hk : ∀ k, k < x.heap.size → k ≠ pr → k ≠ pg → y.heap[k]? = x.heap[k]?) : PGone w W p pr pg y := by
  have hi := hI.tk.inner
  have hb := hI.tk.bel
  refine ⟨hg, ⟨Nat.le_trans hi.1 hs, fun k k1 k2 k3 k4 => (hk k (by have := hi.1; omega) k3 k4).trans (hi.2 k k1 k2 k3)⟩, ho.trans hb.os, ht.trans hb.tape, hu.trans hb.output, Nat.le_trans hb.size hs, fun k hk2 => ?_⟩
  rw [hk k (by have := hi.1; omega) (by omega) (by omega)]
  exact hb.block k hk2
theorem rg_step {x y : World} {pg : Nat} {z : Bool} (h : RG x pg z) (hb : y.heap[pg]? = x.heap[pg]?) : RG y pg z := by
  unfold RG; rw [hb]; exact h
theorem rg_lt {x : World} {pg : Nat} {z : Bool} (h : RG x pg z) : pg < x.heap.size := (Array.getElem?_eq_some_iff.1 h).1
theorem TkR.pu32_dies {w W : World} {p pr pg H k : Nat} {sq ba : Nat} {v1 v2 : Value} {z : Bool} {x : World} {bs : List Nat} (hI : TkR w W p pr pg (pBx sq ba v1 v2 z) H x (bs.drop k)) (hg : RG x pg false) (hk : bs.length < k + 4) (hp : p + 2 ≤ pr) (hw : w.heap.size = p + 2) (hpg : w.heap.size ≤ pg) (hW : w.heap.size ≤ W.heap.size) :
    Calls Tryz.prog 30 #[.pointer (some ⟨pr, 0, none⟩)] x fun e y => e = .panicked (outChain pg) ∧ PGone w W p pr pg y := by
  obtain ⟨a, c, hr⟩ := hI.tk.rd
  refine (rU32_dies hr hg (by rw [List.length_drop]; omega)).mono fun e y h => ?_
  obtain ⟨he, h2, h3, h4, h5, h6, h7⟩ := h
  exact ⟨he, pgone hI hp hw hpg hW h2 h3 h4 h5 h6 fun k _ h1 h2 => h7 k h1 h2⟩
theorem TkR.ptake_dies {w W : World} {p pr pg H k many : Nat} {sq ba : Nat} {v1 v2 : Value} {z : Bool} {x : World} {bs : List Nat} (hI : TkR w W p pr pg (pBx sq ba v1 v2 z) H x (bs.drop k)) (hg : RG x pg false) (hH : H ≤ x.heap.size) (hk : bs.length < k + 4 * many) (hkl : k ≤ bs.length) (hl : bs.length ≤ 100000) (hm : many < 4294967296) (hp : p + 2 ≤ pr) (hpr : pr < x.heap.size) (hw : w.heap.size = p + 2) (hpg : w.heap.size ≤ pg) (hW : w.heap.size ≤ W.heap.size) :
    Calls Tryz.prog 31 #[.pointer (some ⟨pr, 0, none⟩), .int .u32 (many : Int)] x fun e y => e = .panicked (outChain pg) ∧ PGone w W p pr pg y := by
  refine (ptTake_dies (hI.mono hH) hp hpr hI.tk.inner.1 hk hkl hl hm hg (rg_lt hg)).mono fun e y h => ?_
  obtain ⟨he, h2, ⟨h3, h4, h5, h6⟩, h7⟩ := h
  exact ⟨he, pgone hI hp hw hpg hW h2 h3 h4 h5 h6 h7⟩
set_option maxRecDepth 100000 in
set_option maxHeartbeats 4000000 in
theorem ptBy_dies (w : World) (p : Nat) (bs : List Nat) (hl : bs.length ≤ 100000) (hk : ¬ (16 ≤ bs.length ∧ 16 + 4 * ptN bs 2 + 4 * ptN bs 3 ≤ bs.length)) (hw : w.heap.size = p + 2)
    (hb0 : w.heap[p]? = some (.cells (pCs 0 0 (.slice none 0 0) (.slice none 0 0)) 25 (0, 0))) (hb1 : w.heap[p + 1]? = some (.cells #[.bool false] 4 (0, 0))) :
    ByDies 29 #[.pointer (some ⟨p, 0, none⟩), .pointer (some ⟨p + 1, 0, none⟩)] bs w (fun x => Below p w x) := by
  intro W pr pg a c hr hg hb hpr hpg
  have hprW : pr < W.heap.size := (Array.getElem?_eq_some_iff.1 hr.1).1
  have hbox : ∀ i cs t, (pBx 0 0 (.slice none 0 0) (.slice none 0 0) false)[i]? = some (cs, t) → w.heap[p + i]? = some (.cells cs t (0, 0)) := by
    intro i cs t h
    match i, h with
    | 0, h => simp [pBx] at h; obtain ⟨rfl, rfl⟩ := h; exact hb0
    | 1, h => simp [pBx] at h; obtain ⟨rfl, rfl⟩ := h; exact hb1
    | i + 2, h => simp [pBx] at h
  have hne := rg_ne hr hg
  have HP : Hid (p + 2 ≤ pr ∧ w.heap.size = p + 2 ∧ p + 5 ≤ pr ∧ pr < W.heap.size ∧ w.heap.size ≤ pg ∧ w.heap.size ≤ W.heap.size ∧ pr ≠ pg) := Lib.hid ⟨by omega, hw, by omega, hprW, hpg, by omega, hne⟩
  have HG := Lib.hid hg
  show Calls Tryz.prog 29 #[.pointer (some ⟨pr, 0, none⟩), .pointer (some ⟨p, 0, none⟩), .pointer (some ⟨p + 1, 0, none⟩)] W fun e y => e = .panicked (outChain pg) ∧ PGone w W p pr pg y
  by_cases c0 : bs.length < 4
  · have HD : Hid (Calls Tryz.prog 30 #[.pointer (some ⟨pr, 0, none⟩)] W fun e y => e = .panicked (outChain pg) ∧ PGone w W p pr pg y) := Lib.hid <| (rU32_dies hr hg c0).mono fun e y h => by
      obtain ⟨he, h2, h3, h4, h5, h6, h7⟩ := h
      refine ⟨he, h2, ⟨h3, fun k k1 k2 k3 k4 => h7 k k3 k4⟩, h4.trans hb.os, h5.trans hb.tape, h6.trans hb.output, Nat.le_trans hb.size h3, fun k hk => (h7 k (by omega) (by omega)).trans (hb.block k (by omega))⟩
    clear hr hg hb hpr hpg hprW hbox hne hl hk hw hb0 hb1 c0
    go_enter Tryz.func29, Tryz.ntmps29
    go_wp2_with fail
    refine HD.out.mono ?_
    rintro e y ⟨he, hy⟩
    subst he
    exact ⟨rfl, rfl, hy⟩
  have hI0 : TkR w W p pr pg (pBx 0 0 (.slice none 0 0) (.slice none 0 0) false) W.heap.size W (bs.drop 0) :=
    ⟨tkB_start hw hb hr hbox, rdLow_of hr (Nat.lt_of_lt_of_le (by decide) (Nat.le_of_not_lt c0))⟩
  have HI0 := Lib.hid hI0
  have hlt : ∀ k, ptN bs k < 4294967296 := fun k => by
    unfold ptN
    have h1 := leVal_lt ((bs.drop (4 * k)).take 4) (fun y hy => hr.2.1.2.1 y (List.mem_of_mem_drop (List.mem_of_mem_take hy)))
    have h2 : ((bs.drop (4 * k)).take 4).length ≤ 4 := by rw [List.length_take]; exact Nat.min_le_left _ _
    exact Nat.lt_of_lt_of_le h1 (Nat.pow_le_pow_right (by decide) h2 : 256 ^ _ ≤ 256 ^ 4)
  have hm2 := hlt 2
  have hm3 := hlt 3
  obtain ⟨sq, e0⟩ : ∃ y, ptN bs 0 = y := ⟨_, rfl⟩
  obtain ⟨ba, e1⟩ : ∃ y, ptN bs 1 = y := ⟨_, rfl⟩
  obtain ⟨mn, e2⟩ : ∃ y, ptN bs 2 = y := ⟨_, rfl⟩
  obtain ⟨en, e3⟩ : ∃ y, ptN bs 3 = y := ⟨_, rfl⟩
  rw [e2, e3] at hk
  rw [e2] at hm2
  rw [e3] at hm3
  unfold ptN at e0 e1 e2 e3
  have HV : Hid (leVal ((bs.drop 0).take 4) = sq ∧ leVal ((bs.drop 4).take 4) = ba ∧ leVal ((bs.drop 8).take 4) = mn ∧ leVal ((bs.drop 12).take 4) = en) := Lib.hid ⟨e0, e1, e2, e3⟩
  have HL : Hid (bs.length ≤ 100000 ∧ 4 ≤ bs.length ∧ ¬ (16 ≤ bs.length ∧ 16 + 4 * mn + 4 * en ≤ bs.length)) := Lib.hid ⟨hl, Nat.le_of_not_lt c0, hk⟩
  have HM : Hid (mn < 4294967296 ∧ en < 4294967296) := Lib.hid ⟨hm2, hm3⟩
  have HN := Lib.hid slV_nil
  clear hI0 hr hg hb hpr hpg hprW hbox hne hl hk hw hb0 hb1 c0 hlt hm2 hm3 e0 e1 e2 e3
  go_enter Tryz.func29, Tryz.ntmps29
  go_wp2_with fail
  ((with_reducible refine (HI0.out.pu32 (k := 0) HP.out.1 (by have := HL.out; omega)).mono ?_))
  rintro e x1 ⟨rfl, h, hs1⟩
  rw [HV.out.1]
  have HI1 := Lib.hid h
  have HS1 : Hid (x1.heap.size = W.heap.size) := Lib.hid hs1.1
  have HG1 := Lib.hid (rg_step HG.out (hs1.2.1 pg (fun e => HP.out.2.2.2.2.2.2 e.symm)))
  clear h hs1
  by_cases c1 : bs.length < 4 + 4
  · have HD := Lib.hid (HI1.out.pu32_dies (k := 4) HG1.out c1 HP.out.1 HP.out.2.1 HP.out.2.2.2.2.1 HP.out.2.2.2.2.2.1)
    clear c1
    go_wp2_with fail
    refine HD.out.mono ?_
    rintro e y ⟨he, hy⟩
    subst he
    exact ⟨rfl, rfl, hy⟩
  have HL1 : Hid (8 ≤ bs.length) := Lib.hid (by omega)
  clear c1
  go_wp2_with fail
  ((with_reducible refine (HI1.out.pu32 (k := 4) HP.out.1 HL1.out).mono ?_))
  rintro e x2 ⟨rfl, h, hs2⟩
  rw [HV.out.2.1]
  obtain ⟨⟨z0, z1, z2, z3, z4⟩, f0, f1, f2, f3, f4⟩ := h.pCells
  have HI2 := Lib.hid ((h.pset HP.out.1 HP.out.2.1 HN.out HN.out 0 (.int .u32 (sq : Int)) sq 0 _ _ rfl).pset HP.out.1 HP.out.2.1 HN.out HN.out 1 (.int .u32 (ba : Int)) sq ba _ _ rfl)
  have HS2 : Hid (x2.heap.size = W.heap.size) := Lib.hid (hs2.1.trans HS1.out)
  have HG2 := Lib.hid (rg_step HG1.out (hs2.2.1 pg (fun e => HP.out.2.2.2.2.2.2 e.symm)))
  clear h hs2
  go_upto_region 1 with fail
  obtain ⟨X2, hX2⟩ : ∃ y, y = (x2.setCell ⟨p, 0, none⟩ (.int .u32 (sq : Int))).setCell ⟨p, 1, none⟩ (.int .u32 (ba : Int)) := ⟨_, rfl⟩
  have HSX : Hid (X2.heap.size = W.heap.size) := Lib.hid (by rw [hX2]; simp [World.setCell]; exact HS2.out)
  have HGX : Hid (RG X2 pg false) := Lib.hid (rg_step HG2.out (by
    have hp := HP.out
    rw [hX2, Below.heap_setCell _ _ _ _ (by show pg ≠ p; omega), Below.heap_setCell _ _ _ _ (by show pg ≠ p; omega)]))
  rw [← hX2] at HI2 ⊢
  clear hX2 z0 z1 z2 z3 z4 f0 f1 f2 f3 f4 HS2 HS1 HI1 HI0 HG1 HG2
  by_cases c2 : bs.length < 8 + 4
  · have HD := Lib.hid (HI2.out.pu32_dies (k := 8) HGX.out c2 HP.out.1 HP.out.2.1 HP.out.2.2.2.2.1 HP.out.2.2.2.2.2.1)
    clear c2
    go_wp2_with fail
    refine HD.out.mono ?_
    rintro e y ⟨he, hy⟩
    subst he
    exact ⟨rfl, rfl, hy⟩
  have HL2 : Hid (8 + 4 ≤ bs.length) := Lib.hid (by omega)
  clear c2
  go_wp2_with fail
  ((with_reducible refine (HI2.out.pu32 (k := 8) HP.out.1 HL2.out).mono ?_))
  rintro e x3 ⟨rfl, h, hs3⟩
  rw [HV.out.2.2.1]
  have HI3 := Lib.hid h
  have HS3 : Hid (x3.heap.size = W.heap.size) := Lib.hid (hs3.1.trans HSX.out)
  have HG3 := Lib.hid (rg_step HGX.out (hs3.2.1 pg (fun e => HP.out.2.2.2.2.2.2 e.symm)))
  clear h hs3 HI2 HSX
  by_cases c3 : bs.length < 12 + 4
  · have HD := Lib.hid (HI3.out.pu32_dies (k := 12) HG3.out c3 HP.out.1 HP.out.2.1 HP.out.2.2.2.2.1 HP.out.2.2.2.2.2.1)
    clear c3
    go_wp2_with fail
    refine HD.out.mono ?_
    rintro e y ⟨he, hy⟩
    subst he
    exact ⟨rfl, rfl, hy⟩
  have HL3 : Hid (12 + 4 ≤ bs.length) := Lib.hid (by omega)
  clear c3
  go_wp2_with fail
  ((with_reducible refine (HI3.out.pu32 (k := 12) HP.out.1 HL3.out).mono ?_))
  rintro e x4 ⟨rfl, h, hs4⟩
  rw [HV.out.2.2.2]
  have HI4 := Lib.hid h
  have HS4 : Hid (x4.heap.size = W.heap.size) := Lib.hid (hs4.1.trans HS3.out)
  have HG4 := Lib.hid (rg_step HG3.out (hs4.2.1 pg (fun e => HP.out.2.2.2.2.2.2 e.symm)))
  clear h hs4 HI3 HS3
  go_upto_region 2 with fail
  by_cases c4 : bs.length < 16 + 4 * mn
  · have HD := Lib.hid (HI4.out.ptake_dies (k := 16) (many := mn) HG4.out (Nat.le_of_eq HS4.out.symm) c4 HL3.out HL.out.1 HM.out.1 HP.out.1 (by have := HP.out; have := HS4.out; omega) HP.out.2.1 HP.out.2.2.2.2.1 HP.out.2.2.2.2.2.1)
    clear c4
    go_wp2_with fail
    refine HD.out.mono ?_
    rintro e y ⟨he, hy⟩
    subst he
    exact ⟨rfl, rfl, hy⟩
  have HL4 : Hid (16 + 4 * mn ≤ bs.length ∧ bs.length < 16 + 4 * mn + 4 * en) := Lib.hid (by have := HL.out; have := HL3.out; omega)
  clear c4
  go_wp2_with fail
  ((with_reducible refine (HI4.out.ptake (k := 16) (many := mn) (Nat.le_of_eq HS4.out.symm) HP.out.1 (by have := HP.out; have := HS4.out; omega) (Nat.le_of_eq HS4.out.symm) HL4.out.1 HL.out.1).mono ?_))
  rintro e x5 ⟨v1, rfl, ho1, h, hz5, hk5⟩
  have HD := Lib.hid (h.ptake_dies (k := 16 + 4 * mn) (many := en) (rg_step HG4.out (hk5 pg (rg_lt HG4.out) (fun e => HP.out.2.2.2.2.2.2 e.symm))) hz5 HL4.out.2 HL4.out.1 HL.out.1 HM.out.2 HP.out.1 (by have := HP.out; have := HS4.out; omega) HP.out.2.1 HP.out.2.2.2.2.1 HP.out.2.2.2.2.2.1)
  clear h ho1 hz5 hk5
  go_wp2_with fail
  refine HD.out.mono ?_
  rintro e y ⟨he, hy⟩
  subst he
  exact ⟨rfl, rfl, hy⟩
end Go.Proofs.YthgcjiocelcblaaGreat
