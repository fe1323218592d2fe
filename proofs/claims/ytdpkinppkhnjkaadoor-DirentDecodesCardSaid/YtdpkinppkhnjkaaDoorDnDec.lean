/- dirent.Decode's own function: what it takes. -/
import Derived.Test.YtdpkinppkhnjkaaDoorTakeB
import Derived.Test.YtdpkinppkhnjkaaDoorReadDies
import Derived.Deep.DeepCutAuto
import Derived.Test.YtdpkinppkhnjkaaDoorNCheckU
import Derived.Test.YtdpkinppkhnjkaaDoorDnP
import Derived.Test.YtdpkinppkhnjkaaDoorNRefCheck
import Derived.Test.YtdpkinppkhnjkaaDoorRw
namespace Go.Proofs.YtdpkinppkhnjkaaDoor
open Go.RowKit

def eBx (nd : Nat) (s : ByteArray) (z : Bool) : List (Array Value × TypeId) := [(#[.int .u32 (nd : Int), .string s], 26), (#[.bool z], 4)]
theorem eBx_no8 (nd : Nat) (s : ByteArray) (o q : Nat) (h : (#[.int .u32 (nd : Int), .string s] : Array Value)[o]? = some (.int .u8 (q : Int))) : False := by
  rcases (show o = 0 ∨ o = 1 ∨ 2 ≤ o by omega) with rfl | rfl | h2
  · simp at h
  · simp at h
  · rw [Array.getElem?_eq_none (by simpa using h2)] at h; cases h
theorem bool_no8 (z : Bool) (o q : Nat) (h : (#[.bool z] : Array Value)[o]? = some (.int .u8 (q : Int))) : False := by
  rcases Nat.eq_zero_or_pos o with rfl | h2
  · simp at h
  · rw [Array.getElem?_eq_none (by simp; omega)] at h; cases h
section
variable {w W : World} {p pr pg : Nat} {bx : List (Array Value × TypeId)} {x : World} {bs : List Nat} {nd : Nat} {s : ByteArray} {z : Bool}
theorem TkB.text {j k : Nat} (hI : TkB w W p pr pg bx x (bs.drop j)) (hp : p + bx.length ≤ pr) (hk : (bs.drop j).getD 0 0 = k) (h1 : j + 1 + k ≤ bs.length) :
    Calls Tryd.prog 11 #[.pointer (some ⟨pr, 0, none⟩)] x fun e y => e = .returned (.string (strOf ((bs.drop (j + 1)).take k))) ∧ TkB w W p pr pg bx y (bs.drop (j + 1 + k)) := by
  obtain ⟨a, c, hr⟩ := hI.rd
  refine (rText_ok k hr (by rw [List.length_drop]; omega) hk (by rw [List.length_drop]; omega)).mono fun e y h => ?_
  obtain ⟨a2, rfl, hrd, hsz, hos, htp, hout, hblk⟩ := h
  rw [List.drop_drop, List.drop_drop, ← Nat.add_assoc] at hrd
  rw [List.drop_drop]
  refine ⟨rfl, ⟨_, _, hrd⟩, fun i cs t h => ?_, ⟨by rw [hsz]; exact hI.inner.1, fun y k1 k2 k3 => by rw [hblk y k3]; exact hI.inner.2 y k1 k2 k3⟩, ?_⟩
  · have := (List.getElem?_eq_some_iff.1 h).1
    rw [hblk _ (by omega)]
    exact hI.box i cs t h
  · have hb := hI.bel
    exact ⟨hos.trans hb.os, htp.trans hb.tape, hout.trans hb.output, by rw [hsz]; exact hb.size, fun y hy => by rw [hblk y (by omega)]; exact hb.block y hy⟩
theorem TkB.ent (hI : TkB w W p pr pg (eBx nd s z) x bs) (hp : p + 2 ≤ pr) (hw : w.heap.size = p + 2) (j : Nat) (v : Value) (nd' : Nat) (s' : ByteArray) (h : (#[.int .u32 (nd : Int), .string s] : Array Value).setIfInBounds j v = #[.int .u32 (nd' : Int), .string s']) : TkB w W p pr pg (eBx nd' s' z) (x.setCell ⟨p, j, none⟩ v) bs :=
  hI.set hp hw 0 j v _ _ rfl (eBx nd' s' z) (by rw [h]; rfl) (fun o q e => (eBx_no8 _ _ o q e).elim) rfl
theorem TkB.efin (hI : TkB w W p pr pg (eBx nd s z) x bs) (hp : p + 2 ≤ pr) (hw : w.heap.size = p + 2) (z' : Bool) : TkB w W p pr pg (eBx nd s z') (x.setCell ⟨p + 1, 0, none⟩ (.bool z')) bs :=
  hI.set hp hw 1 0 _ #[.bool z] _ rfl (eBx nd s z') rfl (fun o q e => (bool_no8 _ o q e).elim) rfl
theorem TkB.eCells (hI : TkB w W p pr pg (eBx nd s z) x bs) : (x.cell? ⟨p, 0, none⟩ = some (.int .u32 (nd : Int)) ∧ x.cell? ⟨p, 1, none⟩ = some (.string s) ∧ x.cell? ⟨p + 1, 0, none⟩ = some (.bool z)) ∧ x.frozen? ⟨p, 0, none⟩ = false ∧ x.frozen? ⟨p, 1, none⟩ = false ∧ x.frozen? ⟨p + 1, 0, none⟩ = false := by
  have h := hI.box 0 _ _ rfl
  have h2 := hI.box 1 _ _ rfl
  rw [Nat.add_zero] at h
  refine ⟨⟨?_, ?_, ?_⟩, ?_, ?_, ?_⟩ <;> simp [World.cell?, World.frozen?, h, h2]
theorem TkB.eu32 {k : Nat} (hI : TkB w W p pr pg (eBx nd s z) x (bs.drop k)) (hp : p + 2 ≤ pr) (hk : k + 4 ≤ bs.length) :
    Calls Tryd.prog 10 #[.pointer (some ⟨pr, 0, none⟩)] x fun e y => e = .returned (.int .u32 ((leVal ((bs.drop k).take 4) : Nat) : Int)) ∧ TkB w W p pr pg (eBx nd s z) y (bs.drop (k + 4)) := hI.u32 hp hk
theorem TkB.etext {j k : Nat} (hI : TkB w W p pr pg (eBx nd s z) x (bs.drop j)) (hp : p + 2 ≤ pr) (hk : (bs.drop j).getD 0 0 = k) (h1 : j + 1 + k ≤ bs.length) :
    Calls Tryd.prog 11 #[.pointer (some ⟨pr, 0, none⟩)] x fun e y => e = .returned (.string (strOf ((bs.drop (j + 1)).take k))) ∧ TkB w W p pr pg (eBx nd s z) y (bs.drop (j + 1 + k)) := hI.text hp hk h1
theorem TkB.ezero {k : Nat} (hI : TkB w W p pr pg (eBx nd s z) x (bs.drop k)) (hp : p + 2 ≤ pr) :
    Calls Tryd.prog 12 #[.pointer (some ⟨pr, 0, none⟩)] x fun e y => e = .returned (.bool (zeros (bs.drop k))) ∧ TkB w W p pr pg (eBx nd s z) y (bs.drop k) := hI.zero_ hp
end
/-- What bytes say of an entry. -/
def ndOf (bs : List Nat) : Nat := leVal (bs.take 4)
def nmOf (bs : List Nat) : ByteArray := strOf ((bs.drop 5).take (bs.getD 4 0))
def zrOf (bs : List Nat) : Bool := zeros (bs.drop (5 + bs.getD 4 0))
set_option maxRecDepth 100000 in
set_option maxHeartbeats 2000000 in
theorem dnBy_ok (w W : World) (p pr pg : Nat) (bs : List Nat) (hl : bs.length = 32) (hk : 5 + bs.getD 4 0 ≤ 32) (hw : w.heap.size = p + 2) (hp : p + 2 ≤ pr) (h0 : TkB w W p pr pg (eBx 0 ⟨#[]⟩ false) W bs) :
    Calls Tryd.prog 9 #[.pointer (some ⟨pr, 0, none⟩), .pointer (some ⟨p, 0, none⟩), .pointer (some ⟨p + 1, 0, none⟩)] W fun e W' => e = .returned (.tuple #[]) ∧ TkB w W p pr pg (eBx (ndOf bs) (nmOf bs) (zrOf bs)) W' (bs.drop (5 + bs.getD 4 0)) := by
  have HP := Lib.hid hp
  have HW := Lib.hid hw
  have HI0 : Hid (TkB w W p pr pg (eBx 0 ⟨#[]⟩ false) W (bs.drop 0)) := Lib.hid h0
  have HL := Lib.hid hl
  obtain ⟨k, hkk⟩ : ∃ x, bs.getD 4 0 = x := ⟨_, rfl⟩
  obtain ⟨nd, hnd⟩ : ∃ x, ndOf bs = x := ⟨_, rfl⟩
  obtain ⟨nm, hnm⟩ : ∃ x, nmOf bs = x := ⟨_, rfl⟩
  obtain ⟨zz, hzz⟩ : ∃ x, zrOf bs = x := ⟨_, rfl⟩
  rw [hnd, hnm, hzz]
  have e4 : leVal ((bs.drop 0).take 4) = nd := by rw [← hnd]; rfl
  have eg : (bs.drop 4).getD 0 0 = k := by rw [List.getD_eq_getElem?_getD, List.getElem?_drop, Nat.add_zero, ← List.getD_eq_getElem?_getD]; exact hkk
  unfold nmOf at hnm
  unfold zrOf at hzz
  rw [hkk] at hk hnm hzz ⊢
  have HV := Lib.hid (And.intro e4 (And.intro eg (And.intro hnm hzz)))
  have HK := Lib.hid hk
  clear h0 hp hw hl hk hkk hnd hnm hzz e4 eg
  go_enter Tryd.func9, Tryd.ntmps9
  go_wp2_with fail
  ((with_reducible refine (HI0.out.eu32 (k := 0) HP.out (by have := HL.out; omega)).mono ?_))
  rintro e x1 ⟨rfl, h⟩
  rw [HV.out.1]
  obtain ⟨⟨z0, z1, z2⟩, f0, f1, f2⟩ := h.eCells
  have HI1 := Lib.hid (h.ent HP.out HW.out 0 (.int .u32 (nd : Int)) nd ⟨#[]⟩ rfl)
  clear h
  go_wp2_with fail
  ((with_reducible refine (HI1.out.etext (j := 4) (k := k) HP.out HV.out.2.1 (by have := HL.out; have := HK.out; omega)).mono ?_))
  rintro e x2 ⟨rfl, h⟩
  rw [HV.out.2.2.1]
  clear z0 z1 z2 f0 f1 f2
  obtain ⟨⟨z0, z1, z2⟩, f0, f1, f2⟩ := h.eCells
  have HI2 := Lib.hid (h.ent HP.out HW.out 1 (.string nm) nd nm rfl)
  clear h
  go_wp2_with fail
  ((with_reducible refine (HI2.out.ezero (k := 4 + 1 + k) HP.out).mono ?_))
  rintro e x3 ⟨rfl, h⟩
  rw [show 4 + 1 + k = 5 + k by omega] at h ⊢
  rw [HV.out.2.2.2]
  clear z0 z1 z2 f0 f1 f2
  obtain ⟨⟨z0, z1, z2⟩, f0, f1, f2⟩ := h.eCells
  have HI3 := Lib.hid (h.efin HP.out HW.out zz)
  clear h
  go_wp2_with fail
  go_end0
  exact ⟨rfl, HI3.out⟩
/-- .. where more is asked than there is. -/
theorem dnBy_dies (w : World) (p : Nat) (bs : List Nat) (hl : bs.length = 32) (hk : 32 < 5 + bs.getD 4 0) (hw : w.heap.size = p + 2) (hb0 : w.heap[p]? = some (.cells #[.int .u32 0, .string ⟨#[]⟩] 26 (0, 0))) :
    ByDies 9 #[.pointer (some ⟨p, 0, none⟩), .pointer (some ⟨p + 1, 0, none⟩)] bs w (fun x => Below p w x) := by
  intro W pr pg a c hr hg hb hpr hpg
  have hne := rg_ne hr hg
  have hbox : W.heap[p]? = some (.cells #[.int .u32 0, .string ⟨#[]⟩] 26 (0, 0)) := (hb.block p (by omega)).trans hb0
  have HU := Lib.hid (rU32_ok hr (by omega))
  have HX : Hid (p + 2 ≤ pr ∧ p + 2 ≤ pg ∧ pr ≠ pg ∧ w.heap.size = p + 2) := Lib.hid (by omega)
  have HBX := Lib.hid hbox
  have HG := Lib.hid hg
  have HB := Lib.hid hb
  have HL : Hid (bs.length = 32 ∧ 32 < 5 + bs.getD 4 0) := Lib.hid ⟨hl, hk⟩
  obtain ⟨v, hv⟩ : ∃ x, leVal (bs.take 4) = x := ⟨_, rfl⟩
  have HR := Lib.hid hr
  clear hr hg hb hpr hpg hbox hne hl hk hw hb0
  show Calls Tryd.prog 9 #[.pointer (some ⟨pr, 0, none⟩), .pointer (some ⟨p, 0, none⟩), .pointer (some ⟨p + 1, 0, none⟩)] W _
  go_enter Tryd.func9, Tryd.ntmps9
  go_wp2_with fail
  ((with_reducible refine HU.out.mono ?_))
  rintro e w1 ⟨a2, rfl, hw1, hrd⟩
  have hk1 : ∀ j, j ≠ pr → w1.heap[j]? = W.heap[j]? := fun j hj => by rw [hw1]; exact Below.heap_setCell _ _ _ _ hj
  have hs1 : w1.heap.size = W.heap.size := by rw [hw1]; simp [World.setCell]
  have ho1 : w1.os = W.os ∧ w1.tape = W.tape ∧ w1.output = W.output := by rw [hw1]; exact ⟨rfl, rfl, rfl⟩
  have hx1 : w1.heap[p]? = some (.cells #[.int .u32 0, .string ⟨#[]⟩] 26 (0, 0)) := (hk1 p (by have := HX.out; omega)).trans HBX.out
  have hg1 : RG w1 pg false := by
    have h := HG.out
    unfold RG at h ⊢
    rw [hk1 pg (by have := HX.out; omega)]; exact h
  rw [hv]
  obtain ⟨w2, hw2⟩ : ∃ x, x = w1.setCell ⟨p, 0, none⟩ (.int .u32 (v : Int)) := ⟨_, rfl⟩
  have hk2 : ∀ j, j ≠ p → w2.heap[j]? = w1.heap[j]? := fun j hj => by rw [hw2]; exact Below.heap_setCell _ _ _ _ hj
  have hs2 : w2.heap.size = w1.heap.size := by rw [hw2]; simp [World.setCell]
  have ho2 : w2.os = w1.os ∧ w2.tape = w1.tape ∧ w2.output = w1.output := by rw [hw2]; exact ⟨rfl, rfl, rfl⟩
  have hg2 : RG w2 pg false := by
    have h := hg1
    unfold RG at h ⊢
    rw [hk2 pg (by have := HX.out; omega)]; exact h
  have hr2 := rd_setB hrd (b := p) (j := 0) (by have := HX.out; omega) (fun o q e => by
    exfalso
    exact eBx_no8 0 ⟨#[]⟩ o q (by simpa [World.cell?, hx1] using e)) (.int .u32 (v : Int))
  rw [← hw2] at hr2
  have HD := Lib.hid (rText_dies hr2 hg2 (by
    have h := HL.out
    rw [List.length_drop, List.getD_eq_getElem?_getD, List.getElem?_drop, Nat.add_zero, ← List.getD_eq_getElem?_getD]
    omega))
  have z0 : w1.cell? ⟨p, 0, none⟩ = some (.int .u32 0) := by simp [World.cell?, hx1]
  have f0 : w1.frozen? ⟨p, 0, none⟩ = false := by simp [World.frozen?, hx1]
  have HK : Hid (∀ j, j ≠ pr → j ≠ p → w2.heap[j]? = W.heap[j]?) := Lib.hid fun j h1 h2 => (hk2 j h2).trans (hk1 j h1)
  have HS : Hid (w2.heap.size = W.heap.size ∧ w2.os = W.os ∧ w2.tape = W.tape ∧ w2.output = W.output) := Lib.hid ⟨hs2.trans hs1, ho2.1.trans ho1.1, ho2.2.1.trans ho1.2.1, ho2.2.2.trans ho1.2.2⟩
  clear hw1 hk1 hs1 ho1 hx1 hg1 hk2 hs2 ho2 hg2 hr2 hrd hv
  go_upto_region 1 with fail
  rw [← hw2]
  clear hw2 z0 f0
  go_wp2_with fail
  refine HD.out.mono ?_
  intro e w3 hd
  obtain ⟨he, h2, h3, h4, h5, h6, h7⟩ := hd
  have hR : RG w3 pg true ∧ (W.heap.size ≤ w3.heap.size ∧ ∀ k, w.heap.size ≤ k → k < W.heap.size → k ≠ pr → k ≠ pg → w3.heap[k]? = W.heap[k]?) ∧ Below p w w3 := by
    have hs := HS.out
    have hx := HX.out
    refine ⟨h2, ⟨by omega, fun k k1 k2 k3 k4 => by rw [h7 k k3 k4]; exact HK.out k k3 (by omega)⟩, ?_⟩
    have hb := HB.out
    exact ⟨h4.trans (hs.2.1.trans hb.os), h5.trans (hs.2.2.1.trans hb.tape), h6.trans (hs.2.2.2.trans hb.output), by have := hb.size; omega, fun k hk => by rw [h7 k (by omega) (by omega), HK.out k (by omega) (by omega)]; exact hb.block k (by omega)⟩
  subst he
  exact ⟨rfl, rfl, hR⟩
end Go.Proofs.YtdpkinppkhnjkaaDoor

namespace Go.Proofs.YtdpkinppkhnjkaaDoor
open Go.RowKit

theorem eql_ent (nd : Nat) (s : ByteArray) (w : World) : (binOp .eql 26 (.agg #[.int .u32 (nd : Int), .string s]) (.agg #[.int .u32 0, .string ⟨#[]⟩])).run Tryd.prog w = .ok (.bool (decide (nd = 0 ∧ s.toList = []))) w := by
  have hu32 := Tryd.underlying24
  have hs := Tryd.underlying9
  have hu := Tryd.underlying26
  rw [run_eql_struct]
  rw [run_equalIn_agg w 9999 26 _ _ (by kernel_rfl) (by kernel_rfl)]
  by_cases h : nd = 0
  · subst h
    by_cases h2 : s.toList = []
    · simp [go_sem, Program.fieldsOf, hu, hs, hu32, h2]
    · simp [go_sem, Program.fieldsOf, hu, hs, hu32, h2]
  · simp [go_sem, Program.fieldsOf, hu, hs, hu32, h]
def entOk (nd : Nat) (s : ByteArray) : Int := if nd = 0 ∧ s.toList = [] then 0 else if checkOf s ≠ 0 then checkOf s else if nd = 0 then 62 else 0
set_option maxRecDepth 100000 in
set_option maxHeartbeats 1000000 in
theorem entCheck_any (nd : Nat) (s : ByteArray) (w : World) (hs : s.size ≤ 1000) (hT : Lib.Utf8Tabs 0 1 w) :
    Calls Tryd.prog 13 #[.agg #[.int .u32 (nd : Int), .string s]] w fun e w' => e = .returned (.int .i64 (entOk nd s)) ∧ Below w.heap.size w w' := by
  have hb := nbel_alloc (Below.refl _ w) (.cells #[.int .u32 (nd : Int), .string s] 26)
  have hh := heap_alloc_new w (.cells #[.int .u32 (nd : Int), .string s] 26)
  obtain ⟨Z, hZ⟩ : ∃ x, x = w.alloc (.cells #[.int .u32 (nd : Int), .string s] 26) := ⟨_, rfl⟩
  obtain ⟨b, hbs⟩ : ∃ x, x = w.heap.size := ⟨_, rfl⟩
  rw [← hZ] at hb hh
  rw [← hbs] at hh
  have HB := Lib.hid hb
  have HH := Lib.hid hh
  obtain ⟨z0, z1⟩ : Z.cell? ⟨b, 0, none⟩ = some (.int .u32 (nd : Int)) ∧ Z.cell? ⟨b, 1, none⟩ = some (.string s) := by
    constructor <;> simp [World.cell?, hh]
  have HC := Lib.hid (check_anyU s Z (by omega) (tabs_below hT hb))
  have hq := fun x : World => eql_ent nd s x
  obtain ⟨r, hr⟩ : ∃ x, entOk nd s = x := ⟨_, rfl⟩
  rw [hr]
  have HRR := Lib.hid hr
  clear hb hh hr hs hT
  by_cases hz : nd = 0 ∧ s.toList = []
  · have hq2 : ∀ x : World, (binOp .eql 26 (.agg #[.int .u32 (nd : Int), .string s]) (.agg #[.int .u32 0, .string ⟨#[]⟩])).run Tryd.prog x = .ok (.bool true) x := fun x => by rw [hq x, decide_eq_true hz]
    have HF : Hid (r = 0) := Lib.hid (by rw [← HRR.out]; unfold entOk; rw [if_pos hz])
    clear hq hz
    go_enter Tryd.func13, Tryd.ntmps13
    go_upto_region 1 with fail
    rw [← hZ, ← hbs]
    clear hZ hbs
    go_wp2_with fail
    go_ret
    exact ⟨by rw [HF.out]; rfl, HB.out⟩
  · have hq2 : ∀ x : World, (binOp .eql 26 (.agg #[.int .u32 (nd : Int), .string s]) (.agg #[.int .u32 0, .string ⟨#[]⟩])).run Tryd.prog x = .ok (.bool false) x := fun x => by rw [hq x, decide_eq_false hz]
    have HF : Hid (r = if checkOf s ≠ 0 then checkOf s else if nd = 0 then 62 else 0) := Lib.hid (by rw [← HRR.out]; unfold entOk; rw [if_neg hz])
    clear hq hz
    obtain ⟨c, hc⟩ : ∃ x, checkOf s = x := ⟨_, rfl⟩
    rw [hc] at HF HC
    clear hc
    go_enter Tryd.func13, Tryd.ntmps13
    go_upto_region 1 with fail
    rw [← hZ, ← hbs]
    clear hZ hbs
    go_wp2_with fail
    ((with_reducible refine HC.out.mono ?_))
    rintro e w2 ⟨rfl, hb2⟩
    have HB2 : Hid (Below w.heap.size w w2) := Lib.hid (nbel_trans HB.out hb2)
    have y0 := pt_stepS z0 hb2
    have y1 := pt_stepS z1 hb2
    have HN := Lib.hid fun x : World => none_any nd s x
    clear hb2 z0 z1 hq2
    by_cases h : c = 0
    · subst h
      go_wp2_with fail
      ((with_reducible refine (HN.out _).mono ?_))
      rintro e w3 ⟨rfl, hb3⟩
      have HB3 : Hid (Below w.heap.size w w3) := Lib.hid (nbel_trans HB2.out hb3)
      clear hb3
      by_cases hz : nd = 0
      · have t2 : (nd == 0) = true := by simpa using hz
        have HF2 : Hid (r = 62) := Lib.hid (by rw [HF.out, if_neg (by simp), if_pos hz])
        clear hz
        go_wp2_with fail
        go_ret
        exact ⟨by rw [HF2.out]; rfl, HB3.out⟩
      · have t2 : (nd == 0) = false := by simpa using hz
        have HF2 : Hid (r = 0) := Lib.hid (by rw [HF.out, if_neg (by simp), if_neg hz])
        clear hz
        go_wp2_with fail
        go_ret
        exact ⟨by rw [HF2.out]; rfl, HB3.out⟩
    · have t1 : (c != 0) = true := by simpa using h
      have HF2 : Hid (r = c) := Lib.hid (by rw [HF.out, if_pos h])
      clear h
      go_wp2_with fail
      go_ret
      exact ⟨by rw [HF2.out]; rfl, HB2.out⟩
end Go.Proofs.YtdpkinppkhnjkaaDoor

namespace Go.Proofs.YtdpkinppkhnjkaaDoor
open Go.RowKit

def goodB (bs : List Nat) : Bool := decide (bs.getD 4 0 ≤ 27) && (zrOf bs && entOk (ndOf bs) (nmOf bs) == 0)
theorem dnBy (w : World) (p : Nat) (bs : List Nat) (hl : bs.length = 32) (hk : 5 + bs.getD 4 0 ≤ 32) (hw : w.heap.size = p + 2) (hn : w.heap[p]? = some (.cells #[.int .u32 0, .string ⟨#[]⟩] 26 (0, 0))) (hz : w.heap[p + 1]? = some (.cells #[.bool false] 4 (0, 0))) :
    ByOk 9 #[.pointer (some ⟨p, 0, none⟩), .pointer (some ⟨p + 1, 0, none⟩)] bs w (fun W' => W'.heap[p]? = some (.cells #[.int .u32 (ndOf bs : Int), .string (nmOf bs)] 26 (0, 0)) ∧ W'.heap[p + 1]? = some (.cells #[.bool (zrOf bs)] 4 (0, 0)) ∧ Below p w W') := by
  intro W pr pg a c hrd hb hp3
  have hst : TkB w W p pr pg (eBx 0 ⟨#[]⟩ false) W bs := tkB_start hw hb hrd fun i cs t h => by
    match i, h with
    | 0, h => cases h; exact hn
    | 1, h => cases h; exact hz
    | i + 2, h => cases h
  exact (dnBy_ok w W p pr pg bs hl hk hw (by omega) hst).mono fun e W' h => ⟨h.1, h.2.inner, h.2.box 0 _ _ rfl, h.2.box 1 _ _ rfl, h.2.bel⟩
set_option maxRecDepth 100000 in
set_option maxHeartbeats 1600000 in
theorem dnDecode_len (a : Option Addr) (len cap : Nat) (w : World) (h : len ≠ 32) :
    Calls Tryd.prog 5 #[.slice a len cap] w fun e w' => e = .returned (.tuple #[.agg #[.int .u32 0, .string ⟨#[]⟩], .int .i64 62]) ∧ Below w.heap.size w w' := by
  have t1 : ((len : Int) != 32) = true := by simp; omega
  clear h
  go_enter Tryd.func5, Tryd.ntmps5
  go_wp2
  exact bodyPost_ret (v := .tuple #[.agg #[.int .u32 0, .string ⟨#[]⟩], .int .i64 62]) (by simp [results, Tryd.results5, go_sem]) rfl ⟨rfl, nbel_alloc (Below.refl _ _) _⟩
theorem set2 {w x : World} {b : Nat} (hb : Below w.heap.size w x) (hle : w.heap.size ≤ b) (v0 v1 : Value) : Below w.heap.size w ((x.setCell ⟨b, 0, none⟩ v0).setCell ⟨b, 1, none⟩ v1) :=
  (hb.setCell (p := ⟨b, 0, none⟩) hle _).setCell (p := ⟨b, 1, none⟩) hle _
theorem two_at {x : World} {b : Nat} {v0 v1 : Value} {t : TypeId} (h : x.heap[b]? = some (.cells #[v0, v1] t (0, 0))) : (x.cell? ⟨b, 0, none⟩ = some v0 ∧ x.cell? ⟨b, 1, none⟩ = some v1) ∧ x.frozen? ⟨b, 0, none⟩ = false ∧ x.frozen? ⟨b, 1, none⟩ = false := by
  refine ⟨⟨?_, ?_⟩, ?_, ?_⟩ <;> simp [World.cell?, World.frozen?, h]
set_option maxRecDepth 100000 in
set_option maxHeartbeats 4000000 in
theorem dnDecode_dies (a : Option Addr) (len cap : Nat) (bs : List Nat) (w : World) (hl : len = 32) (hr : Row w a len bs) (hn : a = none → cap = 0) (hk : 27 < bs.getD 4 0) :
    Calls Tryd.prog 5 #[.slice a len cap] w fun e w' => e = .returned (.tuple #[.agg #[.int .u32 0, .string ⟨#[]⟩], .int .i64 62]) ∧ Below w.heap.size w w' := by
  have hbl : bs.length = 32 := by rw [hr.1, hl]
  obtain ⟨W1, hW1⟩ : ∃ x, x = w.alloc (.cells #[.int .u32 0, .string ⟨#[]⟩] 26) := ⟨_, rfl⟩
  obtain ⟨W2, hW2⟩ : ∃ x, x = W1.alloc (.cells #[.int .u32 0, .string ⟨#[]⟩] 26) := ⟨_, rfl⟩
  obtain ⟨W3, hW3⟩ : ∃ x, x = W2.alloc (.cells #[.bool false] 4) := ⟨_, rfl⟩
  obtain ⟨b0, hb0⟩ : ∃ x, x = w.heap.size := ⟨_, rfl⟩
  have s1 : W1.heap.size = b0 + 1 := by rw [hW1, hb0]; simp
  have s2 : W2.heap.size = b0 + 2 := by rw [hW2]; simp [s1]
  have s3 : W3.heap.size = b0 + 3 := by rw [hW3]; simp [s2]
  have h0 : W1.heap[b0]? = some (.cells #[.int .u32 0, .string ⟨#[]⟩] 26 (0, 0)) := by rw [hW1, hb0]; exact heap_alloc_new _ _
  have h1 : W2.heap[b0 + 1]? = some (.cells #[.int .u32 0, .string ⟨#[]⟩] 26 (0, 0)) := by rw [hW2, ← s1]; exact heap_alloc_new _ _
  have h2 : W3.heap[b0 + 2]? = some (.cells #[.bool false] 4 (0, 0)) := by rw [hW3, ← s2]; exact heap_alloc_new _ _
  have b12 : Below W1.heap.size W1 W2 := by rw [hW2]; exact nbel_alloc (Below.refl _ _) _
  have b23 : Below W2.heap.size W2 W3 := by rw [hW3]; exact nbel_alloc (Below.refl _ _) _
  have b01 : Below w.heap.size w W1 := by rw [hW1]; exact nbel_alloc (Below.refl _ _) _
  have h0' : W3.heap[b0]? = some (.cells #[.int .u32 0, .string ⟨#[]⟩] 26 (0, 0)) := (b23.block b0 (by omega)).trans ((b12.block b0 (by omega)).trans h0)
  have h1' : W3.heap[b0 + 1]? = some (.cells #[.int .u32 0, .string ⟨#[]⟩] 26 (0, 0)) := (b23.block (b0 + 1) (by omega)).trans h1
  have b03 : Below w.heap.size w W3 := nbel_trans (nbel_trans b01 b12) b23
  have HS : Hid (b0 = w.heap.size ∧ W3.heap.size = b0 + 3 ∧ W3.heap[b0]? = some (.cells #[.int .u32 0, .string ⟨#[]⟩] 26 (0, 0)) ∧ Below w.heap.size w W3 ∧ w.heap.size ≤ b0) := Lib.hid ⟨hb0, s3, h0', b03, by omega⟩
  have t1 : ((len : Int) != 32) = false := by simp; omega
  rw [hW2, hW1] at hW3
  have HRD := Lib.hid (read_dies a len cap bs 9 #[.pointer (some ⟨b0 + 1, 0, none⟩), .pointer (some ⟨b0 + 2, 0, none⟩)] W3 _ (row_keep hr b03 (Nat.le_refl _)) hn (by omega) (fun _ _ => rfl) (dnBy_dies W3 (b0 + 1) bs hbl (by omega) (by omega) h1'))
  clear hl hr hn hbl s1 s2 s3 h0 h1 h2 b12 b23 b01 h0' h1' b03 hW1 hW2 hk
  go_enter Tryd.func5, Tryd.ntmps5
  go_wp2_with fail
  rw [← hW3, ← hb0]
  rw [show b0 + 1 + 1 = b0 + 2 from rfl]
  clear hW3 hb0
  ((with_reducible refine HRD.out.mono ?_))
  rintro e w4 ⟨rfl, w5, hq, hb5, -⟩
  have hs4 := HS.out.2.1
  have HB4 : Hid (Below w.heap.size w w4) := Lib.hid (HS.out.2.2.2.1.trans ((hq.mono (by have := HS.out.1; omega)).trans (hb5.mono (by have := HS.out.1; omega))))
  have hr4 : w4.heap[b0]? = some (.cells #[.int .u32 0, .string ⟨#[]⟩] 26 (0, 0)) := (hb5.block b0 (by omega)).trans ((hq.block b0 (by omega)).trans HS.out.2.2.1)
  obtain ⟨⟨z0, z1⟩, f0, f1⟩ := two_at hr4
  clear hq hb5 hs4 hr4
  go_wp2_with fail
  have hle : w.heap.size ≤ b0 := HS.out.2.2.2.2
  exact bodyPost_ret (v := .tuple #[.agg #[.int .u32 0, .string ⟨#[]⟩], .int .i64 62]) (by simp [results, Tryd.results5, go_sem, z0, z1]) rfl ⟨rfl, set2 HB4.out hle _ _⟩
set_option maxRecDepth 100000 in
set_option maxHeartbeats 4000000 in
theorem dnDecode_rest (a : Option Addr) (len cap : Nat) (bs : List Nat) (w : World) (hl : len = 32) (hr : Row w a len bs) (hn : a = none → cap = 0) (hk : bs.getD 4 0 ≤ 27) (hz : zrOf bs = false) :
    Calls Tryd.prog 5 #[.slice a len cap] w fun e w' => e = .returned (.tuple #[.agg #[.int .u32 0, .string ⟨#[]⟩], .int .i64 62]) ∧ Below w.heap.size w w' := by
  have hbl : bs.length = 32 := by rw [hr.1, hl]
  obtain ⟨W1, hW1⟩ : ∃ x, x = w.alloc (.cells #[.int .u32 0, .string ⟨#[]⟩] 26) := ⟨_, rfl⟩
  obtain ⟨W2, hW2⟩ : ∃ x, x = W1.alloc (.cells #[.int .u32 0, .string ⟨#[]⟩] 26) := ⟨_, rfl⟩
  obtain ⟨W3, hW3⟩ : ∃ x, x = W2.alloc (.cells #[.bool false] 4) := ⟨_, rfl⟩
  obtain ⟨b0, hb0⟩ : ∃ x, x = w.heap.size := ⟨_, rfl⟩
  have s1 : W1.heap.size = b0 + 1 := by rw [hW1, hb0]; simp
  have s2 : W2.heap.size = b0 + 2 := by rw [hW2]; simp [s1]
  have s3 : W3.heap.size = b0 + 3 := by rw [hW3]; simp [s2]
  have h0 : W1.heap[b0]? = some (.cells #[.int .u32 0, .string ⟨#[]⟩] 26 (0, 0)) := by rw [hW1, hb0]; exact heap_alloc_new _ _
  have h1 : W2.heap[b0 + 1]? = some (.cells #[.int .u32 0, .string ⟨#[]⟩] 26 (0, 0)) := by rw [hW2, ← s1]; exact heap_alloc_new _ _
  have h2 : W3.heap[b0 + 2]? = some (.cells #[.bool false] 4 (0, 0)) := by rw [hW3, ← s2]; exact heap_alloc_new _ _
  have b12 : Below W1.heap.size W1 W2 := by rw [hW2]; exact nbel_alloc (Below.refl _ _) _
  have b23 : Below W2.heap.size W2 W3 := by rw [hW3]; exact nbel_alloc (Below.refl _ _) _
  have b01 : Below w.heap.size w W1 := by rw [hW1]; exact nbel_alloc (Below.refl _ _) _
  have h0' : W3.heap[b0]? = some (.cells #[.int .u32 0, .string ⟨#[]⟩] 26 (0, 0)) := (b23.block b0 (by omega)).trans ((b12.block b0 (by omega)).trans h0)
  have h1' : W3.heap[b0 + 1]? = some (.cells #[.int .u32 0, .string ⟨#[]⟩] 26 (0, 0)) := (b23.block (b0 + 1) (by omega)).trans h1
  have b03 : Below w.heap.size w W3 := nbel_trans (nbel_trans b01 b12) b23
  have HS : Hid (b0 = w.heap.size ∧ W3.heap.size = b0 + 3 ∧ W3.heap[b0]? = some (.cells #[.int .u32 0, .string ⟨#[]⟩] 26 (0, 0)) ∧ Below w.heap.size w W3 ∧ w.heap.size ≤ b0) := Lib.hid ⟨hb0, s3, h0', b03, by omega⟩
  have t1 : ((len : Int) != 32) = false := by simp; omega
  rw [hW2, hW1] at hW3
  have HRD := Lib.hid (read_ok a len cap bs 9 #[.pointer (some ⟨b0 + 1, 0, none⟩), .pointer (some ⟨b0 + 2, 0, none⟩)] W3 _ (row_keep hr b03 (Nat.le_refl _)) hn (by omega) (fun _ _ => rfl) (dnBy W3 (b0 + 1) bs hbl (by omega) (by omega) h1' h2))
  have HZ := Lib.hid hz
  clear hl hr hn hbl s1 s2 s3 h0 h1 h2 b12 b23 b01 h0' h1' b03 hW1 hW2 hk hz
  go_enter Tryd.func5, Tryd.ntmps5
  go_wp2_with fail
  rw [← hW3, ← hb0]
  rw [show b0 + 1 + 1 = b0 + 2 from rfl]
  clear hW3 hb0
  ((with_reducible refine HRD.out.mono ?_))
  rintro e w4 ⟨rfl, w5, hq, hb5, -⟩
  obtain ⟨hq1, hq2, hq3⟩ := hq
  have hs4 := HS.out.2.1
  have hn4 := (hb5.block (b0 + 1) (by omega)).trans hq1
  have hz4 := (hb5.block (b0 + 2) (by omega)).trans hq2
  have HB4 : Hid (Below w.heap.size w w4) := Lib.hid (HS.out.2.2.2.1.trans ((hq3.mono (by have := HS.out.1; omega)).trans (hb5.mono (by have := HS.out.1; omega))))
  have hr4 : w4.heap[b0]? = some (.cells #[.int .u32 0, .string ⟨#[]⟩] 26 (0, 0)) := (hb5.block b0 (by omega)).trans ((hq3.block b0 (by omega)).trans HS.out.2.2.1)
  rw [HZ.out] at hz4
  have zz : w4.cell? ⟨b0 + 2, 0, none⟩ = some (.bool false) := by simp [World.cell?, hz4]
  obtain ⟨⟨z0, z1⟩, f0, f1⟩ := two_at hr4
  clear hq1 hq2 hq3 hn4 hz4 hb5 hs4 hr4
  go_wp2_with fail
  have hle : w.heap.size ≤ b0 := HS.out.2.2.2.2
  exact bodyPost_ret (v := .tuple #[.agg #[.int .u32 0, .string ⟨#[]⟩], .int .i64 62]) (by simp [results, Tryd.results5, go_sem, z0, z1]) rfl ⟨rfl, set2 HB4.out hle _ _⟩
set_option maxRecDepth 100000 in
set_option maxHeartbeats 4000000 in
theorem dnDecode_bad (a : Option Addr) (len cap : Nat) (bs : List Nat) (w : World) (hl : len = 32) (hr : Row w a len bs) (hn : a = none → cap = 0) (hk : bs.getD 4 0 ≤ 27) (hz : zrOf bs = true) (hT : Lib.Utf8Tabs 0 1 w) (he : entOk (ndOf bs) (nmOf bs) ≠ 0) :
    Calls Tryd.prog 5 #[.slice a len cap] w fun e w' => e = .returned (.tuple #[.agg #[.int .u32 0, .string ⟨#[]⟩], .int .i64 62]) ∧ Below w.heap.size w w' := by
  have hbl : bs.length = 32 := by rw [hr.1, hl]
  obtain ⟨W1, hW1⟩ : ∃ x, x = w.alloc (.cells #[.int .u32 0, .string ⟨#[]⟩] 26) := ⟨_, rfl⟩
  obtain ⟨W2, hW2⟩ : ∃ x, x = W1.alloc (.cells #[.int .u32 0, .string ⟨#[]⟩] 26) := ⟨_, rfl⟩
  obtain ⟨W3, hW3⟩ : ∃ x, x = W2.alloc (.cells #[.bool false] 4) := ⟨_, rfl⟩
  obtain ⟨b0, hb0⟩ : ∃ x, x = w.heap.size := ⟨_, rfl⟩
  have s1 : W1.heap.size = b0 + 1 := by rw [hW1, hb0]; simp
  have s2 : W2.heap.size = b0 + 2 := by rw [hW2]; simp [s1]
  have s3 : W3.heap.size = b0 + 3 := by rw [hW3]; simp [s2]
  have h0 : W1.heap[b0]? = some (.cells #[.int .u32 0, .string ⟨#[]⟩] 26 (0, 0)) := by rw [hW1, hb0]; exact heap_alloc_new _ _
  have h1 : W2.heap[b0 + 1]? = some (.cells #[.int .u32 0, .string ⟨#[]⟩] 26 (0, 0)) := by rw [hW2, ← s1]; exact heap_alloc_new _ _
  have h2 : W3.heap[b0 + 2]? = some (.cells #[.bool false] 4 (0, 0)) := by rw [hW3, ← s2]; exact heap_alloc_new _ _
  have b12 : Below W1.heap.size W1 W2 := by rw [hW2]; exact nbel_alloc (Below.refl _ _) _
  have b23 : Below W2.heap.size W2 W3 := by rw [hW3]; exact nbel_alloc (Below.refl _ _) _
  have b01 : Below w.heap.size w W1 := by rw [hW1]; exact nbel_alloc (Below.refl _ _) _
  have h0' : W3.heap[b0]? = some (.cells #[.int .u32 0, .string ⟨#[]⟩] 26 (0, 0)) := (b23.block b0 (by omega)).trans ((b12.block b0 (by omega)).trans h0)
  have h1' : W3.heap[b0 + 1]? = some (.cells #[.int .u32 0, .string ⟨#[]⟩] 26 (0, 0)) := (b23.block (b0 + 1) (by omega)).trans h1
  have b03 : Below w.heap.size w W3 := nbel_trans (nbel_trans b01 b12) b23
  have HS : Hid (b0 = w.heap.size ∧ W3.heap.size = b0 + 3 ∧ W3.heap[b0]? = some (.cells #[.int .u32 0, .string ⟨#[]⟩] 26 (0, 0)) ∧ Below w.heap.size w W3 ∧ w.heap.size ≤ b0) := Lib.hid ⟨hb0, s3, h0', b03, by omega⟩
  have t1 : ((len : Int) != 32) = false := by simp; omega
  rw [hW2, hW1] at hW3
  have HRD := Lib.hid (read_ok a len cap bs 9 #[.pointer (some ⟨b0 + 1, 0, none⟩), .pointer (some ⟨b0 + 2, 0, none⟩)] W3 _ (row_keep hr b03 (Nat.le_refl _)) hn (by omega) (fun _ _ => rfl) (dnBy W3 (b0 + 1) bs hbl (by omega) (by omega) h1' h2))
  have HZ := Lib.hid hz
  have HT := Lib.hid hT
  have HSZ : Hid ((nmOf bs).size ≤ 1000) := Lib.hid (by unfold nmOf; rw [strOf_size, List.length_take]; omega)
  obtain ⟨nd, hnd⟩ : ∃ x, ndOf bs = x := ⟨_, rfl⟩
  obtain ⟨nm, hnm⟩ : ∃ x, nmOf bs = x := ⟨_, rfl⟩
  rw [hnd, hnm] at he
  rw [hnm] at HSZ
  obtain ⟨eo, heo⟩ : ∃ x, entOk nd nm = x := ⟨_, rfl⟩
  rw [heo] at he
  have HEO := Lib.hid heo
  have HND := Lib.hid (And.intro hnd hnm)
  have te : (eo != 0) = true := by simp; exact he
  clear hl hr hn hbl s1 s2 s3 h0 h1 h2 b12 b23 b01 h0' h1' b03 hW1 hW2 hk hz hT he heo hnd hnm
  go_enter Tryd.func5, Tryd.ntmps5
  go_wp2_with fail
  rw [← hW3, ← hb0]
  rw [show b0 + 1 + 1 = b0 + 2 from rfl]
  clear hW3 hb0
  ((with_reducible refine HRD.out.mono ?_))
  rintro e w4 ⟨rfl, w5, hq, hb5, -⟩
  obtain ⟨hq1, hq2, hq3⟩ := hq
  have hs4 := HS.out.2.1
  have hn4 := (hb5.block (b0 + 1) (by omega)).trans hq1
  have hz4 := (hb5.block (b0 + 2) (by omega)).trans hq2
  have HB4 : Hid (Below w.heap.size w w4) := Lib.hid (HS.out.2.2.2.1.trans ((hq3.mono (by have := HS.out.1; omega)).trans (hb5.mono (by have := HS.out.1; omega))))
  have hr4 : w4.heap[b0]? = some (.cells #[.int .u32 0, .string ⟨#[]⟩] 26 (0, 0)) := (hb5.block b0 (by omega)).trans ((hq3.block b0 (by omega)).trans HS.out.2.2.1)
  rw [HZ.out] at hz4
  have zz : w4.cell? ⟨b0 + 2, 0, none⟩ = some (.bool true) := by simp [World.cell?, hz4]
  rw [HND.out.1, HND.out.2] at hn4
  obtain ⟨⟨x0, x1⟩, -, -⟩ := two_at hn4
  have HN4 := Lib.hid hn4
  have HR4 := Lib.hid hr4
  have HC := Lib.hid (entCheck_any nd nm w4 HSZ.out (tabs_below HT.out HB4.out))
  rw [HEO.out] at HC
  clear hq1 hq2 hq3 hn4 hz4 hb5 hs4 hr4
  go_wp2_with fail
  ((with_reducible refine HC.out.mono ?_))
  rintro e w6 ⟨rfl, hb6⟩
  clear x0 x1 zz
  obtain ⟨⟨z0, z1⟩, f0, f1⟩ := two_at ((hb6.block b0 (Array.getElem?_eq_some_iff.1 HR4.out).1).trans HR4.out)
  obtain ⟨⟨x0, x1⟩, -, -⟩ := two_at ((hb6.block (b0 + 1) (Array.getElem?_eq_some_iff.1 HN4.out).1).trans HN4.out)
  have HB6 := Lib.hid (nbel_trans HB4.out hb6)
  clear hb6
  go_wp2_with fail
  have hle : w.heap.size ≤ b0 := HS.out.2.2.2.2
  exact bodyPost_ret (v := .tuple #[.agg #[.int .u32 0, .string ⟨#[]⟩], .int .i64 62]) (by simp [results, Tryd.results5, go_sem, z0, z1]) rfl ⟨rfl, set2 HB6.out hle _ _⟩
set_option maxRecDepth 100000 in
set_option maxHeartbeats 4000000 in
theorem dnDecode_good (a : Option Addr) (len cap : Nat) (bs : List Nat) (w : World) (hl : len = 32) (hr : Row w a len bs) (hn : a = none → cap = 0) (hk : bs.getD 4 0 ≤ 27) (hz : zrOf bs = true) (hT : Lib.Utf8Tabs 0 1 w) (he : entOk (ndOf bs) (nmOf bs) = 0) :
    Calls Tryd.prog 5 #[.slice a len cap] w fun e w' => e = .returned (.tuple #[.agg #[.int .u32 (ndOf bs : Int), .string (nmOf bs)], .int .i64 0]) ∧ Below w.heap.size w w' := by
  have hbl : bs.length = 32 := by rw [hr.1, hl]
  obtain ⟨W1, hW1⟩ : ∃ x, x = w.alloc (.cells #[.int .u32 0, .string ⟨#[]⟩] 26) := ⟨_, rfl⟩
  obtain ⟨W2, hW2⟩ : ∃ x, x = W1.alloc (.cells #[.int .u32 0, .string ⟨#[]⟩] 26) := ⟨_, rfl⟩
  obtain ⟨W3, hW3⟩ : ∃ x, x = W2.alloc (.cells #[.bool false] 4) := ⟨_, rfl⟩
  obtain ⟨b0, hb0⟩ : ∃ x, x = w.heap.size := ⟨_, rfl⟩
  have s1 : W1.heap.size = b0 + 1 := by rw [hW1, hb0]; simp
  have s2 : W2.heap.size = b0 + 2 := by rw [hW2]; simp [s1]
  have s3 : W3.heap.size = b0 + 3 := by rw [hW3]; simp [s2]
  have h0 : W1.heap[b0]? = some (.cells #[.int .u32 0, .string ⟨#[]⟩] 26 (0, 0)) := by rw [hW1, hb0]; exact heap_alloc_new _ _
  have h1 : W2.heap[b0 + 1]? = some (.cells #[.int .u32 0, .string ⟨#[]⟩] 26 (0, 0)) := by rw [hW2, ← s1]; exact heap_alloc_new _ _
  have h2 : W3.heap[b0 + 2]? = some (.cells #[.bool false] 4 (0, 0)) := by rw [hW3, ← s2]; exact heap_alloc_new _ _
  have b12 : Below W1.heap.size W1 W2 := by rw [hW2]; exact nbel_alloc (Below.refl _ _) _
  have b23 : Below W2.heap.size W2 W3 := by rw [hW3]; exact nbel_alloc (Below.refl _ _) _
  have b01 : Below w.heap.size w W1 := by rw [hW1]; exact nbel_alloc (Below.refl _ _) _
  have h0' : W3.heap[b0]? = some (.cells #[.int .u32 0, .string ⟨#[]⟩] 26 (0, 0)) := (b23.block b0 (by omega)).trans ((b12.block b0 (by omega)).trans h0)
  have h1' : W3.heap[b0 + 1]? = some (.cells #[.int .u32 0, .string ⟨#[]⟩] 26 (0, 0)) := (b23.block (b0 + 1) (by omega)).trans h1
  have b03 : Below w.heap.size w W3 := nbel_trans (nbel_trans b01 b12) b23
  have HS : Hid (b0 = w.heap.size ∧ W3.heap.size = b0 + 3 ∧ W3.heap[b0]? = some (.cells #[.int .u32 0, .string ⟨#[]⟩] 26 (0, 0)) ∧ Below w.heap.size w W3 ∧ w.heap.size ≤ b0) := Lib.hid ⟨hb0, s3, h0', b03, by omega⟩
  have t1 : ((len : Int) != 32) = false := by simp; omega
  rw [hW2, hW1] at hW3
  have HRD := Lib.hid (read_ok a len cap bs 9 #[.pointer (some ⟨b0 + 1, 0, none⟩), .pointer (some ⟨b0 + 2, 0, none⟩)] W3 _ (row_keep hr b03 (Nat.le_refl _)) hn (by omega) (fun _ _ => rfl) (dnBy W3 (b0 + 1) bs hbl (by omega) (by omega) h1' h2))
  have HZ := Lib.hid hz
  have HT := Lib.hid hT
  have HSZ : Hid ((nmOf bs).size ≤ 1000) := Lib.hid (by unfold nmOf; rw [strOf_size, List.length_take]; omega)
  obtain ⟨nd, hnd⟩ : ∃ x, ndOf bs = x := ⟨_, rfl⟩
  obtain ⟨nm, hnm⟩ : ∃ x, nmOf bs = x := ⟨_, rfl⟩
  rw [hnd, hnm] at he
  rw [hnm] at HSZ
  rw [hnd, hnm]
  obtain ⟨eo, heo⟩ : ∃ x, entOk nd nm = x := ⟨_, rfl⟩
  rw [heo] at he
  have HEO := Lib.hid heo
  have HND := Lib.hid (And.intro hnd hnm)
  have te : (eo != 0) = false := by simp; exact he
  clear hl hr hn hbl s1 s2 s3 h0 h1 h2 b12 b23 b01 h0' h1' b03 hW1 hW2 hk hz hT he heo hnd hnm
  go_enter Tryd.func5, Tryd.ntmps5
  go_wp2_with fail
  rw [← hW3, ← hb0]
  rw [show b0 + 1 + 1 = b0 + 2 from rfl]
  clear hW3 hb0
  ((with_reducible refine HRD.out.mono ?_))
  rintro e w4 ⟨rfl, w5, hq, hb5, -⟩
  obtain ⟨hq1, hq2, hq3⟩ := hq
  have hs4 := HS.out.2.1
  have hn4 := (hb5.block (b0 + 1) (by omega)).trans hq1
  have hz4 := (hb5.block (b0 + 2) (by omega)).trans hq2
  have HB4 : Hid (Below w.heap.size w w4) := Lib.hid (HS.out.2.2.2.1.trans ((hq3.mono (by have := HS.out.1; omega)).trans (hb5.mono (by have := HS.out.1; omega))))
  have hr4 : w4.heap[b0]? = some (.cells #[.int .u32 0, .string ⟨#[]⟩] 26 (0, 0)) := (hb5.block b0 (by omega)).trans ((hq3.block b0 (by omega)).trans HS.out.2.2.1)
  rw [HZ.out] at hz4
  have zz : w4.cell? ⟨b0 + 2, 0, none⟩ = some (.bool true) := by simp [World.cell?, hz4]
  rw [HND.out.1, HND.out.2] at hn4
  obtain ⟨⟨x0, x1⟩, -, -⟩ := two_at hn4
  have HN4 := Lib.hid hn4
  have HR4 := Lib.hid hr4
  have HC := Lib.hid (entCheck_any nd nm w4 HSZ.out (tabs_below HT.out HB4.out))
  rw [HEO.out] at HC
  clear hq1 hq2 hq3 hn4 hz4 hb5 hs4 hr4
  go_wp2_with fail
  ((with_reducible refine HC.out.mono ?_))
  rintro e w6 ⟨rfl, hb6⟩
  clear x0 x1 zz
  obtain ⟨⟨z0, z1⟩, f0, f1⟩ := two_at ((hb6.block b0 (Array.getElem?_eq_some_iff.1 HR4.out).1).trans HR4.out)
  obtain ⟨⟨x0, x1⟩, -, -⟩ := two_at ((hb6.block (b0 + 1) (Array.getElem?_eq_some_iff.1 HN4.out).1).trans HN4.out)
  have HB6 := Lib.hid (nbel_trans HB4.out hb6)
  clear hb6
  go_wp2_with fail
  have hle : w.heap.size ≤ b0 := HS.out.2.2.2.2
  exact bodyPost_ret (v := .tuple #[.agg #[.int .u32 (nd : Int), .string nm], .int .i64 0]) (by simp [results, Tryd.results5, go_sem, z0, z1]) rfl ⟨rfl, set2 HB6.out hle _ _⟩
end Go.Proofs.YtdpkinppkhnjkaaDoor

namespace Go.Proofs.YtdpkinppkhnjkaaDoor
open Go.RowKit

def goodR (bs : List Nat) : Bool := decide (bs.getD 4 0 ≤ 27) && (zrOf bs && ((decide (ndOf bs = 0) == decide (bs.getD 4 0 = 0)) && (decide (bs.getD 4 0 = 0) || checkOf (nmOf bs) == 0)))
theorem nmOf_len {bs : List Nat} (hl : bs.length = 32) (hk : bs.getD 4 0 ≤ 27) : (nmOf bs).size = bs.getD 4 0 := by
  unfold nmOf
  rw [strOf_size, List.length_take, List.length_drop]
  omega
theorem toList_nil {s : ByteArray} : s.toList = [] ↔ s.size = 0 := by
  rw [ByteArray.toList_eq]
  obtain ⟨⟨l⟩⟩ := s
  show l = [] ↔ l.length = 0
  rw [List.length_eq_zero_iff]
theorem good_same {bs : List Nat} (hl : bs.length = 32) : goodR bs = goodB bs := by
  unfold goodR goodB
  by_cases hk : bs.getD 4 0 ≤ 27
  · rw [decide_eq_true hk, Bool.true_and, Bool.true_and]
    congr 1
    have hsz := nmOf_len hl hk
    have hnil : (nmOf bs).toList = [] ↔ bs.getD 4 0 = 0 := by rw [toList_nil, hsz]
    unfold entOk
    clear hsz
    generalize bs.getD 4 0 = k at *
    by_cases h0 : k = 0
    · by_cases hn : ndOf bs = 0
      · rw [if_pos ⟨hn, hnil.2 h0⟩]; simp [h0, hn]
      · have hc : checkOf (nmOf bs) = 22 := checkOf_22 (.inl (hnil.2 h0))
        rw [if_neg (fun h => hn h.1), hc]; simp [h0, hn]
    · have hnn : ¬ (nmOf bs).toList = [] := fun h => h0 (hnil.1 h)
      rw [if_neg (fun h => hnn h.2)]
      by_cases hn : ndOf bs = 0
      · by_cases hc : checkOf (nmOf bs) = 0
        · simp [h0, hn, hc]
        · simp [h0, hn, hc]
      · by_cases hc : checkOf (nmOf bs) = 0
        · simp [h0, hn, hc]
        · simp [h0, hn, hc]
  · rw [decide_eq_false hk]; rfl
def decDR (bs : List Nat) : Value := if goodR bs then .tuple #[.agg #[.int .i64 (ndOf bs : Int), .string (nmOf bs)], .int .i64 0] else .tuple #[.agg #[.int .i64 0, .string ⟨#[]⟩], .int .i64 62]
set_option maxRecDepth 100000 in
set_option maxHeartbeats 1600000 in
theorem refDecE_len (a : Option Addr) (len cap : Nat) (w : World) (h : len ≠ 32) :
    Calls Tryd.prog 6 #[.slice a len cap] w fun e w' => e = .returned (.tuple #[.agg #[.int .i64 0, .string ⟨#[]⟩], .int .i64 62]) ∧ Below w.heap.size w w' := by
  have t1 : ((len : Int) != 32) = true := by simp; omega
  clear h
  go_enter Tryd.func6, Tryd.ntmps6
  go_wp2
  exact bodyPost_ret (v := .tuple #[.agg #[.int .i64 0, .string ⟨#[]⟩], .int .i64 62]) (by simp [results, Tryd.results6, go_sem]) rfl ⟨rfl, bel_alloc (Below.refl _ _) _⟩
set_option maxRecDepth 100000 in
set_option maxHeartbeats 4000000 in
theorem refDecE_any (b off cap : Nat) (bs : List Nat) (w : World) (hr : Row w (some ⟨b, off, none⟩) 32 bs) (hc : 32 ≤ cap) :
    Calls Tryd.prog 6 #[.slice (some ⟨b, off, none⟩) 32 cap] w fun e w' => e = .returned (decDR bs) ∧ Below w.heap.size w w' := by
  obtain ⟨V, hV⟩ : ∃ x, x = w.alloc (.cells #[.int .i64 0, .string ⟨#[]⟩] 31) := ⟨_, rfl⟩
  obtain ⟨p, hp⟩ : ∃ x, x = w.heap.size := ⟨_, rfl⟩
  have hvb : Below w.heap.size w V := by rw [hV]; exact bel_alloc (Below.refl _ _) _
  have hvh : V.heap[p]? = some (.cells #[.int .i64 0, .string ⟨#[]⟩] 31 (0, 0)) := by rw [hV, hp]; exact heap_alloc_new _ _
  have hpl : p < V.heap.size := (Array.getElem?_eq_some_iff.1 hvh).1
  have hrV := row_keep hr hvb (Nat.le_refl _)
  have HR := Lib.hid hrV
  have HX : Hid (∀ x : World, Below V.heap.size V x → x.heap[p]? = some (.cells #[.int .i64 0, .string ⟨#[]⟩] 31 (0, 0)) ∧ Below w.heap.size w x ∧ Row x (some ⟨b, off, none⟩) 32 bs) := Lib.hid fun x hx => ⟨(hx.block p hpl).trans hvh, bel_trans hvb hx, row_keep hrV hx (Nat.le_refl _)⟩
  have HP : Hid (w.heap.size ≤ p) := Lib.hid (by omega)
  have hbl : bs.length = 32 := hr.1
  have h4 : V.cell? ⟨b, off + 4, none⟩ = some (.int .u8 ((bs.getD 4 0 : Nat) : Int)) := by
    obtain ⟨b', off', x, e, hc, _, hx⟩ := row_cell hrV (show 4 < 32 by omega)
    cases e
    have hx : x = bs.getD 4 0 := hx.out
    rw [hx] at hc
    exact hc
  have hd : decDR bs = if goodR bs then .tuple #[.agg #[.int .i64 (ndOf bs : Int), .string (nmOf bs)], .int .i64 0] else .tuple #[.agg #[.int .i64 0, .string ⟨#[]⟩], .int .i64 62] := rfl
  unfold goodR at hd
  obtain ⟨k, hk⟩ : ∃ k, bs.getD 4 0 = k := ⟨_, rfl⟩
  rw [hk] at h4 hd
  have hk8 : k < 256 := by
    rw [← hk, getD_in _ _ (by omega)]
    exact hr.2.1 _ (List.getElem_mem _)
  have w1 : IntKind.i64.wrap (k : Int) = (k : Int) := by rw [IntKind.wrap_i64]; omega
  by_cases c0 : 27 < k
  · have t0 : decide ((27 : Int) < (k : Int)) = true := by simp; omega
    have t0' : decide (27 < k) = true := by simpa using c0
    have HD : Hid (decDR bs = .tuple #[.agg #[.int .i64 0, .string ⟨#[]⟩], .int .i64 62]) := Lib.hid (by rw [hd, decide_eq_false (by omega : ¬ k ≤ 27)]; rfl)
    obtain ⟨⟨z0, z1⟩, f0, f1⟩ := two_at hvh
    have HB := Lib.hid hvb
    clear hd hr hvb hvh hpl hrV hbl hk hk8 c0
    go_enter Tryd.func6, Tryd.ntmps6
    go_upto_region 1 with fail
    rw [← hV, ← hp]
    clear hV hp
    go_wp2_with fail
    exact bodyPost_ret (v := .tuple #[.agg #[.int .i64 0, .string ⟨#[]⟩], .int .i64 62]) (by simp [results, Tryd.results6, go_sem, z0, z1]) rfl ⟨by rw [HD.out], set2 HB.out HP.out _ _⟩
  have t0 : decide ((27 : Int) < (k : Int)) = false := by simp; omega
  have t0' : decide (27 < k) = false := by simpa using c0
  rw [decide_eq_true (by omega : k ≤ 27), Bool.true_and] at hd
  have HKL : Hid (k ≤ 27) := Lib.hid (by omega)
  obtain ⟨nd, hnd⟩ : ∃ x, ndOf bs = x := ⟨_, rfl⟩
  obtain ⟨nm, hnm⟩ : ∃ x, nmOf bs = x := ⟨_, rfl⟩
  obtain ⟨zz, hzz⟩ : ∃ x, zrOf bs = x := ⟨_, rfl⟩
  have HNS : Hid (nm.size ≤ 1000) := Lib.hid (by rw [← hnm, nmOf_len hbl (by omega)]; omega)
  have hnd4 : leVal ((bs.drop 0).take 4) = nd := by rw [← hnd]; rfl
  have hndl : nd < 4294967296 := by
    rw [← hnd4]
    have := leVal_lt ((bs.drop 0).take 4) (fun x hx => hr.2.1 x (List.mem_of_mem_drop (List.mem_of_mem_take hx)))
    rw [List.length_take, List.drop_zero, hbl] at this
    simpa using this
  rw [hnd, hnm, hzz] at hd
  have HD := Lib.hid hd
  obtain ⟨k5, hk5⟩ : ∃ x, 5 + k = x := ⟨_, rfl⟩
  have e5 : (5 : Int) + (k : Int) = (k5 : Int) := by omega
  have u5 : IntKind.i64.wrap (k5 : Int) = (k5 : Int) := by rw [IntKind.wrap_i64]; omega
  have u6 : IntKind.i64.wrap (nd : Int) = (nd : Int) := by rw [IntKind.wrap_i64]; omega
  have g1 : (5 : Int) ≤ (k5 : Int) := by omega
  have g2 : (k5 : Int) ≤ (cap : Int) := by omega
  have g2' : k5 ≤ 32 := by omega
  have g3 : ¬ (cap - 5 = 0) := by omega
  have g6 : ¬ cap = 5 := by omega
  have g4 : (k5 : Int) ≤ 32 := by omega
  have g5 : k5 - 5 = k := by omega
  have HNUM : Hid (∀ x : World, Below V.heap.size V x → Calls Tryd.prog 14 #[.slice (some ⟨b, off, none⟩) 32 cap, .int .i64 0, .int .i64 4] x fun e w' => e = .returned (.int .u64 (nd : Int)) ∧ w' = x) := Lib.hid fun x hx => by
    have h := numR_any (some ⟨b, off, none⟩) 32 cap bs 0 4 x (HX.out x hx).2.2 (by omega) (by omega) (by omega)
    rw [hnd4] at h
    exact h
  have hcv : ∀ x : World, Below V.heap.size V x → (convert 22 9 (.slice (some ⟨b, off + 5, none⟩) k (cap - 5))).run Tryd.prog x = .ok (.string nm) x := fun x hx => by
    have h1 := rowR_front (rowR_suffix (HX.out x hx).2.2 5 (by omega)) k (by omega)
    have h2 := conv_str x _ k (cap - 5) _ h1
    rw [h2, ← hnm]
    unfold nmOf
    rw [hk]
  have HCV := Lib.hid hcv
  have hcv0 := hcv V.drew (Below.refl _ _).drew
  have hcv1 := hcv (V.alloc (.cells #[.int .i64 0, .string ⟨#[]⟩] 31)).drew (bel_alloc (Below.refl _ _) _).drew
  have HZI : Hid (∀ x : World, Below V.heap.size V x → Calls Tryd.prog 15 #[.slice (some ⟨b, if cap - k5 = 0 then off else off + k5, none⟩) (32 - k5) (cap - k5)] x fun e w' => e = .returned (.bool zz) ∧ Below x.heap.size x w') := Lib.hid fun x hx => by
    have hz2 : zeros (bs.drop k5) = zz := by
      rw [← hzz]; unfold zrOf; rw [hk, hk5]
    rw [← hz2]
    by_cases hc0 : cap - k5 = 0
    · rw [if_pos hc0]
      have h1 : 32 - k5 = 0 := by omega
      have h2 : bs.drop k5 = [] := List.drop_of_length_le (by omega)
      rw [h2]
      have h3 := rowR_front (HX.out x hx).2.2 0 (by omega)
      rw [List.take_zero] at h3
      rw [h1]
      exact refIsZero_any (c := cap - k5) h3 (by omega)
    · rw [if_neg hc0]
      exact refIsZero_any (c := cap - k5) (rowR_suffix (HX.out x hx).2.2 k5 (by omega)) (by omega)
  have HCH := Lib.hid fun x : World => refCheck_any nm x (by have := HNS.out; omega)
  have HKK : Hid (k5 = 5 + k ∧ k5 ≤ 32 ∧ 32 ≤ cap) := Lib.hid (by omega)
  have HND : Hid (nd < 4294967296) := Lib.hid hndl
  clear hd hr hvb hvh hpl hrV hbl hk hk8 c0 hnd hnm hzz hnd4 hndl hk5 hcv hc
  go_enter Tryd.func6, Tryd.ntmps6
  go_upto_region 1 with fail
  rw [← hV, ← hp]
  clear hV hp
  go_upto_region 4 with fail
  clear h4 t0 t0' w1
  go_cut [5] from 21 to 29 (fun s5 wx => ∃ p5 : Nat, s5 = .pointer (some ⟨p5, 0, none⟩) ∧ wx.heap[p5]? = some (.cells #[.int .i64 (nd : Int), .string nm] 31 (0, 0)) ∧ Below V.heap.size V wx)
  case first =>
    go_region_law (first
      | (go_simp; go_at_call 14; ((with_reducible refine (HNUM.out _ ?_).mono ?_)); (· first | exact (Below.refl _ _).drew | exact (bel_alloc (Below.refl _ _) _).drew); (rintro e y ⟨rfl, rfl⟩)))
    all_goals
      go_wp2_with fail
      go_meet
      first | exact ⟨_, rfl, heap_alloc_new _ _, (bel_alloc (Below.refl _ _).drew _)⟩ | exact ⟨_, rfl, heap_alloc_new _ _, (bel_alloc (Below.refl _ _) _).drew⟩ | (trace_state; sorry)
  case rest =>
  obtain ⟨p5, rfl, hb5, hbx⟩ := hcut
  obtain ⟨X, rfl⟩ : ∃ x, x = wc := ⟨wc, rfl⟩
  have HBX := Lib.hid hbx
  have HB5 := Lib.hid hb5
  have HZ := Lib.hid (HZI.out _ hbx)
  clear hb5 hbx hcv0 hcv1 u6 g1 g2 g3 g5 g6 HCV HNUM HZI
  have g7 : (32 : Int) ≤ (cap : Int) := by have := HKK.out; omega
  have g8 : (0 : Int) ≤ (k5 : Int) := by omega
  have g9 : k5 ≤ cap := by have := HKK.out; omega
  by_cases hc5 : cap = k5
  · have g0 : cap - k5 = 0 := by omega
    rw [if_pos g0] at HZ
    subst hc5
    rw [Nat.sub_self] at HZ
    go_wp2_with fail
    ((with_reducible refine HZ.out.mono ?_))
    rintro e w1 ⟨rfl, hb1⟩
    have HB1 := Lib.hid (bel_trans HBX.out hb1)
    have y0 := pt_stepS (two_at HB5.out).1.1 hb1
    have y1 := pt_stepS (two_at HB5.out).1.2 hb1
    clear hb1
    cases zz with
    | false =>
      have HDD : Hid (decDR bs = .tuple #[.agg #[.int .i64 0, .string ⟨#[]⟩], .int .i64 62]) := Lib.hid (by rw [HD.out]; rfl)
      obtain ⟨⟨z0, z1⟩, f0, f1⟩ := two_at (HX.out _ HB1.out).1
      go_wp2_with fail
      exact bodyPost_ret (v := .tuple #[.agg #[.int .i64 0, .string ⟨#[]⟩], .int .i64 62]) (by simp [results, Tryd.results6, go_sem, z0, z1]) rfl ⟨by rw [HDD.out], set2 (HX.out _ HB1.out).2.1 HP.out _ _⟩
    | true =>
      by_cases hn : nd = 0
      · have t1 : ((nd : Int) == 0) = true := by simp; omega
        by_cases hk : k = 0
        · have t2 : ((k : Int) == 0) = true := by simp; omega
          have t3 : decide ((0 : Int) < (k : Int)) = false := by simp; omega
          have t3' : decide (0 < k) = false := by simp; omega
          have HDD : Hid (decDR bs = .tuple #[.agg #[.int .i64 (nd : Int), .string nm], .int .i64 0]) := Lib.hid (by rw [HD.out]; simp [hn, hk])
          clear hn hk
          obtain ⟨⟨z0, z1⟩, f0, f1⟩ := two_at (HX.out _ HB1.out).1
          go_wp2_with fail
          exact bodyPost_ret (v := .tuple #[.agg #[.int .i64 (nd : Int), .string nm], .int .i64 0]) (by simp [results, Tryd.results6, go_sem, z0, z1]) rfl ⟨by rw [HDD.out], set2 (HX.out _ HB1.out).2.1 HP.out _ _⟩
        · have t2 : ((k : Int) == 0) = false := by rw [beq_eq_false_iff_ne]; omega
          have HDD : Hid (decDR bs = .tuple #[.agg #[.int .i64 0, .string ⟨#[]⟩], .int .i64 62]) := Lib.hid (by rw [HD.out]; simp [hn, hk])
          clear hn hk
          obtain ⟨⟨z0, z1⟩, f0, f1⟩ := two_at (HX.out _ HB1.out).1
          go_wp2_with fail
          exact bodyPost_ret (v := .tuple #[.agg #[.int .i64 0, .string ⟨#[]⟩], .int .i64 62]) (by simp [results, Tryd.results6, go_sem, z0, z1]) rfl ⟨by rw [HDD.out], set2 (HX.out _ HB1.out).2.1 HP.out _ _⟩
      · have t1 : ((nd : Int) == 0) = false := by rw [beq_eq_false_iff_ne]; omega
        by_cases hk : k = 0
        · have t2 : ((k : Int) == 0) = true := by simp; omega
          have HDD : Hid (decDR bs = .tuple #[.agg #[.int .i64 0, .string ⟨#[]⟩], .int .i64 62]) := Lib.hid (by rw [HD.out]; simp [hn, hk])
          clear hn hk
          obtain ⟨⟨z0, z1⟩, f0, f1⟩ := two_at (HX.out _ HB1.out).1
          go_wp2_with fail
          exact bodyPost_ret (v := .tuple #[.agg #[.int .i64 0, .string ⟨#[]⟩], .int .i64 62]) (by simp [results, Tryd.results6, go_sem, z0, z1]) rfl ⟨by rw [HDD.out], set2 (HX.out _ HB1.out).2.1 HP.out _ _⟩
        · have t2 : ((k : Int) == 0) = false := by rw [beq_eq_false_iff_ne]; omega
          have t3 : decide ((0 : Int) < (k : Int)) = true := by simp; omega
          have t3' : decide (0 < k) = true := by simp; omega
          have HNK : Hid (¬ nd = 0 ∧ ¬ k = 0) := Lib.hid ⟨hn, hk⟩
          clear hn hk
          go_wp2_with fail
          ((with_reducible refine (HCH.out _).mono ?_))
          rintro e w2 ⟨rfl, hb2⟩
          have HB2 := Lib.hid (bel_trans HB1.out hb2)
          have x0 := pt_stepS y0 hb2
          have x1 := pt_stepS y1 hb2
          clear hb2 y0 y1
          obtain ⟨c, hc⟩ : ∃ x, checkOf nm = x := ⟨_, rfl⟩
          rw [hc] at HD ⊢
          clear hc
          by_cases h : c = 0
          · have t4 : (c != 0) = false := by simpa using h
            have HDD : Hid (decDR bs = .tuple #[.agg #[.int .i64 (nd : Int), .string nm], .int .i64 0]) := Lib.hid (by rw [HD.out]; simp [HNK.out.1, HNK.out.2, h])
            clear h
            obtain ⟨⟨z0, z1⟩, f0, f1⟩ := two_at (HX.out _ HB2.out).1
            go_wp2_with fail
            exact bodyPost_ret (v := .tuple #[.agg #[.int .i64 (nd : Int), .string nm], .int .i64 0]) (by simp [results, Tryd.results6, go_sem, z0, z1]) rfl ⟨by rw [HDD.out], set2 (HX.out _ HB2.out).2.1 HP.out _ _⟩
          · have t4 : (c != 0) = true := by simpa using h
            have HDD : Hid (decDR bs = .tuple #[.agg #[.int .i64 0, .string ⟨#[]⟩], .int .i64 62]) := Lib.hid (by rw [HD.out]; simp [HNK.out.1, HNK.out.2, h])
            clear h
            obtain ⟨⟨z0, z1⟩, f0, f1⟩ := two_at (HX.out _ HB2.out).1
            go_wp2_with fail
            exact bodyPost_ret (v := .tuple #[.agg #[.int .i64 0, .string ⟨#[]⟩], .int .i64 62]) (by simp [results, Tryd.results6, go_sem, z0, z1]) rfl ⟨by rw [HDD.out], set2 (HX.out _ HB2.out).2.1 HP.out _ _⟩
  · have g0 : ¬ (cap - k5 = 0) := by omega
    rw [if_neg g0] at HZ
    go_wp2_with fail
    ((with_reducible refine HZ.out.mono ?_))
    rintro e w1 ⟨rfl, hb1⟩
    have HB1 := Lib.hid (bel_trans HBX.out hb1)
    have y0 := pt_stepS (two_at HB5.out).1.1 hb1
    have y1 := pt_stepS (two_at HB5.out).1.2 hb1
    clear hb1
    cases zz with
    | false =>
      have HDD : Hid (decDR bs = .tuple #[.agg #[.int .i64 0, .string ⟨#[]⟩], .int .i64 62]) := Lib.hid (by rw [HD.out]; rfl)
      obtain ⟨⟨z0, z1⟩, f0, f1⟩ := two_at (HX.out _ HB1.out).1
      go_wp2_with fail
      exact bodyPost_ret (v := .tuple #[.agg #[.int .i64 0, .string ⟨#[]⟩], .int .i64 62]) (by simp [results, Tryd.results6, go_sem, z0, z1]) rfl ⟨by rw [HDD.out], set2 (HX.out _ HB1.out).2.1 HP.out _ _⟩
    | true =>
      by_cases hn : nd = 0
      · have t1 : ((nd : Int) == 0) = true := by simp; omega
        by_cases hk : k = 0
        · have t2 : ((k : Int) == 0) = true := by simp; omega
          have t3 : decide ((0 : Int) < (k : Int)) = false := by simp; omega
          have t3' : decide (0 < k) = false := by simp; omega
          have HDD : Hid (decDR bs = .tuple #[.agg #[.int .i64 (nd : Int), .string nm], .int .i64 0]) := Lib.hid (by rw [HD.out]; simp [hn, hk])
          clear hn hk
          obtain ⟨⟨z0, z1⟩, f0, f1⟩ := two_at (HX.out _ HB1.out).1
          go_wp2_with fail
          exact bodyPost_ret (v := .tuple #[.agg #[.int .i64 (nd : Int), .string nm], .int .i64 0]) (by simp [results, Tryd.results6, go_sem, z0, z1]) rfl ⟨by rw [HDD.out], set2 (HX.out _ HB1.out).2.1 HP.out _ _⟩
        · have t2 : ((k : Int) == 0) = false := by rw [beq_eq_false_iff_ne]; omega
          have HDD : Hid (decDR bs = .tuple #[.agg #[.int .i64 0, .string ⟨#[]⟩], .int .i64 62]) := Lib.hid (by rw [HD.out]; simp [hn, hk])
          clear hn hk
          obtain ⟨⟨z0, z1⟩, f0, f1⟩ := two_at (HX.out _ HB1.out).1
          go_wp2_with fail
          exact bodyPost_ret (v := .tuple #[.agg #[.int .i64 0, .string ⟨#[]⟩], .int .i64 62]) (by simp [results, Tryd.results6, go_sem, z0, z1]) rfl ⟨by rw [HDD.out], set2 (HX.out _ HB1.out).2.1 HP.out _ _⟩
      · have t1 : ((nd : Int) == 0) = false := by rw [beq_eq_false_iff_ne]; omega
        by_cases hk : k = 0
        · have t2 : ((k : Int) == 0) = true := by simp; omega
          have HDD : Hid (decDR bs = .tuple #[.agg #[.int .i64 0, .string ⟨#[]⟩], .int .i64 62]) := Lib.hid (by rw [HD.out]; simp [hn, hk])
          clear hn hk
          obtain ⟨⟨z0, z1⟩, f0, f1⟩ := two_at (HX.out _ HB1.out).1
          go_wp2_with fail
          exact bodyPost_ret (v := .tuple #[.agg #[.int .i64 0, .string ⟨#[]⟩], .int .i64 62]) (by simp [results, Tryd.results6, go_sem, z0, z1]) rfl ⟨by rw [HDD.out], set2 (HX.out _ HB1.out).2.1 HP.out _ _⟩
        · have t2 : ((k : Int) == 0) = false := by rw [beq_eq_false_iff_ne]; omega
          have t3 : decide ((0 : Int) < (k : Int)) = true := by simp; omega
          have t3' : decide (0 < k) = true := by simp; omega
          have HNK : Hid (¬ nd = 0 ∧ ¬ k = 0) := Lib.hid ⟨hn, hk⟩
          clear hn hk
          go_wp2_with fail
          ((with_reducible refine (HCH.out _).mono ?_))
          rintro e w2 ⟨rfl, hb2⟩
          have HB2 := Lib.hid (bel_trans HB1.out hb2)
          have x0 := pt_stepS y0 hb2
          have x1 := pt_stepS y1 hb2
          clear hb2 y0 y1
          obtain ⟨c, hc⟩ : ∃ x, checkOf nm = x := ⟨_, rfl⟩
          rw [hc] at HD ⊢
          clear hc
          by_cases h : c = 0
          · have t4 : (c != 0) = false := by simpa using h
            have HDD : Hid (decDR bs = .tuple #[.agg #[.int .i64 (nd : Int), .string nm], .int .i64 0]) := Lib.hid (by rw [HD.out]; simp [HNK.out.1, HNK.out.2, h])
            clear h
            obtain ⟨⟨z0, z1⟩, f0, f1⟩ := two_at (HX.out _ HB2.out).1
            go_wp2_with fail
            exact bodyPost_ret (v := .tuple #[.agg #[.int .i64 (nd : Int), .string nm], .int .i64 0]) (by simp [results, Tryd.results6, go_sem, z0, z1]) rfl ⟨by rw [HDD.out], set2 (HX.out _ HB2.out).2.1 HP.out _ _⟩
          · have t4 : (c != 0) = true := by simpa using h
            have HDD : Hid (decDR bs = .tuple #[.agg #[.int .i64 0, .string ⟨#[]⟩], .int .i64 62]) := Lib.hid (by rw [HD.out]; simp [HNK.out.1, HNK.out.2, h])
            clear h
            obtain ⟨⟨z0, z1⟩, f0, f1⟩ := two_at (HX.out _ HB2.out).1
            go_wp2_with fail
            exact bodyPost_ret (v := .tuple #[.agg #[.int .i64 0, .string ⟨#[]⟩], .int .i64 62]) (by simp [results, Tryd.results6, go_sem, z0, z1]) rfl ⟨by rw [HDD.out], set2 (HX.out _ HB2.out).2.1 HP.out _ _⟩
end Go.Proofs.YtdpkinppkhnjkaaDoor
