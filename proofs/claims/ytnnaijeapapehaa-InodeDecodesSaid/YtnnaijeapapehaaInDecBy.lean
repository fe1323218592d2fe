/- inode.Decode's own function: what it takes. -/
import Derived.Test.YtnnaijeapapehaaTakeB
import Derived.Test.YtnnaijeapapehaaInEnc
namespace Go.Proofs.Ytnnaijeapapehaa
open Go.RowKit

def Ino.cl (n : Ino) : Array Value := #[.int .u8 (n.ki : Int), .int .u16 (n.ln : Int), .int .u32 (n.sz : Int), .int .u32 (n.d0 : Int), .int .u32 (n.d1 : Int), .int .u32 (n.d2 : Int), .int .u32 (n.d3 : Int), .int .u32 (n.d4 : Int), .int .u32 (n.d5 : Int), .int .u32 (n.d6 : Int), .int .u32 (n.d7 : Int), .int .u32 (n.si : Int), .int .u32 (n.db : Int)]
def Ino.zero : Ino := ⟨0, 0, 0, 0, 0, 0, 0, 0, 0, 0, 0, 0, 0⟩
def Ino.setD (n : Ino) (k v : Nat) : Ino :=
  match k with
  | 0 => { n with d0 := v } | 1 => { n with d1 := v } | 2 => { n with d2 := v } | 3 => { n with d3 := v }
  | 4 => { n with d4 := v } | 5 => { n with d5 := v } | 6 => { n with d6 := v } | _ => { n with d7 := v }
theorem Ino.setD_cl (n : Ino) (k v : Nat) (hk : k < 8) : n.cl.setIfInBounds (3 + k) (.int .u32 (v : Int)) = (n.setD k v).cl := by
  rcases (show k = 0 ∨ k = 1 ∨ k = 2 ∨ k = 3 ∨ k = 4 ∨ k = 5 ∨ k = 6 ∨ k = 7 by omega) with rfl | rfl | rfl | rfl | rfl | rfl | rfl | rfl <;> rfl
theorem Ino.cl_no8 (n : Ino) (o q : Nat) (h : n.cl[o]? = some (.int .u8 (q : Int))) : o = 0 := by
  rcases Nat.lt_or_ge o 13 with h1 | h1
  · rcases (show o = 0 ∨ o = 1 ∨ o = 2 ∨ o = 3 ∨ o = 4 ∨ o = 5 ∨ o = 6 ∨ o = 7 ∨ o = 8 ∨ o = 9 ∨ o = 10 ∨ o = 11 ∨ o = 12 by omega) with rfl | rfl | rfl | rfl | rfl | rfl | rfl | rfl | rfl | rfl | rfl | rfl | rfl <;> first | rfl | (simp [Ino.cl] at h)
  · rw [Array.getElem?_eq_none (by simpa [Ino.cl] using h1)] at h; cases h
/-- The inode that bytes are, behind so many of the eight. -/
def num4 (bs : List Nat) (k : Nat) : Nat := leVal ((bs.drop k).take 4)
def inoD (n : Ino) (bs : List Nat) : Nat → Ino
  | 0 => n
  | k + 1 => (inoD n bs k).setD k (num4 bs (8 + 4 * k))
def inoOf (bs : List Nat) : Ino := { inoD { Ino.zero with ki := bs.getD 0 0, ln := leVal ((bs.drop 2).take 2), sz := num4 bs 4 } bs 8 with si := num4 bs 40, db := num4 bs 44 }
theorem inoD_rest (n : Ino) (bs : List Nat) (k : Nat) (hk : k ≤ 8) : (inoD n bs k).si = n.si ∧ (inoD n bs k).db = n.db := by
  induction k with
  | zero => exact ⟨rfl, rfl⟩
  | succ k ih =>
    obtain ⟨h1, h2⟩ := ih (by omega)
    rw [inoD]
    rcases (show k = 0 ∨ k = 1 ∨ k = 2 ∨ k = 3 ∨ k = 4 ∨ k = 5 ∨ k = 6 ∨ k = 7 by omega) with rfl | rfl | rfl | rfl | rfl | rfl | rfl | rfl <;> exact ⟨h1, h2⟩
def inBx (n : Ino) (z : Bool) : List (Array Value × TypeId) := [(n.cl, 26), (#[.bool z], 4)]
theorem ino_box {x : World} {p : Nat} {n : Ino} {t : TypeId} (h : x.heap[p]? = some (.cells n.cl t (0, 0))) : (∀ o, o < 13 → ∃ v, x.cell? ⟨p, o, none⟩ = some v) ∧ ∀ o, x.frozen? ⟨p, o, none⟩ = false := by
  refine ⟨fun o ho => ?_, fun o => by simp [World.frozen?, h]⟩
  have h2 : o < n.cl.size := ho
  exact ⟨n.cl[o], by simp [World.cell?, h, h2]⟩
section
variable {w W : World} {p pr pg : Nat} {x : World} {bs : List Nat} {n : Ino} {z : Bool}
/-- A store into the inode. -/
theorem TkB.ino (hI : TkB w W p pr pg (inBx n z) x bs) (hp : p + 2 ≤ pr) (hw : w.heap.size = p + 2) (hb : 2 ≤ bs.length) (j : Nat) (v : Value) (n' : Ino) (h : n.cl.setIfInBounds j v = n'.cl) : TkB w W p pr pg (inBx n' z) (x.setCell ⟨p, j, none⟩ v) bs :=
  hI.set hp hw 0 j v n.cl _ rfl (inBx n' z) (by unfold inBx; rw [h]; rfl) (fun o q e => ⟨Ino.cl_no8 n o q e, hb⟩) rfl
theorem TkB.fin (hI : TkB w W p pr pg (inBx n z) x bs) (hp : p + 2 ≤ pr) (hw : w.heap.size = p + 2) (z' : Bool) : TkB w W p pr pg (inBx n z') (x.setCell ⟨p + 1, 0, none⟩ (.bool z')) bs :=
  hI.set hp hw 1 0 _ #[.bool z] _ rfl (inBx n z') rfl (fun o q e => by
    exfalso
    rcases Nat.eq_zero_or_pos o with rfl | h
    · simp at e
    · rw [Array.getElem?_eq_none (by simp; omega)] at e; cases e) rfl
theorem TkB.inoCell (hI : TkB w W p pr pg (inBx n z) x bs) (o : Nat) (ho : o < 13) : (∃ v, x.cell? ⟨p, o, none⟩ = some v) ∧ x.frozen? ⟨p, o, none⟩ = false :=
  ⟨(ino_box (hI.box 0 _ _ rfl)).1 o ho, (ino_box (hI.box 0 _ _ rfl)).2 o⟩
theorem TkB.zCell (hI : TkB w W p pr pg (inBx n z) x bs) : x.cell? ⟨p + 1, 0, none⟩ = some (.bool z) ∧ x.frozen? ⟨p + 1, 0, none⟩ = false := by
  have h := hI.box 1 _ _ rfl
  simp [World.cell?, World.frozen?, h]
theorem TkB.iu8 {k : Nat} (hI : TkB w W p pr pg (inBx n z) x (bs.drop k)) (hp : p + 2 ≤ pr) (hk : k + 1 ≤ bs.length) {v : Nat} (hv : bs.getD k 0 = v) :
    Calls Try.prog 31 #[.pointer (some ⟨pr, 0, none⟩)] x fun e y => e = .returned (.int .u8 (v : Int)) ∧ TkB w W p pr pg (inBx n z) y (bs.drop (k + 1)) := by
  subst hv; exact hI.u8 hp hk
theorem TkB.iu16 {k : Nat} (hI : TkB w W p pr pg (inBx n z) x (bs.drop k)) (hp : p + 2 ≤ pr) (hk : k + 2 ≤ bs.length) {v : Nat} (hv : leVal ((bs.drop k).take 2) = v) :
    Calls Try.prog 32 #[.pointer (some ⟨pr, 0, none⟩)] x fun e y => e = .returned (.int .u16 (v : Int)) ∧ TkB w W p pr pg (inBx n z) y (bs.drop (k + 2)) := by
  subst hv; exact hI.u16 hp hk
theorem TkB.iu32 {k : Nat} (hI : TkB w W p pr pg (inBx n z) x (bs.drop k)) (hp : p + 2 ≤ pr) (hk : k + 4 ≤ bs.length) {v : Nat} (hv : leVal ((bs.drop k).take 4) = v) :
    Calls Try.prog 33 #[.pointer (some ⟨pr, 0, none⟩)] x fun e y => e = .returned (.int .u32 (v : Int)) ∧ TkB w W p pr pg (inBx n z) y (bs.drop (k + 4)) := by
  subst hv; exact hI.u32 hp hk
theorem TkB.izeros {k : Nat} (hI : TkB w W p pr pg (inBx n z) x (bs.drop k)) (hp : p + 2 ≤ pr) :
    Calls Try.prog 34 #[.pointer (some ⟨pr, 0, none⟩)] x fun e y => e = .returned (.bool (zeros (bs.drop k))) ∧ TkB w W p pr pg (inBx n z) y (bs.drop k) := hI.zero_ hp
end
theorem getD_take1 (bs : List Nat) (h : 1 ≤ bs.length) : leVal (bs.take 1) = bs.getD 0 0 := leVal_one bs h
set_option maxRecDepth 100000 in
set_option maxHeartbeats 4000000 in
theorem inDecBy (w W : World) (p pr pg c : Nat) (a : Option Addr) (bs : List Nat) (hl : bs.length = 64) (hw : w.heap.size = p + 2) (hp : p + 2 ≤ pr) (h0 : TkB w W p pr pg (inBx Ino.zero false) W bs) (_ : RD W pr pg a c bs) :
    Calls Try.prog 30 #[.pointer (some ⟨pr, 0, none⟩), .pointer (some ⟨p, 0, none⟩), .pointer (some ⟨p + 1, 0, none⟩)] W fun e W' => e = .returned (.tuple #[]) ∧ TkB w W p pr pg (inBx (inoOf bs) (bs.getD 1 0 == 0 && zeros (bs.drop 48))) W' (bs.drop 48) := by
  have HP := Lib.hid hp
  have HW := Lib.hid hw
  have HI0 : Hid (TkB w W p pr pg (inBx Ino.zero false) W (bs.drop 0)) := Lib.hid h0
  have HL := Lib.hid hl
  obtain ⟨ki, hki⟩ : ∃ x, bs.getD 0 0 = x := ⟨_, rfl⟩
  obtain ⟨be, hbe⟩ : ∃ x, bs.getD 1 0 = x := ⟨_, rfl⟩
  obtain ⟨ln, hln⟩ : ∃ x, leVal ((bs.drop 2).take 2) = x := ⟨_, rfl⟩
  obtain ⟨sz, hsz⟩ : ∃ x, leVal ((bs.drop 4).take 4) = x := ⟨_, rfl⟩
  obtain ⟨si, hsi⟩ : ∃ x, leVal ((bs.drop 40).take 4) = x := ⟨_, rfl⟩
  obtain ⟨db, hdb⟩ : ∃ x, leVal ((bs.drop 44).take 4) = x := ⟨_, rfl⟩
  obtain ⟨zz, hzz⟩ : ∃ x, zeros (bs.drop 48) = x := ⟨_, rfl⟩
  have HV := Lib.hid (And.intro hki (And.intro hbe (And.intro hln (And.intro hsz (And.intro hsi (And.intro hdb hzz))))))
  have hof : inoOf bs = { inoD { Ino.zero with ki := ki, ln := ln, sz := sz } bs 8 with si := si, db := db } := by
    unfold inoOf num4; rw [hki, hln, hsz, hsi, hdb]
  obtain ⟨base, hbase⟩ : ∃ n : Ino, n = { Ino.zero with ki := ki, ln := ln, sz := sz } := ⟨_, rfl⟩
  rw [← hbase] at hof
  have HBA := Lib.hid hbase
  obtain ⟨fin, hfin⟩ : ∃ n : Ino, n = { inoD base bs 8 with si := si, db := db } := ⟨_, rfl⟩
  rw [← hfin] at hof
  have HFI := Lib.hid hfin
  rw [hof, hbe, hzz]
  obtain ⟨fb, hfb⟩ : ∃ f, f = (be == 0 && zz) := ⟨_, rfl⟩
  rw [← hfb]
  have HFB := Lib.hid hfb
  clear hfb hbase hfin h0 hp hw hki hbe hln hsz hsi hdb hzz hof
  go_enter Try.func30, Try.ntmps30
  go_wp2_with fail
  ((with_reducible refine (HI0.out.iu8 (k := 0) HP.out (by have := HL.out; omega) HV.out.1).mono ?_))
  rintro e x1 ⟨rfl, h⟩
  obtain ⟨⟨v1, z1⟩, f1⟩ := h.inoCell 0 (by omega)
  have HI1 := Lib.hid (h.ino HP.out HW.out (by rw [List.length_drop]; have := HL.out; omega) 0 (.int .u8 (ki : Int)) ({ Ino.zero with ki := ki }) rfl)
  clear h
  go_wp2_with fail
  ((with_reducible refine (HI1.out.iu8 (k := 1) HP.out (by have := HL.out; omega) HV.out.2.1).mono ?_))
  rintro e x2 ⟨rfl, h⟩
  have HI2 := Lib.hid h
  clear h z1 f1
  go_wp2_with fail
  ((with_reducible refine (HI2.out.iu16 (k := 2) HP.out (by have := HL.out; omega) HV.out.2.2.1).mono ?_))
  rintro e x3 ⟨rfl, h⟩
  obtain ⟨⟨v3, z3⟩, f3⟩ := h.inoCell 1 (by omega)
  have HI3 := Lib.hid (h.ino HP.out HW.out (by rw [List.length_drop]; have := HL.out; omega) 1 (.int .u16 (ln : Int)) ({ Ino.zero with ki := ki, ln := ln }) rfl)
  clear h
  go_wp2_with fail
  ((with_reducible refine (HI3.out.iu32 (k := 4) HP.out (by have := HL.out; omega) HV.out.2.2.2.1).mono ?_))
  rintro e x4 ⟨rfl, h⟩
  obtain ⟨⟨v4, z4⟩, f4⟩ := h.inoCell 2 (by omega)
  have HI4 := Lib.hid (h.ino HP.out HW.out (by rw [List.length_drop]; have := HL.out; omega) 2 (.int .u32 (sz : Int)) ({ Ino.zero with ki := ki, ln := ln, sz := sz }) rfl)
  clear h
  rw [← HBA.out] at HI4
  go_wp2_with fail
  go_loopw [17] (fun iv wr => ∃ k : Nat, k ≤ 8 ∧ iv = .int .i64 (k : Int) ∧ TkB w W p pr pg (inBx (inoD base bs k) false) wr (bs.drop (8 + 4 * k))) (fun iv _ => 8 - (intOf iv).toNat)
  case atStart => exact ⟨0, by omega, rfl, HI4.out⟩
  case round =>
    obtain ⟨k, hk, rfl, hJ⟩ := hrel
    have HJ := Lib.hid hJ
    clear hJ z3 f3 z4 f4
    by_cases hlt : k < 8
    · obtain ⟨u, hu⟩ : ∃ u, leVal ((bs.drop (8 + 4 * k)).take 4) = u := ⟨_, rfl⟩
      have HU := Lib.hid hu
      have t1 : decide ((k : Int) < 8) = true := by simp; omega
      have i1 : (0 : Int) ≤ (k : Int) := by omega
      have i2 : (k : Int) < 8 := by omega
      clear hu
      go_wp2_with fail
      ((with_reducible refine (HJ.out.iu32 (k := 8 + 4 * k) HP.out (by have := HL.out; omega) HU.out).mono ?_))
      rintro e y ⟨rfl, h⟩
      obtain ⟨⟨v5, z5⟩, f5⟩ := h.inoCell (3 + k) (by omega)
      have h6 := h.ino HP.out HW.out (by rw [List.length_drop]; have := HL.out; omega) (3 + k) (.int .u32 (u : Int)) _ (Ino.setD_cl _ k u hlt)
      have HI6 : Hid (TkB w W p pr pg (inBx (inoD base bs (k + 1)) false) (y.setCell ⟨p, 3 + k, none⟩ (.int .u32 (u : Int))) (bs.drop (8 + 4 * (k + 1)))) := Lib.hid (by
        rw [inoD]
        unfold num4
        rw [HU.out]
        exact h6)
      clear h h6
      go_wp2_with fail
      go_roundw
      case rel => exact ⟨k + 1, by omega, by go_num, HI6.out⟩
      case measure => simp [intOf]; omega
    · obtain rfl : k = 8 := by omega
      have t1 : decide (((8 : Nat) : Int) < 8) = false := by decide
      have t2 : decide ((8 : Int) < 8) = false := by decide
      obtain ⟨nod, hnod⟩ : ∃ n : Ino, n = inoD base bs 8 := ⟨_, rfl⟩
      rw [← hnod] at HJ HFI
      clear hk hlt hnod
      go_wp2_with fail
      ((with_reducible refine (HJ.out.iu32 (k := 40) HP.out (by have := HL.out; omega) HV.out.2.2.2.2.1).mono ?_))
      rintro e y ⟨rfl, h⟩
      obtain ⟨⟨v6, z6⟩, f6⟩ := h.inoCell 11 (by omega)
      have HI6 := Lib.hid (h.ino HP.out HW.out (by rw [List.length_drop]; have := HL.out; omega) 11 (.int .u32 (si : Int)) { nod with si := si } rfl)
      clear h
      go_wp2_with fail
      ((with_reducible refine (HI6.out.iu32 (k := 44) HP.out (by have := HL.out; omega) HV.out.2.2.2.2.2.1).mono ?_))
      rintro e y2 ⟨rfl, h⟩
      obtain ⟨⟨v7, z7⟩, f7⟩ := h.inoCell 12 (by omega)
      have HI7 := Lib.hid (h.ino HP.out HW.out (by rw [List.length_drop]; have := HL.out; omega) 12 (.int .u32 (db : Int)) { nod with si := si, db := db } rfl)
      clear h z6 f6
      rw [← HFI.out] at HI7
      by_cases hb : be = 0
      · have t3 : ((be : Int) == 0) = true := by simp; omega
        have HF : Hid (fb = zz) := Lib.hid (by rw [HFB.out, hb]; simp)
        clear hb
        go_wp2_with fail
        ((with_reducible refine (HI7.out.izeros (k := 48) HP.out).mono ?_))
        rintro e y3 ⟨rfl, h⟩
        obtain ⟨z8, f8⟩ := h.zCell
        have HI8 := Lib.hid (h.fin HP.out HW.out zz)
        rw [HV.out.2.2.2.2.2.2]
        clear h z7 f7
        go_wp2_with fail
        go_end0
        exact ⟨rfl, by rw [HF.out]; exact HI8.out⟩
      · have t3 : ((be : Int) == 0) = false := by simp; omega
        have HF : Hid (fb = false) := Lib.hid (by
          have : (be == 0) = false := by simpa using hb
          rw [HFB.out, this, Bool.false_and])
        obtain ⟨z8, f8⟩ := HI7.out.zCell
        have HI8 := Lib.hid (HI7.out.fin HP.out HW.out false)
        clear hb
        go_wp2_with fail
        go_end0
        exact ⟨rfl, by rw [HF.out]; exact HI8.out⟩
end Go.Proofs.Ytnnaijeapapehaa
