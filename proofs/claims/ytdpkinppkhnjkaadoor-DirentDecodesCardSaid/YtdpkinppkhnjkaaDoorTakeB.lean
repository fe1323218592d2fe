/- A function that takes out of a reader, and sets boxes of its caller's. -/
import Derived.Test.YtdpkinppkhnjkaaDoorReaderMore
import Derived.Test.YtdpkinppkhnjkaaDoorEnds
import Derived.Laws.Rows
namespace Go.Proofs.YtdpkinppkhnjkaaDoor
open Go.RowKit

/-- A store into a block in which no two bytes stand side by side leaves the reader. -/
theorem rd_setB {wr : World} {pr pg c b j : Nat} {a : Option Addr} {bs : List Nat} (h : RD wr pr pg a c bs) (hb : b ≠ pr) (hno : ∀ o (q : Nat), wr.cell? ⟨b, o, none⟩ = some (.int .u8 (q : Int)) → o = 0 ∧ 2 ≤ bs.length) (v : Value) : RD (wr.setCell ⟨b, j, none⟩ v) pr pg a c bs := by
  have hk : ∀ k, k ≠ b → (wr.setCell ⟨b, j, none⟩ v).heap[k]? = wr.heap[k]? := fun k hk => Below.heap_setCell _ _ _ _ hk
  obtain ⟨r1, r2, r3, r4, r5, r6⟩ := h
  refine ⟨by rw [hk pr (fun e => hb e.symm)]; exact r1, ⟨r2.1, r2.2.1, fun h0 => ?_⟩, r3, r4, r5, r6⟩
  obtain ⟨b', o, e, hcs⟩ := r2.2.2 h0
  have hne : b' ≠ b := fun e2 => by
    have h1 := hcs 0 h0
    rw [e2] at h1
    obtain ⟨h2, h3⟩ := hno _ _ h1
    have h4 := hcs 1 (by omega)
    rw [e2] at h4
    have := (hno _ _ h4).1
    omega
  refine ⟨b', o, e, fun i hi => ?_⟩
  rw [World.cell?_of_block (w := wr) (a := ⟨b', o + i, none⟩) (hk b' hne)]
  exact hcs i hi
/-- The boxes stand at p, p + 1, ..; the last blocks of the caller's. -/
structure TkB (w W : World) (p pr pg : Nat) (bx : List (Array Value × TypeId)) (x : World) (bs : List Nat) : Prop where
  rd : ∃ a c, RD x pr pg a c bs
  box : ∀ i cs t, bx[i]? = some (cs, t) → x.heap[p + i]? = some (.cells cs t (0, 0))
  inner : Inner w.heap.size W pr x
  bel : Below p w x
section
variable {w W : World} {p pr pg : Nat} {bx : List (Array Value × TypeId)} {x : World} {bs : List Nat}
theorem tkB_start (hw : w.heap.size = p + bx.length) (hb : Below w.heap.size w W) {a : Option Addr} {c : Nat} (hr : RD W pr pg a c bs) (h0 : ∀ i cs t, bx[i]? = some (cs, t) → w.heap[p + i]? = some (.cells cs t (0, 0))) : TkB w W p pr pg bx W bs :=
  ⟨⟨a, c, hr⟩, fun i cs t h => (hb.block _ (by have := (List.getElem?_eq_some_iff.1 h).1; omega)).trans (h0 i cs t h), ⟨Nat.le_refl _, fun _ _ _ _ => rfl⟩, hb.mono (by omega)⟩
theorem TkB.num (hI : TkB w W p pr pg bx x bs) (hp : p + bx.length ≤ pr) {rc s : Nat} {v : Value} {e : Ending} {w' : World} (hr : NumRet x pr pg rc bs s v e w') : e = .returned v ∧ TkB w W p pr pg bx w' (bs.drop s) := by
  obtain ⟨a2, rfl, rfl, hrd⟩ := hr
  have hk : ∀ j, j ≠ pr → (x.setCell ⟨pr, 0, none⟩ (.slice a2 (bs.length - s) (rc - s))).heap[j]? = x.heap[j]? := fun j hj => Below.heap_setCell _ _ _ _ hj
  refine ⟨rfl, ⟨_, _, hrd⟩, fun i cs t h => ?_, ⟨by simpa [World.setCell] using hI.inner.1, fun j k1 k2 k3 => by rw [hk j k3]; exact hI.inner.2 j k1 k2 k3⟩, hI.bel.setCell (p := ⟨pr, 0, none⟩) (by show p ≤ pr; omega) _⟩
  have := (List.getElem?_eq_some_iff.1 h).1
  rw [hk _ (by omega)]
  exact hI.box i cs t h
/-- A store into one of the boxes. -/
theorem TkB.set (hI : TkB w W p pr pg bx x bs) (hp : p + bx.length ≤ pr) (hw : w.heap.size = p + bx.length) (i j : Nat) (v : Value) (cs : Array Value) (t : TypeId) (hi : bx[i]? = some (cs, t)) (bx' : List (Array Value × TypeId)) (hbx : bx.set i (cs.setIfInBounds j v, t) = bx') (hno : ∀ o (q : Nat), cs[o]? = some (.int .u8 (q : Int)) → o = 0 ∧ 2 ≤ bs.length) {d : Nat} (hd : d = p + i) :
    TkB w W p pr pg bx' (x.setCell ⟨d, j, none⟩ v) bs := by
  subst hd hbx
  have hil := (List.getElem?_eq_some_iff.1 hi).1
  have hbk := hI.box i cs t hi
  have hk : ∀ y, y ≠ p + i → (x.setCell ⟨p + i, j, none⟩ v).heap[y]? = x.heap[y]? := fun y hy => Below.heap_setCell _ _ _ _ hy
  obtain ⟨a, c, hrd⟩ := hI.rd
  refine ⟨⟨a, c, rd_setB hrd (by omega) (fun o q e => hno o q (by simpa [World.cell?, hbk] using e)) v⟩, fun k cs' t' h => ?_, ⟨by simpa [World.setCell] using hI.inner.1, fun y k1 k2 k3 => by rw [hk y (by omega)]; exact hI.inner.2 y k1 k2 k3⟩, hI.bel.setCell (p := ⟨p + i, j, none⟩) (by show p ≤ p + i; omega) _⟩
  by_cases e : k = i
  · subst e
    rw [List.getElem?_set_self hil] at h
    simp only [Option.some.injEq, Prod.mk.injEq] at h
    obtain ⟨rfl, rfl⟩ := h
    exact heap_setCell_same _ _ _ _ _ _ hbk
  · rw [List.getElem?_set_ne (fun e2 => e e2.symm)] at h
    rw [hk _ (by omega)]
    exact hI.box k cs' t' h
theorem TkB.step (hI : TkB w W p pr pg bx x bs) (hp : p + bx.length ≤ pr) {y : World} (hb : Below x.heap.size x y) : TkB w W p pr pg bx y bs := by
  obtain ⟨a, c, hrd⟩ := hI.rd
  have hpl := (Array.getElem?_eq_some_iff.1 hrd.1).1
  exact ⟨⟨a, c, rd_below hrd hb⟩, fun i cs t h => (hb.block _ (by have := (List.getElem?_eq_some_iff.1 h).1; omega)).trans (hI.box i cs t h), ⟨Nat.le_trans hI.inner.1 hb.size, fun j k1 k2 k3 => (hb.block _ (Nat.lt_of_lt_of_le k2 hI.inner.1)).trans (hI.inner.2 j k1 k2 k3)⟩, hI.bel.trans (hb.mono (by omega))⟩
theorem TkB.u8 {k : Nat} (hI : TkB w W p pr pg bx x (bs.drop k)) (hp : p + bx.length ≤ pr) (hk : k + 1 ≤ bs.length) :
    Calls Tryd.prog 25 #[.pointer (some ⟨pr, 0, none⟩)] x fun e y => e = .returned (.int .u8 ((bs.getD k 0 : Nat) : Int)) ∧ TkB w W p pr pg bx y (bs.drop (k + 1)) := by
  obtain ⟨a, c, hr⟩ := hI.rd
  refine (rU8_ok hr (by rw [List.length_drop]; omega)).mono fun e y h => ?_
  obtain ⟨rfl, h2⟩ := hI.num hp h
  rw [List.drop_drop] at h2
  refine ⟨?_, h2⟩
  rw [List.getD_eq_getElem?_getD, List.getElem?_drop, Nat.add_zero, ← List.getD_eq_getElem?_getD]
theorem TkB.u32 {k : Nat} (hI : TkB w W p pr pg bx x (bs.drop k)) (hp : p + bx.length ≤ pr) (hk : k + 4 ≤ bs.length) :
    Calls Tryd.prog 10 #[.pointer (some ⟨pr, 0, none⟩)] x fun e y => e = .returned (.int .u32 ((leVal ((bs.drop k).take 4) : Nat) : Int)) ∧ TkB w W p pr pg bx y (bs.drop (k + 4)) := by
  obtain ⟨a, c, hr⟩ := hI.rd
  refine (rU32_ok hr (by rw [List.length_drop]; omega)).mono fun e y h => ?_
  obtain ⟨rfl, h2⟩ := hI.num hp h
  rw [List.drop_drop] at h2
  exact ⟨rfl, h2⟩
theorem TkB.zero_ {k : Nat} (hI : TkB w W p pr pg bx x (bs.drop k)) (hp : p + bx.length ≤ pr) :
    Calls Tryd.prog 12 #[.pointer (some ⟨pr, 0, none⟩)] x fun e y => e = .returned (.bool (zeros (bs.drop k))) ∧ TkB w W p pr pg bx y (bs.drop k) := by
  obtain ⟨a, c, hr⟩ := hI.rd
  exact (rZero_any hr).mono fun e y h => ⟨h.1, hI.step hp h.2⟩
end
end Go.Proofs.YtdpkinppkhnjkaaDoor
