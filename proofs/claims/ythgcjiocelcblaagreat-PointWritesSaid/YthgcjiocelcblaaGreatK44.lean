/- Parts of the proof: PtWritten, PtLight, PtSame, PtCodes, StructIn, PtIn. -/
import Derived.Test.YthgcjiocelcblaaGreatK43
import Derived.Test.YthgcjiocelcblaaGreatK41
import Derived.Deep.RegionHeld3
import Derived.Test.YthgcjiocelcblaaGreatK05
import Derived.Deep.Strs
import Derived.Deep.Slices
namespace Go.Proofs.YthgcjiocelcblaaGreat
open Go.RowKit Go.Deep

theorem rowU_lit {w : World} {b : Nat} (l : List Nat) (h : w.heap[b]? = some (.cells (valU l).toArray 22 (0, 0))) (hl : ∀ y ∈ l, y < 4294967296) : RowK .u32 4294967296 w (some ⟨b, 0, none⟩) l.length l := by
  refine ⟨rfl, hl, fun _ => ⟨b, 0, rfl, fun i hi => ?_⟩⟩
  have h1 : w.cell? ⟨b, 0 + i, none⟩ = (valU l).toArray[i]? := by simp [World.cell?, h]
  rw [h1]
  unfold valU
  rw [List.getElem?_toArray, List.getElem?_map, List.getElem?_eq_getElem hi, getD_in _ _ hi]
  rfl
theorem ptG_zero : ptG 0 = 3 := by
  unfold ptG
  rw [IntKind.wrap_u64, show ((0 : Int) % 18446744073709551616).tmod 3 = 0 by decide, IntWalk.wrap64_in 0 (by omega), IntWalk.wrap64_in _ (by omega)]
  rfl
theorem Mem2.below {B : Nat} {s s' : RS} {n k : Nat} {X : Nat → PtD} {w w' : World} (h : Mem2 B s n k X w) (hs : RStep s w s' w') : Below B w w' := hs.below h.ram h.hB
theorem rowU_nil (w : World) : RowK .u32 4294967296 w none 0 [] := ⟨rfl, (fun y hy => by cases hy), fun h => absurd h (by omega)⟩
set_option maxRecDepth 100000 in
set_option maxHeartbeats 4000000 in
theorem written_any (w : World) : Calls Tryz.prog 8 #[] w fun e w' => e = .returned (.bool true) ∧ Below w.heap.size w w' := by
  have HSH : Hid (Calls Tryz.prog 19 #[.int .i64 0] w fun e w' => e = .returned (.agg #[.int .i64 3, .int .i64 20, .int .i64 6, .int .i64 256]) ∧ Below w.heap.size w w') := Lib.hid (by have h := ptShape_any 0 w; rw [ptG_zero] at h; exact h)
  have HNEW : Hid (∀ x : World, Calls Tryz.prog 20 #[.agg #[.int .i64 3, .int .i64 20, .int .i64 6, .int .i64 256]] x (NewRet 3 20 6 256 x)) := Lib.hid fun x => ramNew_any 3 20 6 256 x (ptGood 3 (by omega))
  go_enter Tryz.func8, Tryz.ntmps8
  go_wp2_with fail
  ((with_reducible refine HSH.out.mono ?_))
  rintro e w1 ⟨rfl, hb1⟩
  have HB1 := Lib.hid hb1
  clear hb1
  go_wp2_with fail
  ((with_reducible refine (HNEW.out w1).mono ?_))
  rintro e w2 ⟨rb, pb, gb, rfl, hr, hb2⟩
  have HM2 := Lib.hid (mem2_new hr hb2.size (by omega))
  have HB2 := Lib.hid (HB1.out.trans (hb2.mono HB1.out.size))
  have hrb : (rsNew rb pb gb 3 20 6 256).rb = rb := rfl
  obtain ⟨s, hs⟩ : ∃ s, s = rsNew rb pb gb 3 20 6 256 := ⟨_, rfl⟩
  rw [← hs] at HM2 hrb
  subst hrb
  clear hr hb2 hs
  obtain ⟨w3, hw3⟩ : ∃ x, x = w2.alloc (.cells #[.int .u32 1, .int .u32 2] 22) := ⟨_, rfl⟩
  obtain ⟨a1, ha1⟩ : ∃ x, x = w2.heap.size := ⟨_, rfl⟩
  have hb3 : Below w2.heap.size w2 w3 := by rw [hw3]; exact bel_alloc (Below.refl _ _) _
  have hrow : RowK .u32 4294967296 w3 (some ⟨a1, 0, none⟩) 2 [1, 2] := by rw [ha1]; exact rowU_lit [1, 2] (by rw [hw3]; exact heap_alloc_new _ _) (by simp)
  have HM3 := Lib.hid (HM2.out.step hb3)
  have HW1 : Hid (Calls Tryz.prog 21 #[.iface 51 (.pointer (some ⟨s.rb, 0, none⟩)), .agg #[.int .u32 6, .int .u32 0, .slice (some ⟨a1, 0, none⟩) 2 2, .slice none 0 0]] w3 fun e w' =>
      ∃ s', e = .returned (.int .i64 0) ∧ Mem2 w1.heap.size s' 3 1 (setX (fun _ => PtD.zero) 0 ⟨true, 6, 0, [1, 2], [], 6⟩) w' ∧ RStep s w3 s' w') := Lib.hid (mem2_write HM3.out (by omega) 6 0 (some ⟨a1, 0, none⟩) 2 2 [1, 2] none 0 0 [] ⟨(show (6 : Nat) < 4294967296 by decide), (show (0 : Nat) < 4294967296 by decide), hrow, rowU_nil _⟩ (by omega) (by omega) (by decide))
  have HB3 := Lib.hid (HB2.out.trans (hb3.mono HB2.out.size))
  clear hb3 hrow
  go_wp2_with fail
  rw [← hw3, ← ha1]
  clear hw3 ha1
  ((with_reducible refine HW1.out.mono ?_))
  rintro e w4 ⟨s4, rfl, hM4, hst4⟩
  obtain ⟨hrb4, -⟩ := hst4.same
  rw [← hrb4]
  have HM4 := Lib.hid hM4
  have HB4 : Hid (Below w.heap.size w w4) := Lib.hid (HB3.out.trans ((HM3.out.below hst4).mono HB1.out.size))
  clear hst4 hM4 hrb4
  obtain ⟨w5, hw5⟩ : ∃ x, x = w4.alloc (.cells #[.int .u32 4] 22) := ⟨_, rfl⟩
  obtain ⟨w6, hw6⟩ : ∃ x, x = w5.alloc (.cells #[.int .u32 9] 22) := ⟨_, rfl⟩
  obtain ⟨a2, ha2⟩ : ∃ x, x = w4.heap.size := ⟨_, rfl⟩
  have hz5 : w5.heap.size = a2 + 1 := by rw [hw5, ha2]; simp
  have hb5 : Below w4.heap.size w4 w5 := by rw [hw5]; exact bel_alloc (Below.refl _ _) _
  have hb6 : Below w5.heap.size w5 w6 := by rw [hw6]; exact bel_alloc (Below.refl _ _) _
  have hb46 : Below w4.heap.size w4 w6 := hb5.trans (hb6.mono hb5.size)
  have hr5 : w6.heap[a2]? = some (.cells #[.int .u32 4] 22 (0, 0)) := (hb6.block a2 (by omega)).trans (by rw [hw5, ha2]; exact heap_alloc_new _ _)
  have hr6 : w6.heap[a2 + 1]? = some (.cells #[.int .u32 9] 22 (0, 0)) := by rw [hw6, ← hz5]; exact heap_alloc_new _ _
  have hrow5 : RowK .u32 4294967296 w6 (some ⟨a2, 0, none⟩) 1 [4] := rowU_lit [4] hr5 (by simp)
  have hrow6 : RowK .u32 4294967296 w6 (some ⟨a2 + 1, 0, none⟩) 1 [9] := rowU_lit [9] hr6 (by simp)
  have HM6 := Lib.hid (HM4.out.step hb46)
  have HW2 : Hid (Calls Tryz.prog 21 #[.iface 51 (.pointer (some ⟨s4.rb, 0, none⟩)), .agg #[.int .u32 7, .int .u32 3, .slice (some ⟨a2, 0, none⟩) 1 1, .slice (some ⟨a2 + 1, 0, none⟩) 1 1]] w6 fun e w' =>
      ∃ s', e = .returned (.int .i64 0) ∧ Mem2 w1.heap.size s' 3 2 (setX (setX (fun _ => PtD.zero) 0 ⟨true, 6, 0, [1, 2], [], 6⟩) 1 ⟨true, 7, 3, [4], [9], 7⟩) w' ∧ RStep s4 w6 s' w') := Lib.hid (mem2_write HM6.out (by omega) 7 3 (some ⟨a2, 0, none⟩) 1 1 [4] (some ⟨a2 + 1, 0, none⟩) 1 1 [9] ⟨(show (7 : Nat) < 4294967296 by decide), (show (3 : Nat) < 4294967296 by decide), hrow5, hrow6⟩ (by omega) (by omega) (by decide))
  have HB6 := Lib.hid (HB4.out.trans (hb46.mono HB4.out.size))
  clear hz5 hb5 hb6 hb46 hr5 hr6 hrow5 hrow6
  go_wp2_with fail
  rw [← hw5, ← hw6, ← ha2]
  clear hw5 hw6 ha2
  ((with_reducible refine HW2.out.mono ?_))
  rintro e w7 ⟨s7, rfl, hM7, hst7⟩
  obtain ⟨hrb7, -⟩ := hst7.same
  rw [← hrb7]
  have HM7 := Lib.hid hM7
  have HB7 : Hid (Below w.heap.size w w7) := Lib.hid (HB6.out.trans ((HM6.out.below hst7).mono HB1.out.size))
  clear hst7 hM7 hrb7
  have HLA : Hid (Calls Tryz.prog 22 #[.iface 51 (.pointer (some ⟨s7.rb, 0, none⟩))] w7 (RdIs true 7 3 [4] [9] 7 w7)) := Lib.hid (mem2_last HM7.out)
  go_wp2_with fail
  ((with_reducible refine HLA.out.mono ?_))
  rintro e w8 ⟨hb8, v1, v2, rfl, ho1, ho2⟩
  obtain ⟨qa, qc, rfl, hq⟩ := ownU_row ho1 (by simp)
  obtain ⟨ra, rn, rc, rfl⟩ := ownU_sl ho2
  obtain ⟨b, off, rfl, hcell⟩ := hq.2.2 (by decide)
  have hc0 : w8.cell? ⟨b, off, none⟩ = some (.int .u32 4) := hcell 0 (by decide)
  obtain ⟨w9, hw9⟩ : ∃ x, x = w8.alloc (.cells #[.int .u32 7, .int .u32 3, .slice (some ⟨b, off, none⟩) 1 qc, .slice ra rn rc] 25) := ⟨_, rfl⟩
  obtain ⟨pb9, hpb⟩ : ∃ x, x = w8.heap.size := ⟨_, rfl⟩
  have hb9 : Below w8.heap.size w8 w9 := by rw [hw9]; exact bel_alloc (Below.refl _ _) _
  have hp9 : w9.heap[pb9]? = some (.cells (pCs 7 3 (.slice (some ⟨b, off, none⟩) 1 qc) (.slice ra rn rc)) 25 (0, 0)) := by rw [hw9, hpb]; exact heap_alloc_new _ _
  obtain ⟨⟨z0, z1, z2, z3⟩, -⟩ := pt4_at hp9
  have c9 := cell_step hc0 hb9
  have HB9 := Lib.hid (HB7.out.trans ((hb8.trans (hb9.mono hb8.size)).mono HB7.out.size))
  clear ho1 ho2 hq hcell hc0 hb8 hb9 hp9
  go_upto_region 5 with fail
  rw [← hw9, ← hpb]
  clear hw9 hpb
  go_wp2_with fail
  go_ret
  exact ⟨rfl, HB9.out⟩
end Go.Proofs.YthgcjiocelcblaaGreat

namespace Go.Proofs.YthgcjiocelcblaaGreat
open Go.RowKit Go.Deep

set_option maxRecDepth 100000 in
theorem ptLight_any (sq ba : Nat) (ma : Option Addr) (mn mc : Nat) (ea : Option Addr) (en ec : Nat) (w : World) :
    Calls Tryz.prog 9 #[.agg #[.int .u32 (sq : Int), .int .u32 (ba : Int), .slice ma mn mc, .slice ea en ec]] w fun e w' => e = .returned (.bool (decide (mn ≤ 900 ∧ en ≤ 100))) ∧ Below w.heap.size w w' := by
  obtain ⟨W, hW⟩ : ∃ x, x = w.alloc (.cells #[.int .u32 (sq : Int), .int .u32 (ba : Int), .slice ma mn mc, .slice ea en ec] 25) := ⟨_, rfl⟩
  obtain ⟨b, hb⟩ : ∃ x, x = w.heap.size := ⟨_, rfl⟩
  have hB : Below w.heap.size w W := by rw [hW]; exact bel_alloc (Below.refl _ _) _
  have hh : W.heap[b]? = some (.cells (pCs sq ba (.slice ma mn mc) (.slice ea en ec)) 25 (0, 0)) := by rw [hW, hb]; exact heap_alloc_new _ _
  obtain ⟨⟨z0, z1, z2, z3⟩, -⟩ := pt4_at hh
  have HB := Lib.hid hB
  clear hB hh
  by_cases h1 : mn ≤ 900
  · have q1 : decide ((mn : Int) ≤ 900) = true := by simp; omega
    by_cases h2 : en ≤ 100
    · have q2 : decide ((en : Int) ≤ 100) = true := by simp; omega
      rw [show decide (mn ≤ 900 ∧ en ≤ 100) = true by simp [h1, h2]]
      clear h1 h2
      go_enter Tryz.func9, Tryz.ntmps9
      go_upto_region 1 with fail
      rw [← hW, ← hb]
      clear hW hb
      go_wp2_with fail
      go_ret
      exact ⟨rfl, HB.out⟩
    · have q2 : decide ((en : Int) ≤ 100) = false := by simp; omega
      rw [show decide (mn ≤ 900 ∧ en ≤ 100) = false by simp [h2]]
      clear h1 h2
      go_enter Tryz.func9, Tryz.ntmps9
      go_upto_region 1 with fail
      rw [← hW, ← hb]
      clear hW hb
      go_wp2_with fail
      go_ret
      exact ⟨rfl, HB.out⟩
  · have q1 : decide ((mn : Int) ≤ 900) = false := by simp; omega
    rw [show decide (mn ≤ 900 ∧ en ≤ 100) = false by simp [h1]]
    clear h1
    go_enter Tryz.func9, Tryz.ntmps9
    go_upto_region 1 with fail
    rw [← hW, ← hb]
    clear hW hb
    go_wp2_with fail
    go_ret
    exact ⟨rfl, HB.out⟩
end Go.Proofs.YthgcjiocelcblaaGreat

namespace Go.Proofs.YthgcjiocelcblaaGreat
open Go.RowKit

theorem own_rowAt {B : Nat} {x : World} {a : Option Addr} {n c : Nat} {l : List Nat} (h : Own B x (.slice a n c) l) : Row x a n l := by
  obtain ⟨a', c', e, hr, _⟩ := row_of_own h
  simp only [Value.slice.injEq] at e
  obtain ⟨rfl, rfl, rfl⟩ := e
  exact hr
set_option maxRecDepth 100000 in
set_option maxHeartbeats 2000000 in
theorem ptSame_any (sq ba : Nat) (ma : Option Addr) (mn mc : Nat) (ml : List Nat) (ea : Option Addr) (en ec : Nat) (el : List Nat) (na : Option Addr) (nc : Nat) (fa : Option Addr) (fc : Nat) (w : World) (hsq : sq < 4294967296) (hba : ba < 4294967296) (hM : RowK .i64 4294967296 w ma mn ml) (hE : RowK .i64 4294967296 w ea en el) (hN : RowK .i64 4294967296 w na mn ml) (hF : RowK .i64 4294967296 w fa en el) (hm : mn ≤ 1000) (he : en ≤ 1000) :
    Calls Tryz.prog 16 #[.agg #[.int .i64 (sq : Int), .int .i64 (ba : Int), .slice ma mn mc, .slice ea en ec], .agg #[.int .i64 (sq : Int), .int .i64 (ba : Int), .slice na mn nc, .slice fa en fc]] w fun e w' => e = .returned (.bool true) ∧ Below w.heap.size w w' := by
  obtain ⟨W, hW⟩ : ∃ x, x = (w.alloc (.cells #[.int .i64 (sq : Int), .int .i64 (ba : Int), .slice ma mn mc, .slice ea en ec] 39)).alloc (.cells #[.int .i64 (sq : Int), .int .i64 (ba : Int), .slice na mn nc, .slice fa en fc] 39) := ⟨_, rfl⟩
  obtain ⟨b, hb⟩ : ∃ x, x = w.heap.size := ⟨_, rfl⟩
  have hB0 : Below w.heap.size w (w.alloc (.cells #[.int .i64 (sq : Int), .int .i64 (ba : Int), .slice ma mn mc, .slice ea en ec] 39)) := bel_alloc (Below.refl _ _) _
  have hB1 : Below w.heap.size w W := by rw [hW]; exact bel_alloc hB0 _
  have l1 : W.heap[b + 1]? = some (.cells #[.int .i64 (sq : Int), .int .i64 (ba : Int), .slice na mn nc, .slice fa en fc] 39 (0, 0)) := by
    have := heap_alloc_new (w.alloc (.cells #[.int .i64 (sq : Int), .int .i64 (ba : Int), .slice ma mn mc, .slice ea en ec] 39)) (.cells #[.int .i64 (sq : Int), .int .i64 (ba : Int), .slice na mn nc, .slice fa en fc] 39)
    rw [hW, hb]
    simpa using this
  have l0 : W.heap[b]? = some (.cells #[.int .i64 (sq : Int), .int .i64 (ba : Int), .slice ma mn mc, .slice ea en ec] 39 (0, 0)) := by
    rw [hW, hb]
    exact ((bel_alloc (Below.refl _ (w.alloc (.cells #[.int .i64 (sq : Int), .int .i64 (ba : Int), .slice ma mn mc, .slice ea en ec] 39))) _).block _ (by simp)).trans (heap_alloc_new w _)
  have HX : Hid (∀ x : World, Below W.heap.size W x → (x.cell? ⟨b, 0, none⟩ = some (.int .i64 (sq : Int)) ∧ x.cell? ⟨b, 1, none⟩ = some (.int .i64 (ba : Int)) ∧ x.cell? ⟨b, 2, none⟩ = some (.slice ma mn mc) ∧ x.cell? ⟨b, 3, none⟩ = some (.slice ea en ec)) ∧ (x.cell? ⟨b + 1, 0, none⟩ = some (.int .i64 (sq : Int)) ∧ x.cell? ⟨b + 1, 1, none⟩ = some (.int .i64 (ba : Int)) ∧ x.cell? ⟨b + 1, 2, none⟩ = some (.slice na mn nc) ∧ x.cell? ⟨b + 1, 3, none⟩ = some (.slice fa en fc))) := Lib.hid fun x hx =>
    ⟨pt_four ((hx.block _ (Array.getElem?_eq_some_iff.1 l0).1).trans l0), pt_four ((hx.block _ (Array.getElem?_eq_some_iff.1 l1).1).trans l1)⟩
  have HA : Hid (∀ x : World, Below W.heap.size W x → Calls Tryz.prog 14 #[.agg #[.int .i64 (sq : Int), .int .i64 (ba : Int), .slice ma mn mc, .slice ea en ec]] x (RetOwn x (ptB sq ba ml el))) := Lib.hid fun x hx => refPtEncode_any sq ba ma mn mc ml ea en ec el x hsq hba (rowK_below (rowK_below hM hB1) hx) (rowK_below (rowK_below hE hB1) hx) hm he
  have HQ : Hid (∀ x : World, Below W.heap.size W x → Calls Tryz.prog 14 #[.agg #[.int .i64 (sq : Int), .int .i64 (ba : Int), .slice na mn nc, .slice fa en fc]] x (RetOwn x (ptB sq ba ml el))) := Lib.hid fun x hx => refPtEncode_any sq ba na mn nc ml fa en fc el x hsq hba (rowK_below (rowK_below hN hB1) hx) (rowK_below (rowK_below hF hB1) hx) hm he
  have HB1 := Lib.hid hB1
  obtain ⟨P, hP⟩ : ∃ l, l = ptB sq ba ml el := ⟨_, rfl⟩
  rw [← hP] at HA HQ
  clear hM hE hN hF hm he hsq hba l0 l1 hB0 hB1 hP
  go_enter Tryz.func16, Tryz.ntmps16
  go_upto_region 1 with fail
  rw [← hW, ← hb]
  clear hW hb
  have HBD : Hid (Below W.heap.size W W.drew) := Lib.hid (Below.refl _ _).drew
  have hS0 := HX.out W.drew HBD.out
  go_region_held3 (fun x => (x.cell? ⟨b, 0, none⟩ = some (.int .i64 (sq : Int)) ∧ x.cell? ⟨b, 1, none⟩ = some (.int .i64 (ba : Int)) ∧ x.cell? ⟨b, 2, none⟩ = some (.slice ma mn mc) ∧ x.cell? ⟨b, 3, none⟩ = some (.slice ea en ec)) ∧ (x.cell? ⟨b + 1, 0, none⟩ = some (.int .i64 (sq : Int)) ∧ x.cell? ⟨b + 1, 1, none⟩ = some (.int .i64 (ba : Int)) ∧ x.cell? ⟨b + 1, 2, none⟩ = some (.slice na mn nc) ∧ x.cell? ⟨b + 1, 3, none⟩ = some (.slice fa en fc)))
    (first | with_reducible exact hS0 | with_reducible exact hS2 | with_reducible exact hS1 | go_keep)
    (first
      | (go_simp; go_at_call 14; ((with_reducible refine (HA.out _ HBD.out).mono ?_)); (intro e z hr; obtain ⟨sv, rfl, ho, hb⟩ := hr; obtain ⟨da, dc, rfl, -, -⟩ := row_of_own ho; have HO1 := Lib.hid ho; have HB2 : Hid (Below W.heap.size W z) := Lib.hid (HBD.out.trans (hb.mono HBD.out.size)); have hS1 := HX.out z HB2.out; clear ho hb))
      | (go_simp; go_at_call 14; ((with_reducible refine (HQ.out _ HB2.out).mono ?_)); (intro e z hr; obtain ⟨sv, rfl, ho, hb⟩ := hr; obtain ⟨da2, dc2, rfl, -, -⟩ := row_of_own ho; have HR2 := Lib.hid (own_rowAt ho); have HR1 := Lib.hid (own_rowAt (own_up HO1.out hb)); have HB3 : Hid (Below W.heap.size W z) := Lib.hid (HB2.out.trans (hb.mono HB2.out.size)); have hS2 := HX.out z HB3.out; clear ho hb))
      | (go_simp; go_at_call 13; ((with_reducible refine (same_any _ _ _ _ _ _ _ _ HR1.out HR2.out).mono ?_)); (rintro e z ⟨rfl, rfl⟩)))
  all_goals
    go_wp2_with fail
    go_ret
    exact ⟨rfl, HB1.out.trans (HB3.out.mono HB1.out.size)⟩
end Go.Proofs.YthgcjiocelcblaaGreat

namespace Go.Proofs.YthgcjiocelcblaaGreat
open Go.RowKit Go.Deep

theorem ptZ_eq (x : Int) : ∃ n : Nat, wrap64 ((IntKind.u64.wrap x).tmod 300) = (n : Int) ∧ n < 300 := by
  have h2 : 0 ≤ IntKind.u64.wrap x := by rw [IntKind.wrap_u64]; omega
  have h3 : 0 ≤ (IntKind.u64.wrap x).tmod 300 := Int.tmod_nonneg _ h2
  have h4 : (IntKind.u64.wrap x).tmod 300 < 300 := Int.tmod_lt_of_pos _ (by omega)
  obtain ⟨m, hm⟩ : ∃ m : Nat, (IntKind.u64.wrap x).tmod 300 = (m : Int) := ⟨((IntKind.u64.wrap x).tmod 300).toNat, by omega⟩
  rw [hm] at h3 h4 ⊢
  exact ⟨m, IntWalk.wrap64_in (m : Int) (by omega), by omega⟩
theorem row_stp {w w' : World} {a : Option Addr} {m : Nat} {l : List Nat} (h : Row w a m l) (hb : Below w.heap.size w w') : Row w' a m l := row_keep h hb (Nat.le_refl _)
theorem own_stp {B : Nat} {w w' : World} {sv : Value} {bs : List Nat} (h : Own B w sv bs) (hb : Below w.heap.size w w') : Own B w' sv bs :=
  own_kept h (row := none) ⟨hb.os, hb.tape, hb.output, hb.size, fun q hq _ => hb.block q hq⟩ (by cases hv : sv.ownBlock <;> simp)
set_option maxRecDepth 100000 in
set_option maxHeartbeats 4000000 in
theorem pointCodes_any (sq ba : Nat) (ma : Option Addr) (mn mc : Nat) (ml : List Nat) (ea : Option Addr) (en ec : Nat) (el : List Nat) (z : Int) (w : World) (hp : PT.Ok ⟨sq, ba, ma, mn, mc, ml, ea, en, ec, el⟩ w) :
    Calls Tryz.prog 3 #[.agg #[.int .u32 (sq : Int), .int .u32 (ba : Int), .slice ma mn mc, .slice ea en ec], .int .i64 z] w fun e w' => e = .returned (.bool true) ∧ Below w.heap.size w w' := by
  obtain ⟨W, hW⟩ : ∃ x, x = w.alloc (.cells #[.int .u32 (sq : Int), .int .u32 (ba : Int), .slice ma mn mc, .slice ea en ec] 25) := ⟨_, rfl⟩
  obtain ⟨b, hb⟩ : ∃ x, x = w.heap.size := ⟨_, rfl⟩
  have hB : Below w.heap.size w W := by rw [hW]; exact bel_alloc (Below.refl _ _) _
  have hh : W.heap[b]? = some (.cells (pCs sq ba (.slice ma mn mc) (.slice ea en ec)) 25 (0, 0)) := by rw [hW, hb]; exact heap_alloc_new _ _
  have hbl : b < W.heap.size := (Array.getElem?_eq_some_iff.1 hh).1
  have HX : Hid (∀ x : World, Below W.heap.size W x → (x.cell? ⟨b, 0, none⟩ = some (.int .u32 (sq : Int)) ∧ x.cell? ⟨b, 1, none⟩ = some (.int .u32 (ba : Int)) ∧ x.cell? ⟨b, 2, none⟩ = some (.slice ma mn mc) ∧ x.cell? ⟨b, 3, none⟩ = some (.slice ea en ec)) ∧ Below w.heap.size w x ∧ PT.Ok ⟨sq, ba, ma, mn, mc, ml, ea, en, ec, el⟩ x) := Lib.hid fun x hx => by
    have h1 : Below w.heap.size w x := hB.trans (hx.mono hB.size)
    exact ⟨(pt4_at ((hx.block b hbl).trans hh)).1, h1, hp.step h1⟩
  have HWR := Lib.hid written_any
  have HLI := Lib.hid (ptLight_any sq ba ma mn mc ea en ec)
  obtain ⟨m, hz, hm3⟩ := ptZ_eq z
  by_cases hl : mn ≤ 900 ∧ en ≤ 100
  · have hd : decide (mn ≤ 900 ∧ en ≤ 100) = true := by simpa using hl
    rw [hd] at HLI
    have HN := Lib.hid (And.intro hl hm3)
    obtain ⟨bs, hbs⟩ : ∃ x, x = ptB sq ba ml el := ⟨_, rfl⟩
    obtain ⟨bl, hbsl⟩ : ∃ x, x = bs.length := ⟨_, rfl⟩
    have HBS : Hid (ptB sq ba ml el = bs ∧ bs.length = bl ∧ bl ≤ 4016) := Lib.hid ⟨hbs.symm, hbsl.symm, by
      have h1 := hp.ml_.1
      have h2 := hp.el_.1
      simp only [] at h1 h2
      rw [hbsl, hbs, ptB_len]; omega⟩
    clear hbs hbsl
    have HML : Hid (ml.length = mn ∧ el.length = en) := Lib.hid ⟨hp.ml_.1, hp.el_.1⟩
    have HPO := Lib.hid (And.intro hp.sq_ (And.intro hp.ba_ (And.intro hp.ml_.2.1 hp.el_.2.1)))
    clear hl hd hm3 hh hbl hB hp
    go_enter Tryz.func3, Tryz.ntmps3
    go_upto_region 1 with fail
    rw [← hW, ← hb]
    clear hW hb
    go_wp2_with fail
    ((with_reducible refine (HWR.out _).mono ?_))
    rintro e w1 ⟨rfl, hb1⟩
    have HB1 := Lib.hid hb1
    obtain ⟨⟨z0, z1, z2, z3⟩, -⟩ := HX.out w1 hb1
    clear hb1
    go_wp2_with fail
    ((with_reducible refine (HLI.out _).mono ?_))
    rintro e w2 ⟨rfl, hb2⟩
    have HB2 := Lib.hid (bel_trans HB1.out hb2)
    obtain ⟨⟨y0, y1, y2, y3⟩, -, hp2⟩ := HX.out w2 HB2.out
    have HEN := Lib.hid (ptEncode_any sq ba ma mn mc ml ea en ec el w2 hp2 (by have := HN.out.1; omega) (by have := HN.out.1; omega))
    clear hb2 z0 z1 z2 z3 hp2
    go_wp2_with fail
    ((with_reducible refine HEN.out.mono ?_))
    rintro e w3 ⟨v3, rfl, ho3, hb3⟩
    rw [HBS.out.1] at ho3
    obtain ⟨ba3, bc3, rfl, hr3, -⟩ := row_of_own ho3
    rw [HBS.out.2.1] at ho3 hr3 ⊢
    have HO3 := Lib.hid (And.intro ho3 hb3)
    have HB3 := Lib.hid (bel_trans HB2.out hb3)
    have HZ := Lib.hid (zeros_any m w3 (by have := HN.out.2; omega))
    clear ho3 hb3 hr3 y0 y1 y2 y3
    go_wp2_with fail
    ((with_reducible refine HZ.out.mono ?_))
    rintro e w4 ⟨v4, rfl, ho4, hb4⟩
    obtain ⟨ba4, bc4, rfl, hr4, -⟩ := row_of_own ho4
    rw [List.length_replicate] at ho4 hr4 ⊢
    have HR4 := Lib.hid (And.intro hr4 (And.intro (ptj_none ho4 rfl) (And.intro (own_stp HO3.out.1 hb4) (And.intro (Nat.le_trans HO3.out.2.size hb4.size) (bel_trans HB3.out hb4)))))
    clear ho4 hb4 hr4
    go_wp2_with (at_builtin; refine wpList_app rfl _ _ rfl w2.heap.size _ _ rfl HR4.out.2.2.1 ba4 m bc4 _ rfl HR4.out.1 HR4.out.2.1 HR4.out.2.2.2.1 (by rw [HBS.out.2.1]; have h1 := HBS.out.2.2; have h2 := HN.out.2; omega) ?_)
    intro v5 w5 hA
    obtain ⟨ba5, bc5, rfl, hr5, -⟩ := row_of_own hA.own
    rw [List.length_append, HBS.out.2.1, List.length_replicate] at hr5 ⊢
    have hn5 : ba5 = none → bc5 = 0 := ptj_none hA.own rfl
    rw [← HBS.out.1] at hr5
    have HDE := Lib.hid (ptDecode_pt ba5 (bl + m) bc5 sq ba ml el (List.replicate m 0) w5 hr5 hn5 (by have h1 := HBS.out.2.2; have h2 := HN.out.2; omega) HPO.out.1 HPO.out.2.1 HPO.out.2.2.1 HPO.out.2.2.2 (by unfold zeros; rw [List.all_eq_true]; intro x hx; rw [List.eq_of_mem_replicate hx]; rfl))
    have HB5 : Hid (Below W.heap.size W w5) := Lib.hid (HR4.out.2.2.2.2.trans (hA.below.mono HB2.out.size))
    clear hA hr5 hn5
    go_wp2_with fail
    ((with_reducible refine HDE.out.mono ?_))
    rintro e w6 ⟨hb6, na, nc, fa, fc, rfl, hp6⟩
    rw [HML.out.1, HML.out.2] at hp6 ⊢
    have hp6' : PT.Ok ⟨sq, ba, na, mn, nc, ml, fa, en, fc, el⟩ w6 := hp6
    obtain ⟨W7, hW7⟩ : ∃ x, x = w6.alloc (.cells #[.int .u32 (sq : Int), .int .u32 (ba : Int), .slice na mn nc, .slice fa en fc] 25) := ⟨_, rfl⟩
    obtain ⟨qb, hqb⟩ : ∃ x, x = w6.heap.size := ⟨_, rfl⟩
    have hb7 : Below w6.heap.size w6 W7 := by rw [hW7]; exact bel_alloc (Below.refl _ _) _
    have hq7 : W7.heap[qb]? = some (.cells (pCs sq ba (.slice na mn nc) (.slice fa en fc)) 25 (0, 0)) := by rw [hW7, hqb]; exact heap_alloc_new _ _
    have hql : qb < W7.heap.size := (Array.getElem?_eq_some_iff.1 hq7).1
    have hbW7 : Below W.heap.size W W7 := HB5.out.trans ((hb6.trans (hb7.mono hb6.size)).mono HB5.out.size)
    have HY : Hid (∀ x : World, Below W7.heap.size W7 x → ((x.cell? ⟨b, 0, none⟩ = some (.int .u32 (sq : Int)) ∧ x.cell? ⟨b, 1, none⟩ = some (.int .u32 (ba : Int)) ∧ x.cell? ⟨b, 2, none⟩ = some (.slice ma mn mc) ∧ x.cell? ⟨b, 3, none⟩ = some (.slice ea en ec)) ∧
        (x.cell? ⟨qb, 0, none⟩ = some (.int .u32 (sq : Int)) ∧ x.cell? ⟨qb, 1, none⟩ = some (.int .u32 (ba : Int)) ∧ x.cell? ⟨qb, 2, none⟩ = some (.slice na mn nc) ∧ x.cell? ⟨qb, 3, none⟩ = some (.slice fa en fc))) ∧ Below w.heap.size w x ∧ PT.Ok ⟨sq, ba, ma, mn, mc, ml, ea, en, ec, el⟩ x ∧ PT.Ok ⟨sq, ba, na, mn, nc, ml, fa, en, fc, el⟩ x) := Lib.hid fun x hx => by
      have h1 := HX.out x (hbW7.trans (hx.mono hbW7.size))
      exact ⟨⟨h1.1, (pt4_at ((hx.block qb hql).trans hq7)).1⟩, h1.2.1, h1.2.2, (hp6'.step hb7).step hx⟩
    have HE : Hid (∀ x : World, Below W7.heap.size W7 x → Calls Tryz.prog 10 #[.agg #[.int .u32 (sq : Int), .int .u32 (ba : Int), .slice ma mn mc, .slice ea en ec]] x (RetOwn x (ptB sq ba ml el))) := Lib.hid fun x hx => ptEncode_any sq ba ma mn mc ml ea en ec el x (HY.out x hx).2.2.1 (by have := HN.out.1; omega) (by have := HN.out.1; omega)
    have HOP : Hid (∀ x : World, Below W7.heap.size W7 x → _) := Lib.hid fun x hx => ptOf_any sq ba ma mn mc ml ea en ec el x (HY.out x hx).2.2.1 (by have := HN.out.1; omega) (by have := HN.out.1; omega)
    have HOQ : Hid (∀ x : World, Below W7.heap.size W7 x → _) := Lib.hid fun x hx => ptOf_any sq ba na mn nc ml fa en fc el x (HY.out x hx).2.2.2 (by have := HN.out.1; omega) (by have := HN.out.1; omega)
    have HB0 : Hid (Below W7.heap.size W7 W7.drew) := Lib.hid (Below.refl _ _).drew
    have hS0 := (HY.out _ HB0.out).1
    go_upto_region 5 with fail
    rw [← hW7, ← hqb]
    clear hW7 hqb hb6 hp6 hp6' hb7 hq7 hql hbW7
    go_region_held3 (fun x => ((x.cell? ⟨b, 0, none⟩ = some (.int .u32 (sq : Int)) ∧ x.cell? ⟨b, 1, none⟩ = some (.int .u32 (ba : Int)) ∧ x.cell? ⟨b, 2, none⟩ = some (.slice ma mn mc) ∧ x.cell? ⟨b, 3, none⟩ = some (.slice ea en ec)) ∧
        (x.cell? ⟨qb, 0, none⟩ = some (.int .u32 (sq : Int)) ∧ x.cell? ⟨qb, 1, none⟩ = some (.int .u32 (ba : Int)) ∧ x.cell? ⟨qb, 2, none⟩ = some (.slice na mn nc) ∧ x.cell? ⟨qb, 3, none⟩ = some (.slice fa en fc))))
      (first | with_reducible exact hS0 | with_reducible exact hS1 | with_reducible exact hS2 | with_reducible exact hS3 | with_reducible exact hS4 | with_reducible exact hS5 | with_reducible exact hS6)
      (first
        | (go_simp; go_at_call 10; ((with_reducible refine (HE.out _ HB0.out).mono ?_)); (rintro e x1 ⟨u1, rfl, ho1, hb1⟩; rw [HBS.out.1] at ho1; obtain ⟨r1, c1, rfl, hr1, -⟩ := row_of_own ho1; rw [HBS.out.2.1] at hr1 ⊢; have HC1 := Lib.hid (HB0.out.trans (hb1.mono HB0.out.size)); have HR1 := Lib.hid hr1; have hS1 := (HY.out _ HC1.out).1; clear ho1 hb1 hr1))
        | (go_simp; go_at_call 15; ((with_reducible refine (HOP.out _ HC1.out).mono ?_)); (rintro e x2 ⟨a2, c2, a3, c3, rfl, hk2, hk3, hb2⟩; have HC2 := Lib.hid (HC1.out.trans (hb2.mono HC1.out.size)); have HR2 := Lib.hid (row_stp HR1.out hb2); have HK2 := Lib.hid (And.intro hk2 hk3); have hS2 := (HY.out _ HC2.out).1; clear hk2 hk3 hb2))
        | (go_simp; go_at_call 14; ((with_reducible refine (refPtEncode_any sq ba _ mn _ ml _ en _ el _ HPO.out.1 HPO.out.2.1 HK2.out.1 HK2.out.2 (by have := HN.out.1; omega) (by have := HN.out.1; omega)).mono ?_)); (rintro e x3 ⟨u3, rfl, ho3', hb3'⟩; rw [HBS.out.1] at ho3'; obtain ⟨r3, c4, rfl, hr3', -⟩ := row_of_own ho3'; rw [HBS.out.2.1] at hr3' ⊢; have HC3 := Lib.hid (HC2.out.trans (hb3'.mono HC2.out.size)); have HR3 := Lib.hid (And.intro (row_stp HR2.out hb3') hr3'); have hS3 := (HY.out _ HC3.out).1; clear ho3' hb3' hr3'))
        | (go_simp; go_at_call 13; ((with_reducible refine (same_any _ _ _ _ _ _ bs _ HR3.out.1 HR3.out.2).mono ?_)); (rintro e x4 ⟨rfl, rfl⟩))
        | (go_simp; go_at_call 15; ((with_reducible refine (HOQ.out _ HC3.out).mono ?_)); (rintro e x5 ⟨a5, c5, a6, c6, rfl, hk5, hk6, hb5⟩; have HC5 := Lib.hid (HC3.out.trans (hb5.mono HC3.out.size)); have HK5 := Lib.hid (And.intro hk5 hk6); have hS4 := (HY.out _ HC5.out).1; clear hk5 hk6 hb5))
        | (go_simp; go_at_call 15; ((with_reducible refine (HOP.out _ HC5.out).mono ?_)); (rintro e x6 ⟨a7, c7, a8, c8, rfl, hk7, hk8, hb6⟩; have HC6 := Lib.hid (HC5.out.trans (hb6.mono HC5.out.size)); have HK6 := Lib.hid (And.intro (And.intro (rowK_below HK5.out.1 hb6) (rowK_below HK5.out.2 hb6)) (And.intro hk7 hk8)); have hS5 := (HY.out _ HC6.out).1; clear hk7 hk8 hb6))
        | (go_simp; go_at_call 16; ((with_reducible refine (ptSame_any sq ba _ mn _ ml _ en _ el _ _ _ _ _ HPO.out.1 HPO.out.2.1 HK6.out.1.1 HK6.out.1.2 HK6.out.2.1 HK6.out.2.2 (by have := HN.out.1; omega) (by have := HN.out.1; omega)).mono ?_)); (rintro e x7 ⟨rfl, hb7'⟩; have HC7 := Lib.hid (HC6.out.trans (hb7'.mono HC6.out.size)); have hS6 := (HY.out _ HC7.out).1; clear hb7')))
    all_goals
      go_wp2
      go_ret
      exact ⟨rfl, (HY.out _ HC7.out).2.1⟩
  · have hd : decide (mn ≤ 900 ∧ en ≤ 100) = false := by simpa using hl
    rw [hd] at HLI
    clear hl hd hm3 hh hbl hB hp
    go_enter Tryz.func3, Tryz.ntmps3
    go_upto_region 1 with fail
    rw [← hW, ← hb]
    clear hW hb
    go_wp2_with fail
    ((with_reducible refine (HWR.out _).mono ?_))
    rintro e w1 ⟨rfl, hb1⟩
    have HB1 := Lib.hid hb1
    obtain ⟨⟨z0, z1, z2, z3⟩, -⟩ := HX.out w1 hb1
    clear hb1
    go_wp2_with fail
    ((with_reducible refine (HLI.out _).mono ?_))
    rintro e w2 ⟨rfl, hb2⟩
    have HB2 := Lib.hid (bel_trans HB1.out hb2)
    clear hb2
    go_wp2_with fail
    ((with_reducible refine (HWR.out _).mono ?_))
    rintro e w3 ⟨rfl, hb3⟩
    have HB3 := Lib.hid (HX.out w3 (bel_trans HB2.out hb3)).2.1
    clear hb3
    go_wp2_with fail
    go_ret
    exact ⟨rfl, HB3.out⟩
end Go.Proofs.YthgcjiocelcblaaGreat

namespace Go.Proofs.YthgcjiocelcblaaGreat
open Go.ChangeShapes Go.WideShapes Go.ChangeAt Go.RowKit Go.Deep

section
variable {H : Type} {enc : TypeId × Value → H} {W : World} {v : Value} {d : DataW H} {p : List MemPlace} {base : Nat}
theorem fieldS_in {fs : Array Field} {fuel : Nat} {t : TypeId} {cs : List Value} {x : DataW H × List MemPlace} (ht : Tryz.prog.underlying t = some (.struct fs)) (h : DataW.trod enc Tryz.prog W 0 (fun _ => true) true fuel t cs = some x) :
    ∃ n, cs.length = Tryz.prog.cellsOf t ∧ ∀ (j : Nat) (ty : TypeId) (off : Nat), (fs[j]?).map (fun f => (f.type, f.offset)) = some (ty, off) → ∃ y, DataW.trod enc Tryz.prog W 0 (fun _ => true) true n ty ((cs.drop off).take (Tryz.prog.cellsOf ty)) = some y := by
  obtain ⟨xs, n, _, rfl, hl, hlen, hf⟩ := DataW.trod_struct ht h
  refine ⟨n, hl, fun j ty off hj => ?_⟩
  cases hfj : fs[j]? with
  | none => rw [hfj] at hj; cases hj
  | some f =>
    rw [hfj] at hj
    simp only [Option.map_some, Option.some.injEq, Prod.mk.injEq] at hj
    obtain ⟨rfl, rfl⟩ := hj
    have h1 := hf j f hfj
    have hjl : j < fs.size := (Array.getElem?_eq_some_iff.1 hfj).1
    have h2 : xs[j]? = some (xs[j]'(by omega)) := List.getElem?_eq_getElem (by omega)
    exact ⟨_, h1.trans h2⟩
theorem pageS_in {fuel : Nat} {u : Value} {y : DataW H × List MemPlace} (hf : DataW.trod enc Tryz.prog W 0 (fun _ => true) true fuel 28 [u] = some y) :
    ∃ a len cap bs, u = .slice a len cap ∧ InB W a len cap bs := by
  rcases open_ints Tryz.underlying28 Tryz.underlying5 (by kernel_rfl) hf with ⟨hcs, _⟩ | ⟨x, l, c, zs, hcs, _, hl, hm, hz, _, hcell, hwz⟩
  · simp at hcs
    subst hcs
    exact ⟨_, _, _, [], rfl, ⟨rfl, (fun x hx => by cases hx), (fun h => by omega)⟩, by omega, by unfold maxLen; omega, fun _ => rfl⟩
  · simp at hcs
    subst hcs
    exact ⟨_, _, _, _, rfl, row_of hl (by simpa using hz) hcell hwz, hl, hm, fun h => by cases h⟩
end
theorem wfS_u32 {x : Int} (h : (Lit.int .u32 x).wf = true) : ∃ n : Nat, x = (n : Int) ∧ n < 4294967296 := by
  have hm : IntKind.u32.min = 0 := by decide
  have hM : IntKind.u32.max = 4294967295 := by decide
  simp [Lit.wf, hm, hM] at h
  exact ⟨x.toNat, by omega, by omega⟩
theorem listS5 {α : Type} {l : List α} (h : l.length = 5) : ∃ a0 a1 a2 a3 a4, l = [a0, a1, a2, a3, a4] := by
  match l, h with
  | [a0, a1, a2, a3, a4], _ => exact ⟨a0, a1, a2, a3, a4, rfl⟩
end Go.Proofs.YthgcjiocelcblaaGreat

namespace Go.Proofs.YthgcjiocelcblaaGreat
open Go.ChangeShapes Go.WideShapes Go.ChangeAt Go.RowKit

section
variable {H : Type} {enc : TypeId × Value → H} {W : World} {v : Value} {d : DataW H} {p : List MemPlace} {base : Nat}
set_option maxRecDepth 100000 in
theorem pt_in (hv : Value.okWide Tryz.prog W .any base 25 v) (h : DataW.Trod enc Tryz.prog W 0 (fun _ => true) true 25 v d p) :
    ∃ (sq ba : Nat) (ma : Option Addr) (mn mc : Nat) (ml : List Nat) (ea : Option Addr) (en ec : Nat) (el : List Nat), v = .agg #[.int .u32 (sq : Int), .int .u32 (ba : Int), .slice ma mn mc, .slice ea en ec] ∧ PT.Ok ⟨sq, ba, ma, mn, mc, ml, ea, en, ec, el⟩ W := by
  obtain ⟨v0, v1, v2, v3, y0, y1, y2, y3, n, rfl, rfl, _, h0, h1, h2, h3⟩ := Joins.open_agg4 Tryz.underlying25 (by kernel_rfl) (by kernel_rfl) hv h
  obtain ⟨z0, e0, _, w0⟩ := DataW.trod_int Tryz.underlying22 h0
  obtain ⟨z1, e1, _, w1⟩ := DataW.trod_int Tryz.underlying22 h1
  obtain ⟨a, la, ca, xs, rfl, i2, -⟩ := ints_in Tryz.underlying23 Tryz.underlying22 (by kernel_rfl) wfb_u32 h2
  obtain ⟨b, lb, cb, ys, rfl, i3, -⟩ := ints_in Tryz.underlying23 Tryz.underlying22 (by kernel_rfl) wfb_u32 h3
  obtain ⟨n0, rfl, l0⟩ := wfS_u32 w0
  obtain ⟨n1, rfl, l1⟩ := wfS_u32 w1
  simp only [List.cons.injEq, and_true] at e0 e1
  subst e0 e1
  exact ⟨n0, n1, a, la, ca, xs, b, lb, cb, ys, rfl, l0, l1, i2.1, i3.1⟩
end
theorem pointCodes_all (sq ba : Nat) (ma : Option Addr) (mn mc : Nat) (ml : List Nat) (ea : Option Addr) (en ec : Nat) (el : List Nat) (z : Int) (w : World) (hp : PT.Ok ⟨sq, ba, ma, mn, mc, ml, ea, en, ec, el⟩ w) (_ : (Lit.int .i64 z).wf = true) :
    Calls Tryz.prog 3 #[.agg #[.int .u32 (sq : Int), .int .u32 (ba : Int), .slice ma mn mc, .slice ea en ec], .int .i64 z] w fun e w' => e = .returned (.bool true) ∧ Below w.heap.size w w' :=
  pointCodes_any sq ba ma mn mc ml ea en ec el z w hp
end Go.Proofs.YthgcjiocelcblaaGreat
