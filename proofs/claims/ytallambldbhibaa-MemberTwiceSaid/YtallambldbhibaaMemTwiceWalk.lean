/- MemberTwice: the walk. -/
import Derived.Test.YtallambldbhibaaMemFirstsWalk
namespace Go.Proofs.Ytallambldbhibaa
open Go.RowKit Go.Deep

theorem cell_set_any {w : World} {b o o' : Nat} {v u : Value} (h : w.cell? ⟨b, o', none⟩ = some u) : (w.setCell ⟨b, o, none⟩ v).cell? ⟨b, o', none⟩ = some (if o' = o then v else u) := by
  simp only [World.cell?] at h ⊢
  cases hb : w.heap[b]? with
  | none => simp [hb] at h
  | some ob =>
    cases ob with
    | cells cs t fr =>
      simp [hb] at h
      simp [World.setCell, Array.getElem?_modify, hb]
      obtain ⟨hl, _⟩ := Array.getElem?_eq_some_iff.1 h
      by_cases e : o' = o
      · subst e; simp [hl]
      · rw [if_neg e, Array.getElem?_setIfInBounds_ne (fun q => e q.symm)]; exact h
    | _ => simp [hb] at h
theorem rowI_set {w : World} {b off n c i : Nat} {L : List Int} {v : Int} (h : RowI w (some ⟨b, off, none⟩) n c L) (hi : i < n) (hv : -9223372036854775808 ≤ v ∧ v ≤ 9223372036854775807) :
    RowI (w.setCell ⟨b, off + i, none⟩ (.int .i64 v)) (some ⟨b, off, none⟩) n c (L.set i v) := by
  obtain ⟨h1, h2, h3, h4, h5, h6⟩ := h
  refine ⟨by rw [List.length_set]; exact h1, h2, h3, h4, fun z hz => ?_, fun h0 => ⟨b, off, rfl, fun k hk => ?_⟩⟩
  · rcases List.mem_or_eq_of_mem_set hz with h | rfl
    · exact h5 z h
    · exact hv
  · obtain ⟨b', off', e, hc⟩ := h6 h0
    cases e
    rw [cell_set_any (hc k hk)]
    by_cases e : k = i
    · subst e; simp [List.getD, show k < L.length by omega]
    · rw [if_neg (by omega)]; simp [List.getD, List.getElem?_set_ne (fun q => e q.symm)]
theorem ownI_at {B : Nat} {w : World} {eb n c k : Nat} {L : List Int} (h : OwnI B w (.slice (some ⟨eb, 0, none⟩) n c) L) (hn : L.length = n) (hk : k < n) :
    w.cell? ⟨eb, k, none⟩ = some (.int .i64 (L.getD k 0)) ∧ w.frozen? ⟨eb, k, none⟩ = false := by
  unfold OwnI at h
  rw [hn] at h
  refine ⟨?_, h.frozenAt k⟩
  rw [h.cellAt k (by omega)]
  simp [valz, List.getD, show k < L.length by omega]
theorem ownI_set {B : Nat} {w : World} {eb n c : Nat} {L : List Int} (h : OwnI B w (.slice (some ⟨eb, 0, none⟩) n c) L) (hn : L.length = n) (k : Nat) (v : Int) :
    OwnI B (w.setCell ⟨eb, k, none⟩ (.int .i64 v)) (.slice (some ⟨eb, 0, none⟩) n c) (L.set k v) := by
  unfold OwnI at h ⊢
  rw [hn] at h
  rw [List.length_set, hn, show valz (L.set k v) = (valz L).set k (.int .i64 v) by simp [valz, List.map_set]]
  exact (h.stored k _).1
theorem cell_set_far {w : World} {a q : Addr} {v : Value} (h : q.block ≠ a.block) : (w.setCell a v).cell? q = w.cell? q := by
  simp only [World.cell?]
  rw [heap_setCell_other w a q.block v h]
theorem setOk_twice (n i j : Nat) (hi : i < n) (hj : j < n) (hn : n ≤ 16) : setOk n 20 ((firstL n).set i (j : Int)) (n : Int) 255 0 ↔ i = j := by
  have hl : ((firstL n).set i (j : Int)).length = n := by rw [List.length_set, firstL_len]
  constructor
  · intro h
    apply Classical.byContradiction
    intro hne
    have h2 := h.2.2.2.2
    rw [if_neg (by omega)] at h2
    have h3 : ((firstL n).set i (j : Int)).Nodup := h2.sublist (List.sublist_append_left _ _)
    have h4 := List.pairwise_iff_getElem.1 h3
    have ei : ((firstL n).set i (j : Int))[i]'(by omega) = (j : Int) := by simp
    have ej : ((firstL n).set i (j : Int))[j]'(by omega) = (j : Int) := by rw [List.getElem_set_ne hne]; simp [firstL]
    rcases Nat.lt_or_ge i j with q | q
    · exact h4 i j (by omega) (by omega) q (by rw [ei, ej])
    · exact h4 j i (by omega) (by omega) (by omega) (by rw [ei, ej])
  · rintro rfl
    have e : (firstL n).set i (i : Int) = firstL n := by
      apply List.ext_getElem
      · simp
      · intro k h1 h2
        rw [List.getElem_set]
        split
        · rename_i q; subst q; simp [firstL]
        · rfl
    rw [e]
    exact setOk_first n 20 hn (by omega)
theorem setOk_done (n : Nat) (d : Int) (hn : n ≤ 16) : setOk n 20 (firstL n) (n : Int) 255 d ↔ d = 0 := by
  constructor
  · intro h
    rcases h.2.2.1.2 with h | h
    · exact h
    · exact absurd rfl h.1
  · rintro rfl
    exact setOk_first n 20 hn (by omega)
theorem shape_good (x : Int) : GoodG (memN x : Int) 20 6 256 := by
  have := mod14_eq x
  unfold GoodG
  omega
theorem modn_ahead (n : Nat) (x : Int) (h0 : 0 < n) (h1 : n ≤ 1000) : IntKind.u64.wrap (n : Int) = (n : Int) ∧ wrap64 ((IntKind.u64.wrap x).tmod (n : Int)) = (modM n x : Int) ∧ IntKind.i64.wrap ((IntKind.u64.wrap x).tmod (n : Int)) = (modM n x : Int) ∧ modM n x < n := by
  obtain ⟨h2, h3⟩ := modM_eq n x h0 h1
  refine ⟨by rw [IntKind.wrap_u64]; omega, by rw [h2]; exact IntWalk.wrap64_in _ (by omega), by rw [h2, IntKind.wrap_i64]; omega, h3⟩
set_option maxRecDepth 100000 in
set_option maxHeartbeats 1000000 in
theorem memberTwice_all (ch av bv dn : Int) (w : World) (hin : In64x4 ch av bv dn) :
    Calls Try.prog 16 #[.agg #[.int .i64 ch, .int .i64 av, .int .i64 bv, .int .i64 dn]] w fun e w' => e = .returned (.bool true) ∧ Below w.heap.size w w' := by
  have HF := Lib.hid memFirst0_any
  have HSH := Lib.hid fun x : World => memShape_any ch x
  have hg := shape_good ch
  obtain ⟨_, hn3, hn16⟩ := mod14_eq ch
  obtain ⟨n, hnn⟩ : ∃ n, n = memN ch := ⟨_, rfl⟩
  rw [← hnn] at HSH hg hn3 hn16
  obtain ⟨u0, ua, ua', hi⟩ := modn_ahead n av (by omega) (by omega)
  obtain ⟨_, ub, ub', hj⟩ := modn_ahead n bv (by omega) (by omega)
  obtain ⟨i, hie⟩ : ∃ i, i = modM n av := ⟨_, rfl⟩
  obtain ⟨j, hje⟩ : ∃ j, j = modM n bv := ⟨_, rfl⟩
  rw [← hie] at ua ua' hi
  rw [← hje] at ub ub' hj
  have HFI := Lib.hid fun x : World => memFirst_any n 20 6 256 x (by omega)
  have HSC : Hid (∀ (q : Option Addr) (cc : Nat) (x : World), RowI x q n cc ((firstL n).set i (j : Int)) → Calls Try.prog 55 #[.agg #[.int .u32 1, .slice q n cc, .int .i64 (n : Int), .int .i64 255, .int .i64 0], .agg #[.int .i64 (n : Int), .int .i64 20, .int .i64 6, .int .i64 256]] x fun e w' => e = .returned (.int .i64 (if i = j then 0 else 62)) ∧ Below x.heap.size x w') := Lib.hid fun q cc x hr =>
    setCheck_any 1 q n cc (n : Int) 255 0 n 20 6 256 _ x hr hg (by unfold In64; omega) _ (by
      by_cases h : i = j
      · rw [if_pos h, if_pos ((setOk_twice n i j hi hj hn16).2 h)]
      · rw [if_neg h, if_neg (fun q => h ((setOk_twice n i j hi hj hn16).1 q))])
  have HSD : Hid (∀ (q : Option Addr) (cc : Nat) (x : World), RowI x q n cc (firstL n) → Calls Try.prog 55 #[.agg #[.int .u32 1, .slice q n cc, .int .i64 (n : Int), .int .i64 255, .int .i64 dn], .agg #[.int .i64 (n : Int), .int .i64 20, .int .i64 6, .int .i64 256]] x fun e w' => e = .returned (.int .i64 (if dn = 0 then 0 else 62)) ∧ Below x.heap.size x w') := Lib.hid fun q cc x hr =>
    setCheck_any 1 q n cc (n : Int) 255 dn n 20 6 256 _ x hr hg (by unfold In64; omega) _ (by
      by_cases h : dn = 0
      · rw [if_pos h, if_pos ((setOk_done n dn hn16).2 h)]
      · rw [if_neg h, if_neg (fun q => h ((setOk_done n dn hn16).1 q))])
  clear hg hin hnn hie hje
  go_enter Try.func16, Try.ntmps16
  go_upto_region 1 with fail
  have l0 := heap_alloc_new w (.cells #[.int .i64 ch, .int .i64 av, .int .i64 bv, .int .i64 dn] 140)
  have hb0 := bel_alloc (Below.refl _ w) (.cells #[.int .i64 ch, .int .i64 av, .int .i64 bv, .int .i64 dn] 140)
  obtain ⟨w0, hw0⟩ : ∃ x, x = w.alloc (.cells #[.int .i64 ch, .int .i64 av, .int .i64 bv, .int .i64 dn] 140) := ⟨_, rfl⟩
  obtain ⟨cb, hcb⟩ : ∃ x, x = w.heap.size := ⟨_, rfl⟩
  rw [← hw0, ← hcb] at l0
  rw [← hw0] at hb0
  rw [← hw0, ← hcb]
  obtain ⟨c0, c1, c2, c3⟩ := mfour_at l0
  have HB0 := Lib.hid hb0
  clear hw0 hcb hb0 l0
  go_quiet (fail)
  have HB1 := Lib.hid (bel_trans HB0.out (mbel_drewN w0 nq))
  obtain ⟨w1, hw1⟩ : ∃ x, x = w0.drewN nq := ⟨_, rfl⟩
  rw [← hw1] at HB1 ⊢
  clear hw1 c0 c1 c2 c3
  go_wp2_with fail
  ((with_reducible refine (HSH.out _).mono ?_))
  rintro e w2 ⟨rfl, hb2⟩
  have hb3 := bel_alloc (bel_trans HB1.out hb2) (.cells #[.int .i64 (n : Int), .int .i64 20, .int .i64 6, .int .i64 256] 54)
  have l3 := heap_alloc_new w2 (.cells #[.int .i64 (n : Int), .int .i64 20, .int .i64 6, .int .i64 256] 54)
  clear hb2
  go_upto_region 3 with fail
  obtain ⟨w3, hw3⟩ : ∃ x, x = w2.alloc (.cells #[.int .i64 (n : Int), .int .i64 20, .int .i64 6, .int .i64 256] 54) := ⟨_, rfl⟩
  obtain ⟨gb, hgb⟩ : ∃ x, x = w2.heap.size := ⟨_, rfl⟩
  rw [← hw3, ← hgb] at l3
  rw [← hw3] at hb3
  rw [← hw3, ← hgb]
  have HB3 := Lib.hid hb3
  have HG3 := Lib.hid l3
  clear hw3 hgb hb3 l3
  obtain ⟨c0, c1, c2, c3⟩ := mfour_at HG3.out
  go_wp2_with fail
  ((with_reducible refine (HFI.out _).mono ?_))
  rintro e w4 ⟨v, rfl, ho, hb4⟩
  obtain ⟨eb, qc, rfl, hq0, hq1⟩ := ho.form (by rw [firstL_len]; omega)
  rw [firstL_len] at ho ⊢
  have hG4 := (hb4.block _ (Array.getElem?_eq_some_iff.1 HG3.out).1).trans HG3.out
  have hgl := (Array.getElem?_eq_some_iff.1 HG3.out).1
  have hws := HB3.out.size
  have l0 := heap_alloc_new w4 (.cells #[.int .u32 1, .slice (some ⟨eb, 0, none⟩) n qc, .int .i64 (n : Int), .int .i64 255, .int .i64 0] 113)
  have ho5 : OwnI w3.heap.size (w4.alloc (.cells #[.int .u32 1, .slice (some ⟨eb, 0, none⟩) n qc, .int .i64 (n : Int), .int .i64 255, .int .i64 0] 113)) (.slice (some ⟨eb, 0, none⟩) n qc) (firstL n) := ownI_below ho (bel_alloc (Below.refl _ w4) _)
  have hb5 := bel_alloc (bel_trans HB3.out hb4) (.cells #[.int .u32 1, .slice (some ⟨eb, 0, none⟩) n qc, .int .i64 (n : Int), .int .i64 255, .int .i64 0] 113)
  have hG5 := (heap_alloc_oldm (w := w4) (o := .cells #[.int .u32 1, .slice (some ⟨eb, 0, none⟩) n qc, .int .i64 (n : Int), .int .i64 255, .int .i64 0] 113) (Array.getElem?_eq_some_iff.1 hG4).1).trans hG4
  have hq2 : gb < eb ∧ eb < w4.heap.size ∧ w.heap.size ≤ eb := by omega
  clear ho hb4 hG4 c0 c1 c2 c3 hgl hq0 hq1 hws
  obtain ⟨B, hBB⟩ : ∃ x, x = w3.heap.size := ⟨_, rfl⟩
  rw [← hBB] at ho5
  clear hBB
  go_upto_region 4 with fail
  obtain ⟨sb, hsb⟩ : ∃ x, x = w4.heap.size := ⟨_, rfl⟩
  obtain ⟨w5, hw5⟩ : ∃ x, x = w4.alloc (.cells #[.int .u32 1, .slice (some ⟨eb, 0, none⟩) n qc, .int .i64 (n : Int), .int .i64 255, .int .i64 0] 113) := ⟨_, rfl⟩
  rw [← hw5, ← hsb] at l0
  rw [← hw5] at ho5 hb5 hG5
  rw [← hsb] at hq2
  rw [← hw5, ← hsb]
  have HL5 := Lib.hid l0
  have HO5 := Lib.hid ho5
  have HB5 := Lib.hid hb5
  have HG5 := Lib.hid hG5
  have HQ := Lib.hid hq2
  clear hsb hw5 hb5 ho5 l0 hG5 HG3 hq2
  go_wp2_with fail
  ((with_reducible refine (HF.out _).mono ?_))
  rintro e w6 ⟨rfl, hb6⟩
  have HL6 := Lib.hid ((hb6.block _ (Array.getElem?_eq_some_iff.1 HL5.out).1).trans HL5.out)
  have HG6 := Lib.hid ((hb6.block _ (Array.getElem?_eq_some_iff.1 HG5.out).1).trans HG5.out)
  have HO6 := Lib.hid (ownI_below HO5.out hb6)
  have HB6 := Lib.hid (bel_trans HB5.out hb6)
  clear hb6 HL5 HO5 HG5
  obtain ⟨c0, c1, c2, c3⟩ := mfour_at HG6.out
  have nz : (n : Int) ≠ 0 := by omega
  have nz' : ((n : Int) == 0) = false := by simp; omega
  go_upto_region 6 with fail
  go_quiet (fail)
  have HL7 := Lib.hid (((mbel_drewN w6 nq).block _ (Array.getElem?_eq_some_iff.1 HL6.out).1).trans HL6.out)
  have HG7 := Lib.hid (((mbel_drewN w6 nq).block _ (Array.getElem?_eq_some_iff.1 HG6.out).1).trans HG6.out)
  have HO7 := Lib.hid (ownI_below HO6.out (mbel_drewN w6 nq))
  have HB7 := Lib.hid (bel_trans HB6.out (mbel_drewN w6 nq))
  obtain ⟨w7, hw7⟩ : ∃ x, x = w6.drewN nq := ⟨_, rfl⟩
  rw [← hw7] at HL7 HG7 HO7 HB7 ⊢
  clear hw7 HL6 HG6 HO6 HB6 c0 c1 c2 c3 nz nz' u0 ua ua' ub ub'
  obtain ⟨hci, hfi⟩ := ownI_at HO7.out (firstL_len n) hi
  obtain ⟨hcj, hfj⟩ := ownI_at HO7.out (firstL_len n) hj
  rw [firstL_at n i hi] at hci
  rw [firstL_at n j hj] at hcj
  have z1 := (five_at HL7.out).2.1
  have i0 : (0 : Int) ≤ (i : Int) := by omega
  have i1 : (i : Int) < (n : Int) := by omega
  have j0 : (0 : Int) ≤ (j : Int) := by omega
  have j1 : (j : Int) < (n : Int) := by omega
  go_wp2_with fail
  go_region
  have HL8 : Hid ((w7.setCell ⟨eb, i, none⟩ (.int .i64 (j : Int))).drew.heap[sb]? = some (.cells #[.int .u32 1, .slice (some ⟨eb, 0, none⟩) n qc, .int .i64 (n : Int), .int .i64 255, .int .i64 0] 113 (0, 0))) := Lib.hid (by
    have := heap_setCell_other w7 ⟨eb, i, none⟩ sb (.int .i64 (j : Int)) (by have := HQ.out; simp; omega)
    exact this.trans HL7.out)
  have HG8 : Hid ((w7.setCell ⟨eb, i, none⟩ (.int .i64 (j : Int))).drew.heap[gb]? = some (.cells #[.int .i64 (n : Int), .int .i64 20, .int .i64 6, .int .i64 256] 54 (0, 0))) := Lib.hid (by
    have := heap_setCell_other w7 ⟨eb, i, none⟩ gb (.int .i64 (j : Int)) (by have := HQ.out; simp; omega)
    exact this.trans HG7.out)
  have HO8 : Hid (OwnI B (w7.setCell ⟨eb, i, none⟩ (.int .i64 (j : Int))).drew (.slice (some ⟨eb, 0, none⟩) n qc) ((firstL n).set i (j : Int))) := Lib.hid (ownI_set HO7.out (firstL_len n) i (j : Int))
  have HB8 : Hid (Below w.heap.size w (w7.setCell ⟨eb, i, none⟩ (.int .i64 (j : Int))).drew) := Lib.hid ((HB7.out.setCell (p := ⟨eb, i, none⟩) HQ.out.2.2 _).drew)
  obtain ⟨w8, hw8⟩ : ∃ x, x = (w7.setCell ⟨eb, i, none⟩ (.int .i64 (j : Int))).drew := ⟨_, rfl⟩
  rw [← hw8] at HL8 HG8 HO8 HB8 ⊢
  clear hw8 HL7 HG7 HO7 HB7 hci hcj hfi hfj z1 i0 i1 j0 j1
  obtain ⟨c0, c1, c2, c3⟩ := mfour_at HG8.out
  obtain ⟨z0, z1, z2, z3, z4⟩ := five_at HL8.out
  have hL : ((firstL n).set i (j : Int)).length = n := by rw [List.length_set, firstL_len]
  have hin : ∀ z ∈ (firstL n).set i (j : Int), -9223372036854775808 ≤ z ∧ z ≤ 9223372036854775807 := by
    intro z hz
    rcases List.mem_or_eq_of_mem_set hz with h | rfl
    · exact firstL_in n (by omega) z h
    · omega
  obtain ⟨qa, qc', hqe, hrow, _⟩ := ownI_row HO8.out hin
  rw [hL] at hqe hrow
  cases hqe
  have hsc := HSC.out _ _ _ hrow
  clear hrow hin hL
  go_wp2_with fail
  ((with_reducible refine hsc.mono ?_))
  rintro e w9 ⟨rfl, hb9⟩
  have HG9 := Lib.hid ((hb9.block _ (Array.getElem?_eq_some_iff.1 HG8.out).1).trans HG8.out)
  have HB9 := Lib.hid (bel_trans HB8.out hb9)
  clear hb9 hsc HL8 HG8 HO8 HB8 c0 c1 c2 c3 z0 z1 z2 z3 z4
  obtain ⟨c0, c1, c2, c3⟩ := mfour_at HG9.out
  obtain ⟨r, hr⟩ : ∃ r : Int, r = if i = j then 0 else 62 := ⟨_, rfl⟩
  rw [← hr]
  have k1 : (r == 0) = decide (i = j) := by rw [hr]; split <;> simp [*]
  have k2 : ((i : Int) == (j : Int)) = decide (i = j) := by
    by_cases h : i = j
    · subst h; simp
    · rw [decide_eq_false h]; simp; omega
  obtain ⟨bq, hbq⟩ : ∃ b, b = decide (i = j) := ⟨_, rfl⟩
  rw [← hbq] at k1 k2
  have k3 : (bq != bq) = false := by simp
  clear hr hbq
  go_wp2_with fail
  ((with_reducible refine (HFI.out _).mono ?_))
  rintro e wa ⟨v, rfl, ho, hba⟩
  obtain ⟨qa, qc2, rfl, hrow, hq⟩ := ownI_row ho (firstL_in n (by omega))
  rw [firstL_len] at hrow ⊢
  have hGa := (hba.block _ (Array.getElem?_eq_some_iff.1 HG9.out).1).trans HG9.out
  have l0 := heap_alloc_new wa (.cells #[.int .u32 1, .slice qa n qc2, .int .i64 (n : Int), .int .i64 255, .int .i64 0] 113)
  have hbb := bel_alloc (Below.refl _ wa) (.cells #[.int .u32 1, .slice qa n qc2, .int .i64 (n : Int), .int .i64 255, .int .i64 0] 113)
  have hrb := rowI_below hrow hbb
  have hGb := (hbb.block _ (Array.getElem?_eq_some_iff.1 hGa).1).trans hGa
  have hBb := bel_trans (bel_trans HB9.out hba) hbb
  have hwt : w.heap.size ≤ wa.heap.size := Nat.le_trans HB9.out.size hba.size
  have hgt : gb < wa.heap.size := (Array.getElem?_eq_some_iff.1 hGa).1
  have hrt : ∀ q, qa = some q → q.block < wa.heap.size := by
    intro q hq'
    obtain ⟨b', o', e', hc', _⟩ := rowI_at hrow (k := 0) (by omega)
    rw [hq'] at e'
    cases e'
    exact World.block_lt_of_cell? wa _ hc'
  clear ho hba hrow hq hGa hbb HG9 HB9 c0 c1 c2 c3
  go_upto_region 11 with fail
  obtain ⟨tb, htb⟩ : ∃ x, x = wa.heap.size := ⟨_, rfl⟩
  obtain ⟨wb, hwb⟩ : ∃ x, x = wa.alloc (.cells #[.int .u32 1, .slice qa n qc2, .int .i64 (n : Int), .int .i64 255, .int .i64 0] 113) := ⟨_, rfl⟩
  rw [← hwb, ← htb] at l0
  rw [← hwb] at hrb hGb hBb
  rw [← htb] at hwt hgt hrt
  rw [← hwb, ← htb]
  clear hwb htb
  obtain ⟨z0, z1, z2, z3, z4⟩ := five_at l0
  have zf : wb.frozen? ⟨tb, 4, none⟩ = false := mfree_at l0 4
  have hLc : Hid ((wb.setCell ⟨tb, 4, none⟩ (.int .i64 dn)).heap[tb]? = some (.cells #[.int .u32 1, .slice qa n qc2, .int .i64 (n : Int), .int .i64 255, .int .i64 dn] 113 (0, 0))) := Lib.hid (by
    have := heap_setCell_same wb tb 4 _ _ (.int .i64 dn) l0
    simpa using this)
  have hGc : Hid ((wb.setCell ⟨tb, 4, none⟩ (.int .i64 dn)).heap[gb]? = some (.cells #[.int .i64 (n : Int), .int .i64 20, .int .i64 6, .int .i64 256] 54 (0, 0))) := Lib.hid (by
    have := heap_setCell_other wb ⟨tb, 4, none⟩ gb (.int .i64 dn) (by simp; omega)
    exact this.trans hGb)
  have hRc : Hid (RowI (wb.setCell ⟨tb, 4, none⟩ (.int .i64 dn)) qa n qc2 (firstL n)) := Lib.hid (by
    obtain ⟨h1, h2, h3, h4, h5, h6⟩ := hrb
    refine ⟨h1, h2, h3, h4, h5, fun h0 => ?_⟩
    obtain ⟨b', o', e', hc'⟩ := h6 h0
    refine ⟨b', o', e', fun i hi => ?_⟩
    have h7 := hrt _ e'
    rw [cell_set_far (by simp at h7 ⊢; omega)]
    exact hc' i hi)
  have hBc : Hid (Below w.heap.size w (wb.setCell ⟨tb, 4, none⟩ (.int .i64 dn))) := Lib.hid (hBb.setCell (p := ⟨tb, 4, none⟩) hwt _)
  clear hBb hGb hrb hgt hrt hwt l0
  go_upto_region 12 with fail
  obtain ⟨wc, hwc⟩ : ∃ x, x = wb.setCell ⟨tb, 4, none⟩ (.int .i64 dn) := ⟨_, rfl⟩
  rw [← hwc] at hLc hGc hRc hBc ⊢
  clear hwc z0 z1 z2 z3 z4 zf
  obtain ⟨c0, c1, c2, c3⟩ := mfour_at hGc.out
  obtain ⟨z0, z1, z2, z3, z4⟩ := five_at hLc.out
  have hsd := HSD.out _ _ _ hRc.out
  go_wp2_with fail
  ((with_reducible refine hsd.mono ?_))
  rintro e wd ⟨rfl, hbd⟩
  have HBd := Lib.hid (bel_trans hBc.out hbd)
  clear hbd hsd c0 c1 c2 c3 z0 z1 z2 z3 z4
  obtain ⟨r2, hr2⟩ : ∃ r : Int, r = if dn = 0 then 0 else 62 := ⟨_, rfl⟩
  rw [← hr2]
  have k4 : (r2 == 0) = decide (dn = 0) := by rw [hr2]; split <;> simp [*]
  have k5 : (dn == 0) = decide (dn = 0) := by
    by_cases h : dn = 0
    · subst h; simp
    · rw [decide_eq_false h]; simpa using h
  obtain ⟨b2, hb2⟩ : ∃ b, b = decide (dn = 0) := ⟨_, rfl⟩
  rw [← hb2] at k4 k5
  have k6 : (b2 == b2) = true := by simp
  clear hr2 hb2
  go_wp2
  go_ret
  exact ⟨rfl, HBd.out⟩
end Go.Proofs.Ytallambldbhibaa
