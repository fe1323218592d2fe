/- gabionref14.Encode: a point's bytes, as the document has them. -/
import Derived.Test.YthgcjiocelcblaaGreatK09
namespace Go.Proofs.YthgcjiocelcblaaGreat
open Go.RowKit

theorem own_nilcap {B : Nat} {x : World} {a : Option Addr} {n c : Nat} {l : List Nat} (h : Own B x (.slice a n c) l) : a = none → c = 0 := by
  rcases h.1.2 with ⟨e, _⟩ | ⟨g, cp, cur, e1, _⟩
  · cases e; exact fun _ => rfl
  · intro ha
    rw [ha] at e1
    simp at e1
theorem pt_four {W : World} {b : Nat} {v0 v1 v2 v3 : Value} {t : TypeId} (h : W.heap[b]? = some (.cells #[v0, v1, v2, v3] t (0, 0))) :
    W.cell? ⟨b, 0, none⟩ = some v0 ∧ W.cell? ⟨b, 1, none⟩ = some v1 ∧ W.cell? ⟨b, 2, none⟩ = some v2 ∧ W.cell? ⟨b, 3, none⟩ = some v3 := by
  refine ⟨?_, ?_, ?_, ?_⟩ <;> simp [World.cell?, h]
theorem bytes4_any (v : Nat) (w : World) (hv : v < 4294967296) : Calls Tryz.prog 18 #[.int .u64 (v : Int), .int .i64 4] w (RetOwn w (Crc.les 4 v)) := bytes_any v 4 w (by omega) (by omega)
set_option maxRecDepth 100000 in
set_option maxHeartbeats 2000000 in
theorem refPtEncode_any (sq ba : Nat) (ma : Option Addr) (mn mc : Nat) (ml : List Nat) (ea : Option Addr) (en ec : Nat) (el : List Nat) (w : World) (hsq : sq < 4294967296) (hba : ba < 4294967296) (hM : RowK .i64 4294967296 w ma mn ml) (hE : RowK .i64 4294967296 w ea en el) (hm : mn ≤ 1000) (he : en ≤ 1000) :
    Calls Tryz.prog 14 #[.agg #[.int .i64 (sq : Int), .int .i64 (ba : Int), .slice ma mn mc, .slice ea en ec]] w (RetOwn w (ptB sq ba ml el)) := by
  obtain ⟨W, hW⟩ : ∃ x, x = w.alloc (.cells #[.int .i64 (sq : Int), .int .i64 (ba : Int), .slice ma mn mc, .slice ea en ec] 39) := ⟨_, rfl⟩
  obtain ⟨b, hb⟩ : ∃ x, x = w.heap.size := ⟨_, rfl⟩
  have hB1 : Below w.heap.size w W := by rw [hW]; exact bel_alloc (Below.refl _ _) _
  have l0 : W.heap[b]? = some (.cells #[.int .i64 (sq : Int), .int .i64 (ba : Int), .slice ma mn mc, .slice ea en ec] 39 (0, 0)) := by rw [hW, hb]; exact heap_alloc_new _ _
  have HX : Hid (∀ x : World, Below W.heap.size W x → (x.cell? ⟨b, 0, none⟩ = some (.int .i64 (sq : Int)) ∧ x.cell? ⟨b, 1, none⟩ = some (.int .i64 (ba : Int)) ∧ x.cell? ⟨b, 2, none⟩ = some (.slice ma mn mc) ∧ x.cell? ⟨b, 3, none⟩ = some (.slice ea en ec)) ∧ RowK .i64 4294967296 x ma mn ml ∧ RowK .i64 4294967296 x ea en el) := Lib.hid fun x hx => ⟨pt_four ((hx.block _ (Array.getElem?_eq_some_iff.1 l0).1).trans l0), rowK_below (rowK_below hM hB1) hx, rowK_below (rowK_below hE hB1) hx⟩
  have HM := Lib.hid hM.1
  have HE := Lib.hid hE.1
  have HB1 := Lib.hid hB1
  have m1 : IntKind.u64.wrap (sq : Int) = (sq : Int) := by rw [IntKind.wrap_u64]; omega
  have m2 : IntKind.u64.wrap (ba : Int) = (ba : Int) := by rw [IntKind.wrap_u64]; omega
  have m3 : IntKind.u64.wrap (mn : Int) = (mn : Int) := by rw [IntKind.wrap_u64]; omega
  have m4 : IntKind.u64.wrap (en : Int) = (en : Int) := by rw [IntKind.wrap_u64]; omega
  have HL : Hid (sq < 4294967296 ∧ ba < 4294967296 ∧ mn ≤ 1000 ∧ en ≤ 1000) := Lib.hid ⟨hsq, hba, hm, he⟩
  clear hM hE hB1 l0
  go_enter Tryz.func14, Tryz.ntmps14
  go_upto_region 1 with fail
  rw [← hW, ← hb]
  clear hW hb hsq hba hm he
  obtain ⟨⟨z0, z1, z2, z3⟩, -, -⟩ := HX.out W (Below.refl _ _)
  go_wp2_with fail
  ((with_reducible refine (bytes4_any sq W (by have := HL.out; clear m1 m2 m3 m4; omega)).mono ?_))
  rintro e w1 ⟨v1, rfl, ho, hb⟩
  have HO1 : Hid (Own W.heap.size w1 v1 (Crc.les 4 sq)) := Lib.hid ho
  have HB_1 : Hid (Below W.heap.size W w1) := Lib.hid hb
  clear ho hb z0 z1 z2 z3 m1
  obtain ⟨⟨z0, z1, z2, z3⟩, -, -⟩ := HX.out w1 HB_1.out
  go_wp2_with fail
  ((with_reducible refine (bytes4_any ba w1 (by have := HL.out; clear m2 m3 m4; omega)).mono ?_))
  rintro e x1 ⟨u1, rfl, ho, hb⟩
  obtain ⟨da1, dc1, rfl, hrk, -⟩ := row_of_own ho
  have hnc := own_nilcap ho
  have hbk := HB_1.out.trans (hb.mono HB_1.out.size)
  have hok := own_up HO1.out hb
  have hzk := hbk.size
  have hl4 : (Crc.les 4 ba).length = 4 := Crc.les_len _ _
  have hll : (Crc.les 4 sq).length = 4 := by simp [Crc.les_len]
  clear ho hb
  rw [hl4] at hrk ⊢
  have HRK := Lib.hid hrk
  have HNC := Lib.hid hnc
  have HBK := Lib.hid hbk
  have HOK := Lib.hid hok
  have HZK := Lib.hid hzk
  have HLL := Lib.hid hll
  clear hrk hnc hbk hok hzk hl4 hll z0 z1 z2 z3 m2
  go_wp2_with (at_builtin; refine wpList_app rfl _ _ rfl W.heap.size _ _ rfl HOK.out _ 4 dc1 (Crc.les 4 ba) rfl HRK.out HNC.out HZK.out (by rw [HLL.out]; omega) ?_)
  intro v2 w2 hap
  have HO2 : Hid (Own W.heap.size w2 v2 (Crc.les 4 sq ++ Crc.les 4 ba)) := Lib.hid hap.own
  have HB_2 : Hid (Below W.heap.size W w2) := Lib.hid (HBK.out.trans hap.below)
  clear hap HRK HNC HBK HOK HZK HLL HO1
  obtain ⟨⟨z0, z1, z2, z3⟩, -, -⟩ := HX.out w2 HB_2.out
  go_wp2_with fail
  ((with_reducible refine (bytes4_any mn w2 (by have := HL.out; clear m3 m4; omega)).mono ?_))
  rintro e x2 ⟨u2, rfl, ho, hb⟩
  obtain ⟨da2, dc2, rfl, hrk, -⟩ := row_of_own ho
  have hnc := own_nilcap ho
  have hbk := HB_2.out.trans (hb.mono HB_2.out.size)
  have hok := own_up HO2.out hb
  have hzk := hbk.size
  have hl4 : (Crc.les 4 mn).length = 4 := Crc.les_len _ _
  have hll : ((Crc.les 4 sq ++ Crc.les 4 ba)).length = 8 := by simp [Crc.les_len]
  clear ho hb
  rw [hl4] at hrk ⊢
  have HRK := Lib.hid hrk
  have HNC := Lib.hid hnc
  have HBK := Lib.hid hbk
  have HOK := Lib.hid hok
  have HZK := Lib.hid hzk
  have HLL := Lib.hid hll
  clear hrk hnc hbk hok hzk hl4 hll z0 z1 z2 z3 m3
  go_wp2_with (at_builtin; refine wpList_app rfl _ _ rfl W.heap.size _ _ rfl HOK.out _ 4 dc2 (Crc.les 4 mn) rfl HRK.out HNC.out HZK.out (by rw [HLL.out]; omega) ?_)
  intro v3 w3 hap
  have HO3 : Hid (Own W.heap.size w3 v3 ((Crc.les 4 sq ++ Crc.les 4 ba) ++ Crc.les 4 mn)) := Lib.hid hap.own
  have HB_3 : Hid (Below W.heap.size W w3) := Lib.hid (HBK.out.trans hap.below)
  clear hap HRK HNC HBK HOK HZK HLL HO2
  obtain ⟨⟨z0, z1, z2, z3⟩, -, -⟩ := HX.out w3 HB_3.out
  go_wp2_with fail
  ((with_reducible refine (bytes4_any en w3 (by have := HL.out; clear m4; omega)).mono ?_))
  rintro e x3 ⟨u3, rfl, ho, hb⟩
  obtain ⟨da3, dc3, rfl, hrk, -⟩ := row_of_own ho
  have hnc := own_nilcap ho
  have hbk := HB_3.out.trans (hb.mono HB_3.out.size)
  have hok := own_up HO3.out hb
  have hzk := hbk.size
  have hl4 : (Crc.les 4 en).length = 4 := Crc.les_len _ _
  have hll : (((Crc.les 4 sq ++ Crc.les 4 ba) ++ Crc.les 4 mn)).length = 12 := by simp [Crc.les_len]
  clear ho hb
  rw [hl4] at hrk ⊢
  have HRK := Lib.hid hrk
  have HNC := Lib.hid hnc
  have HBK := Lib.hid hbk
  have HOK := Lib.hid hok
  have HZK := Lib.hid hzk
  have HLL := Lib.hid hll
  clear hrk hnc hbk hok hzk hl4 hll z0 z1 z2 z3 m4
  go_wp2_with (at_builtin; refine wpList_app rfl _ _ rfl W.heap.size _ _ rfl HOK.out _ 4 dc3 (Crc.les 4 en) rfl HRK.out HNC.out HZK.out (by rw [HLL.out]; omega) ?_)
  intro v4 w4 hap
  have HO4 : Hid (Own W.heap.size w4 v4 (((Crc.les 4 sq ++ Crc.les 4 ba) ++ Crc.les 4 mn) ++ Crc.les 4 en)) := Lib.hid hap.own
  have HB_4 : Hid (Below W.heap.size W w4) := Lib.hid (HBK.out.trans hap.below)
  clear hap HRK HNC HBK HOK HZK HLL HO3
  obtain ⟨H, hH⟩ : ∃ l, l = (((Crc.les 4 sq ++ Crc.les 4 ba) ++ Crc.les 4 mn) ++ Crc.les 4 en) := ⟨_, rfl⟩
  rw [← hH] at HO4
  have HHL : Hid (H.length = 16) := Lib.hid (by rw [hH]; simp [Crc.les_len])
  have HH := Lib.hid hH
  clear hH
  go_wp2_with fail
  go_loopw [3, 4] (fun bv iv wr => ∃ k : Nat, k ≤ mn ∧ iv = .int .i64 (k : Int) ∧ Own W.heap.size wr bv (H ++ (ml.take k).flatMap (Crc.les 4)) ∧ Below W.heap.size W wr) (fun _ iv _ => mn - (intOf iv).toNat)
  case atStart => exact ⟨0, Nat.zero_le _, rfl, by rw [List.take_zero, List.flatMap_nil, List.append_nil]; exact HO4.out, HB_4.out⟩
  case round =>
    obtain ⟨k, hk, rfl, ho, hb⟩ := hrel
    have HO := Lib.hid ho
    have HB := Lib.hid hb
    have HK := Lib.hid hk
    clear ho hb
    obtain ⟨⟨z0, z1, z2, z3⟩, hrM, -⟩ := HX.out wr HB.out
    by_cases hlt : k < mn
    · have t1 : decide (k < mn) = true := by simpa using hlt
      have k9 : k < 1000 := by have := HL.out; omega
      obtain ⟨eb, eo, x, rfl, hcell, hx, hxg⟩ := rowK_cell hrM hlt
      have mx : IntKind.u64.wrap (x : Int) = (x : Int) := by rw [IntKind.wrap_u64]; omega
      have HTK : Hid (H ++ (ml.take (k + 1)).flatMap (Crc.les 4) = (H ++ (ml.take k).flatMap (Crc.les 4)) ++ Crc.les 4 x) := Lib.hid (by rw [flat_snoc 4 _ k (by rw [HM.out]; exact hlt), ← hxg.out, List.append_assoc])
      have HLL : Hid ((H ++ (ml.take k).flatMap (Crc.les 4)).length ≤ 16 + 4000 + 4000) := Lib.hid (by
        rw [List.length_append, flat_les_len, HHL.out, List.length_take, HM.out]
        have := HL.out
        clear mx
        omega)
      have HXX := Lib.hid hx
      have i0 : (0 : Int) ≤ (k : Int) := by omega
      have i1 : (k : Int) < (mn : Int) := by omega
      clear hx hrM hk
      go_wp2_with fail
      ((with_reducible refine (bytes4_any x wr (by have := HXX.out; clear mx; omega)).mono ?_))
      rintro e xr ⟨ur, rfl, ho, hb⟩
      obtain ⟨da, dc, rfl, hrk, -⟩ := row_of_own ho
      have hnc := own_nilcap ho
      have HBK := Lib.hid (HB.out.trans (hb.mono HB.out.size))
      have HOK := Lib.hid (own_up HO.out hb)
      have HZK := Lib.hid HBK.out.size
      have hl4 : (Crc.les 4 x).length = 4 := Crc.les_len _ _
      rw [hl4] at hrk ⊢
      have HRK := Lib.hid hrk
      have HNC := Lib.hid hnc
      clear ho hb hrk hnc hl4 mx hcell z0 z1 z2 z3
      go_wp2_with (at_builtin; refine wpList_app rfl _ _ rfl W.heap.size _ _ rfl HOK.out _ 4 dc (Crc.les 4 x) rfl HRK.out HNC.out HZK.out (by have := HLL.out; omega) ?_)
      intro v9 w9 hap
      have HO9 := Lib.hid hap.own
      have HB9 : Hid (Below W.heap.size W w9) := Lib.hid (HBK.out.trans hap.below)
      clear hap
      go_wp2_with fail
      go_roundw
      case rel => exact ⟨k + 1, by omega, by go_num, by rw [HTK.out, List.append_assoc]; exact HO9.out, HB9.out⟩
      case measure => simp [intOf]; omega
    · obtain rfl : k = mn := by omega
      have t1 : decide (k < k) = false := by simp
      have ho := HO.out
      rw [List.take_of_length_le (by rw [HM.out]; exact Nat.le_refl _)] at ho
      have HOe := Lib.hid ho
      clear ho
      go_wp2_with fail
      obtain ⟨G, hG⟩ : ∃ l, l = H ++ ml.flatMap (Crc.les 4) := ⟨_, rfl⟩
      rw [← hG] at HOe
      have HGL : Hid (G.length ≤ 16 + 4000) := Lib.hid (by rw [hG, List.length_append, flat_les_len, HHL.out, HM.out]; have := HL.out; omega)
      have HG := Lib.hid hG
      have HOG := Lib.hid HOe.out
      have HBG := Lib.hid HB.out
      clear hG HOe z0 z1 z2 z3 hrM
      go_loopw [3, 5] (fun bv iv wr => ∃ k : Nat, k ≤ en ∧ iv = .int .i64 (k : Int) ∧ Own W.heap.size wr bv (G ++ (el.take k).flatMap (Crc.les 4)) ∧ Below W.heap.size W wr) (fun _ iv _ => en - (intOf iv).toNat)
      case atStart => exact ⟨0, Nat.zero_le _, rfl, by rw [List.take_zero, List.flatMap_nil, List.append_nil]; exact HOG.out, HBG.out⟩
      case round =>
        obtain ⟨k, hk, rfl, ho, hb⟩ := hrel
        have HO := Lib.hid ho
        have HB := Lib.hid hb
        have HK := Lib.hid hk
        clear ho hb
        obtain ⟨⟨z0, z1, z2, z3⟩, -, hrE⟩ := HX.out wr HB.out
        by_cases hlt : k < en
        · have t1 : decide (k < en) = true := by simpa using hlt
          have k9 : k < 1000 := by have := HL.out; omega
          obtain ⟨eb, eo, x, rfl, hcell, hx, hxg⟩ := rowK_cell hrE hlt
          have mx : IntKind.u64.wrap (x : Int) = (x : Int) := by rw [IntKind.wrap_u64]; omega
          have HTK : Hid (G ++ (el.take (k + 1)).flatMap (Crc.les 4) = (G ++ (el.take k).flatMap (Crc.les 4)) ++ Crc.les 4 x) := Lib.hid (by rw [flat_snoc 4 _ k (by rw [HE.out]; exact hlt), ← hxg.out, List.append_assoc])
          have HLL : Hid ((G ++ (el.take k).flatMap (Crc.les 4)).length ≤ 16 + 4000 + 4000) := Lib.hid (by
            rw [List.length_append, flat_les_len, List.length_take, HE.out]
            have := HL.out
            have := HGL.out
            clear mx
            omega)
          have HXX := Lib.hid hx
          have i0 : (0 : Int) ≤ (k : Int) := by omega
          have i1 : (k : Int) < (en : Int) := by omega
          clear hx hrE hk
          go_wp2_with fail
          ((with_reducible refine (bytes4_any x wr (by have := HXX.out; clear mx; omega)).mono ?_))
          rintro e xr ⟨ur, rfl, ho, hb⟩
          obtain ⟨da, dc, rfl, hrk, -⟩ := row_of_own ho
          have hnc := own_nilcap ho
          have HBK := Lib.hid (HB.out.trans (hb.mono HB.out.size))
          have HOK := Lib.hid (own_up HO.out hb)
          have HZK := Lib.hid HBK.out.size
          have hl4 : (Crc.les 4 x).length = 4 := Crc.les_len _ _
          rw [hl4] at hrk ⊢
          have HRK := Lib.hid hrk
          have HNC := Lib.hid hnc
          clear ho hb hrk hnc hl4 mx hcell z0 z1 z2 z3
          go_wp2_with (at_builtin; refine wpList_app rfl _ _ rfl W.heap.size _ _ rfl HOK.out _ 4 dc (Crc.les 4 x) rfl HRK.out HNC.out HZK.out (by have := HLL.out; omega) ?_)
          intro v9 w9 hap
          have HO9 := Lib.hid hap.own
          have HB9 : Hid (Below W.heap.size W w9) := Lib.hid (HBK.out.trans hap.below)
          clear hap
          go_wp2_with fail
          go_roundw
          case rel => exact ⟨k + 1, by omega, by go_num, by rw [HTK.out, List.append_assoc]; exact HO9.out, HB9.out⟩
          case measure => simp [intOf]; omega
        · obtain rfl : k = en := by omega
          have t1 : decide (k < k) = false := by simp
          have ho := HO.out
          rw [List.take_of_length_le (by rw [HE.out]; exact Nat.le_refl _)] at ho
          have HOe := Lib.hid ho
          clear ho
          go_wp2_with fail
          go_ret
          have hs := HB1.out.size
          refine ⟨_, rfl, ?_, HB1.out.trans (HB.out.mono hs)⟩
          have ho := own_mono HOe.out hs
          rw [HG.out, HH.out] at ho
          have hq : ptB sq ba ml el = ((((Crc.les 4 sq ++ Crc.les 4 ba) ++ Crc.les 4 ml.length) ++ Crc.les 4 el.length) ++ ml.flatMap (Crc.les 4)) ++ el.flatMap (Crc.les 4) := by unfold ptB; simp
          rw [hq, HM.out, HE.out]
          exact ho
end Go.Proofs.YthgcjiocelcblaaGreat
