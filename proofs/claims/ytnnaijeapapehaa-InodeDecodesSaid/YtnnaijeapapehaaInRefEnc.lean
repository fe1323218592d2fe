/- gabionref17.Encode: an inode's bytes, as the document has them. -/
import Derived.Test.YtnnaijeapapehaaInOf
namespace Go.Proofs.Ytnnaijeapapehaa
open Go.RowKit

theorem own_lit2 (w : World) (x : Nat) (hx : x < 256) : Own w.heap.size (w.alloc (.cells #[.int .u8 (x : Int), .int .u8 0] 5)) (.slice (some ⟨w.heap.size, 0, none⟩) 2 2) [x, 0] :=
  ⟨World.ownsRow_lit w #[.int .u8 (x : Int), .int .u8 0] 2 (Nat.le_refl _) (by unfold maxLen; omega) rfl, by
    intro y hy
    simp only [List.mem_cons, List.not_mem_nil, or_false] at hy
    rcases hy with rfl | rfl
    · exact hx
    · decide⟩
theorem own_caps {B : Nat} {x : World} {a : Option Addr} {n c : Nat} {l : List Nat} (h : Own B x (.slice a n c) l) : l.length ≤ c ∧ c ≤ maxLen := by
  rcases h.1.2 with ⟨e, h0⟩ | ⟨g, cp, cur, e1, _, hg, hc, hm, hs, ht⟩
  · cases e; exact ⟨by omega, by unfold maxLen; omega⟩
  · cases e1; exact ⟨by omega, by omega⟩
theorem bytes4_any (v : Nat) (w : World) (hv : v < 4294967296) : Calls Try.prog 27 #[.int .u64 (v : Int), .int .i64 4] w (RetOwn w (Crc.les 4 v)) := bytes_any v 4 w (by omega) (by omega)
theorem bytes2_any (v : Nat) (w : World) (hv : v < 65536) : Calls Try.prog 27 #[.int .u64 (v : Int), .int .i64 2] w (RetOwn w (Crc.les 2 v)) := bytes_any v 2 w (by omega) (by omega)
/-- The document's bytes. -/
def docI (ki ln sz : Nat) (l : List Nat) : List Nat := (([ki, 0] ++ Crc.les 2 ln) ++ Crc.les 4 sz) ++ l.flatMap (Crc.les 4)
theorem docI_enc (n : Ino) : padTo (docI n.ki n.ln n.sz n.at_) 64 = encI n := by
  unfold encI
  congr 1
set_option maxRecDepth 100000 in
set_option maxHeartbeats 4000000 in
theorem refInEncode_any (ki ln sz : Nat) (la : Option Addr) (lc : Nat) (l : List Nat) (w : World) (hki : ki < 256) (hln : ln < 65536) (hsz : sz < 4294967296) (hr : RowK .i64 4294967296 w la 10 l) :
    Calls Try.prog 12 #[.agg #[.int .i64 (ki : Int), .int .i64 (ln : Int), .int .i64 (sz : Int), .slice la 10 lc]] w (RetOwn w (padTo (docI ki ln sz l) 64)) := by
  obtain ⟨W, hW⟩ : ∃ x, x = w.alloc (.cells #[.int .i64 (ki : Int), .int .i64 (ln : Int), .int .i64 (sz : Int), .slice la 10 lc] 34) := ⟨_, rfl⟩
  obtain ⟨b, hb⟩ : ∃ x, x = w.heap.size := ⟨_, rfl⟩
  have hB1 : Below w.heap.size w W := by rw [hW]; exact bel_alloc (Below.refl _ _) _
  have l0 : W.heap[b]? = some (.cells #[.int .i64 (ki : Int), .int .i64 (ln : Int), .int .i64 (sz : Int), .slice la 10 lc] 34 (0, 0)) := by rw [hW, hb]; exact heap_alloc_new _ _
  have HX : Hid (∀ x : World, Below W.heap.size W x → (x.cell? ⟨b, 0, none⟩ = some (.int .i64 (ki : Int)) ∧ x.cell? ⟨b, 1, none⟩ = some (.int .i64 (ln : Int)) ∧ x.cell? ⟨b, 2, none⟩ = some (.int .i64 (sz : Int)) ∧ x.cell? ⟨b, 3, none⟩ = some (.slice la 10 lc)) ∧ RowK .i64 4294967296 x la 10 l) := Lib.hid fun x hx => ⟨pt_four ((hx.block _ (Array.getElem?_eq_some_iff.1 l0).1).trans l0), rowK_below (rowK_below hr hB1) hx⟩
  have HM : Hid (l.length = 10) := Lib.hid hr.1
  have HB1 := Lib.hid hB1
  have m1 : IntKind.u8.wrap (ki : Int) = (ki : Int) := by rw [IntKind.wrap_u8]; omega
  have m2 : IntKind.u64.wrap (ln : Int) = (ln : Int) := by rw [IntKind.wrap_u64]; omega
  have m3 : IntKind.u64.wrap (sz : Int) = (sz : Int) := by rw [IntKind.wrap_u64]; omega
  have HL : Hid (ki < 256 ∧ ln < 65536 ∧ sz < 4294967296) := Lib.hid ⟨hki, hln, hsz⟩
  obtain ⟨V, hV⟩ : ∃ x, x = W.alloc (.cells #[.int .u8 (ki : Int), .int .u8 0] 5) := ⟨_, rfl⟩
  have HO1 : Hid (Own W.heap.size V (.slice (some ⟨W.heap.size, 0, none⟩) 2 2) [ki, 0]) := Lib.hid (by rw [hV]; exact own_lit2 W ki hki)
  have HB_1 : Hid (Below W.heap.size W V) := Lib.hid (by rw [hV]; exact bel_alloc (Below.refl _ _) _)
  clear hr hB1 l0
  obtain ⟨⟨z0, z1, z2, z3⟩, -⟩ := HX.out W (Below.refl _ _)
  obtain ⟨⟨y0, y1, y2, y3⟩, -⟩ := HX.out V HB_1.out
  go_enter Try.func12, Try.ntmps12
  go_upto_region 1 with fail
  rw [← hW, ← hb]
  clear hW hb hki hln hsz
  go_upto_region 2 with fail
  rw [← hV]
  obtain ⟨v1, hv1⟩ : ∃ v, v = Value.slice (some ⟨W.heap.size, 0, none⟩) 2 2 := ⟨_, rfl⟩
  rw [← hv1] at HO1 ⊢
  clear hv1
  clear hV z0 z1 z2 z3
  go_wp2_with fail
  ((with_reducible refine (bytes2_any ln V (by have := HL.out; clear m1 m2 m3; omega)).mono ?_))
  rintro e x1 ⟨u1, rfl, ho, hb⟩
  obtain ⟨da1, dc1, rfl, hrk, -⟩ := row_of_own ho
  have hnc := own_nilcap ho
  have hbk := HB_1.out.trans (hb.mono HB_1.out.size)
  have hok := own_up HO1.out hb
  have hzk := hbk.size
  have hl4 : (Crc.les 2 ln).length = 2 := Crc.les_len _ _
  clear ho hb
  rw [hl4] at hrk ⊢
  have HRK := Lib.hid hrk
  have HNC := Lib.hid hnc
  have HBK := Lib.hid hbk
  have HOK := Lib.hid hok
  have HZK := Lib.hid hzk
  clear hrk hnc hbk hok hzk hl4 y0 y1 y2 y3 m2 m1
  go_wp2_with (at_builtin; refine wpList_app rfl _ _ rfl W.heap.size _ _ rfl HOK.out _ 2 dc1 (Crc.les 2 ln) rfl HRK.out HNC.out HZK.out (by simp) ?_)
  intro v2 w2 hap
  have HO2 : Hid (Own W.heap.size w2 v2 ([ki, 0] ++ Crc.les 2 ln)) := Lib.hid hap.own
  have HB_2 : Hid (Below W.heap.size W w2) := Lib.hid (HBK.out.trans hap.below)
  clear hap HRK HNC HBK HOK HZK HO1
  obtain ⟨⟨z0, z1, z2, z3⟩, -⟩ := HX.out w2 HB_2.out
  go_wp2_with fail
  ((with_reducible refine (bytes4_any sz w2 (by have := HL.out; clear m3; omega)).mono ?_))
  rintro e x2 ⟨u2, rfl, ho, hb⟩
  obtain ⟨da2, dc2, rfl, hrk, -⟩ := row_of_own ho
  have hnc := own_nilcap ho
  have hbk := HB_2.out.trans (hb.mono HB_2.out.size)
  have hok := own_up HO2.out hb
  have hzk := hbk.size
  have hl4 : (Crc.les 4 sz).length = 4 := Crc.les_len _ _
  have hll : ([ki, 0] ++ Crc.les 2 ln).length = 4 := by simp [Crc.les_len]
  clear ho hb
  rw [hl4] at hrk ⊢
  have HRK := Lib.hid hrk
  have HNC := Lib.hid hnc
  have HBK := Lib.hid hbk
  have HOK := Lib.hid hok
  have HZK := Lib.hid hzk
  have HLL := Lib.hid hll
  clear hrk hnc hbk hok hzk hl4 hll z0 z1 z2 z3 m3
  go_wp2_with (at_builtin; refine wpList_app rfl _ _ rfl W.heap.size _ _ rfl HOK.out _ 4 dc2 (Crc.les 4 sz) rfl HRK.out HNC.out HZK.out (by rw [HLL.out]; omega) ?_)
  intro v3 w3 hap
  have HO4 : Hid (Own W.heap.size w3 v3 (([ki, 0] ++ Crc.les 2 ln) ++ Crc.les 4 sz)) := Lib.hid hap.own
  have HB_4 : Hid (Below W.heap.size W w3) := Lib.hid (HBK.out.trans hap.below)
  clear hap HRK HNC HBK HOK HZK HLL HO2
  obtain ⟨H, hH⟩ : ∃ l, l = (([ki, 0] ++ Crc.les 2 ln) ++ Crc.les 4 sz) := ⟨_, rfl⟩
  rw [← hH] at HO4
  have HHL : Hid (H.length = 8) := Lib.hid (by rw [hH]; simp [Crc.les_len])
  have HH : Hid (docI ki ln sz l = H ++ l.flatMap (Crc.les 4)) := Lib.hid (by rw [hH]; rfl)
  clear hH
  go_wp2_with fail
  go_loopw [3, 4] (fun bv iv wr => ∃ k : Nat, k ≤ 10 ∧ iv = .int .i64 (k : Int) ∧ Own W.heap.size wr bv (H ++ (l.take k).flatMap (Crc.les 4)) ∧ Below W.heap.size W wr) (fun _ iv _ => 10 - (intOf iv).toNat)
  case atStart => exact ⟨0, Nat.zero_le _, rfl, by rw [List.take_zero, List.flatMap_nil, List.append_nil]; exact HO4.out, HB_4.out⟩
  case round =>
    obtain ⟨k, hk, rfl, ho, hb⟩ := hrel
    have HO := Lib.hid ho
    have HB := Lib.hid hb
    clear ho hb
    obtain ⟨⟨z0, z1, z2, z3⟩, hrM⟩ := HX.out wr HB.out
    by_cases hlt : k < 10
    · have t1 : decide ((k : Int) < 10) = true := by simp; omega
      obtain ⟨eb, eo, x, rfl, hcell, hx, hxg⟩ := rowK_cell hrM hlt
      have mx : IntKind.u64.wrap (x : Int) = (x : Int) := by rw [IntKind.wrap_u64]; omega
      have HTK : Hid (H ++ (l.take (k + 1)).flatMap (Crc.les 4) = (H ++ (l.take k).flatMap (Crc.les 4)) ++ Crc.les 4 x) := Lib.hid (by rw [flat_snoc 4 _ k (by rw [HM.out]; exact hlt), ← hxg.out, List.append_assoc])
      have HLL : Hid ((H ++ (l.take k).flatMap (Crc.les 4)).length ≤ 16 + 4000 + 4000) := Lib.hid (by
        rw [List.length_append, flat_les_len, HHL.out, List.length_take, HM.out]
        clear mx
        omega)
      have HXX := Lib.hid hx
      have i0 : (0 : Int) ≤ (k : Int) := by omega
      have i1 : (k : Int) < 10 := by omega
      clear hx hrM hk
      go_wp2_with fail
      ((with_reducible refine (bytes4_any x wr (by have := HXX.out; clear mx; omega)).mono ?_))
      rintro e xr ⟨ur, rfl, ho, hb⟩
      obtain ⟨da, dc, rfl, hrk, -⟩ := row_of_own ho
      have hnc := own_nilcap ho
      have HBK := Lib.hid (HB.out.trans (hb.mono HB.out.size))
      have HOK := Lib.hid (own_up HO.out hb)
      have HZK := Lib.hid HBK.out.size
      have hl4 : (Crc.les 4 x).length = 4 := Crc.les_len _ _
      rw [hl4] at hrk ⊢
      have HRK := Lib.hid hrk
      have HNC := Lib.hid hnc
      clear ho hb hrk hnc hl4 mx hcell z0 z1 z2 z3
      go_wp2_with (at_builtin; refine wpList_app rfl _ _ rfl W.heap.size _ _ rfl HOK.out _ 4 dc (Crc.les 4 x) rfl HRK.out HNC.out HZK.out (by have := HLL.out; omega) ?_)
      intro v9 w9 hap
      have HO9 := Lib.hid hap.own
      have HB9 : Hid (Below W.heap.size W w9) := Lib.hid (HBK.out.trans hap.below)
      clear hap
      go_wp2_with fail
      go_roundw
      case rel => exact ⟨k + 1, by omega, by go_num, by rw [HTK.out, List.append_assoc]; exact HO9.out, HB9.out⟩
      case measure => simp [intOf]; omega
    · obtain rfl : k = 10 := by omega
      have t1 : decide (((10 : Nat) : Int) < 10) = false := by decide
      have ho := HO.out
      rw [List.take_of_length_le (by rw [HM.out]; exact Nat.le_refl _), ← HH.out] at ho
      obtain ⟨ra, rc, rfl, hrw, hcap⟩ := row_of_own ho
      have hnc := own_nilcap ho
      have hlen : (docI ki ln sz l).length = 48 := by rw [HH.out, List.length_append, flat_les_len, HHL.out, HM.out]
      rw [hlen] at hrw ⊢
      have hcp := own_caps ho
      rw [hlen] at hcp
      have HP := Lib.hid (refPad_any ra 48 rc (docI ki ln sz l) wr hrw hcp.1 hcp.2 hnc (by omega) 64 (by omega) (by omega))
      clear hrM z0 z1 z2 z3 hk hlt ho HO hrw hcap hnc hlen hcp
      go_wp2_with fail
      ((with_reducible refine HP.out.mono ?_))
      rintro e wz ⟨vz, rfl, hoz, hbz⟩
      have HOZ := Lib.hid hoz
      have HBZ : Hid (Below wr.heap.size wr wz) := Lib.hid hbz
      clear hoz hbz
      go_wp2_with fail
      go_ret
      exact ⟨_, rfl, own_mono HOZ.out (Nat.le_trans HB1.out.size HB.out.size), (HB1.out.trans (HB.out.mono HB1.out.size)).trans (HBZ.out.mono (Nat.le_trans HB1.out.size HB.out.size))⟩
end Go.Proofs.Ytnnaijeapapehaa
