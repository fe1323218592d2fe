/- gabionlaw17.of: the document's inode with the same numbers. -/
import Derived.Test.YtnnaijeapapehaaOwnJ
import Derived.Test.YtnnaijeapapehaaInDecA
namespace Go.Proofs.Ytnnaijeapapehaa
open Go.RowKit

def Ino.at_ (n : Ino) : List Nat := n.ds ++ [n.si, n.db]
theorem Ino.at_len (n : Ino) : n.at_.length = 10 := rfl
theorem Ino.Fits.at_ {n : Ino} (h : n.Fits) : ∀ x ∈ n.at_, x < 4294967296 := by
  intro x hx
  unfold Ino.at_ at hx
  rcases List.mem_append.1 hx with h1 | h1
  · exact h.ds x h1
  · simp only [List.mem_cons, List.not_mem_nil, or_false] at h1
    rcases h1 with rfl | rfl
    · exact h.si
    · exact h.db
set_option maxRecDepth 100000 in
set_option maxHeartbeats 4000000 in
theorem ofI_any (n : Ino) (w : World) (hf : n.Fits) :
    Calls Try.prog 13 #[.agg #[.int .u8 (n.ki : Int), .int .u16 (n.ln : Int), .int .u32 (n.sz : Int), .int .u32 (n.d0 : Int), .int .u32 (n.d1 : Int), .int .u32 (n.d2 : Int), .int .u32 (n.d3 : Int), .int .u32 (n.d4 : Int), .int .u32 (n.d5 : Int), .int .u32 (n.d6 : Int), .int .u32 (n.d7 : Int), .int .u32 (n.si : Int), .int .u32 (n.db : Int)]] w fun e w' => ∃ a c, e = .returned (.agg #[.int .i64 (n.ki : Int), .int .i64 (n.ln : Int), .int .i64 (n.sz : Int), .slice a 10 c]) ∧ RowK .i64 4294967296 w' a 10 n.at_ ∧ Below w.heap.size w w' := by
  have k0 := hf.ki
  have k1 := hf.ln
  have k2 := hf.sz
  have k3 := hf.si
  have k4 := hf.db
  have m1 : IntKind.i64.wrap (n.ki : Int) = (n.ki : Int) := by rw [IntKind.wrap_i64]; omega
  have m2 : IntKind.i64.wrap (n.ln : Int) = (n.ln : Int) := by rw [IntKind.wrap_i64]; omega
  have m3 : IntKind.i64.wrap (n.sz : Int) = (n.sz : Int) := by rw [IntKind.wrap_i64]; omega
  have m4 : IntKind.i64.wrap (n.si : Int) = (n.si : Int) := by rw [IntKind.wrap_i64]; omega
  have m5 : IntKind.i64.wrap (n.db : Int) = (n.db : Int) := by rw [IntKind.wrap_i64]; omega
  have HFT := Lib.hid hf.at_
  have HFD := Lib.hid hf.ds
  clear hf k0 k1 k2 k3 k4
  obtain ⟨i0, hi, hz0, hz1, hz2⟩ := info_parts info_int64
  have HI := Lib.hid (And.intro hi (And.intro hz0 (And.intro hz1 hz2)))
  clear hi hz0 hz1 hz2
  obtain ⟨B, hB⟩ : ∃ x, x = w.alloc (.cells #[.int .u8 (n.ki : Int), .int .u16 (n.ln : Int), .int .u32 (n.sz : Int), .int .u32 (n.d0 : Int), .int .u32 (n.d1 : Int), .int .u32 (n.d2 : Int), .int .u32 (n.d3 : Int), .int .u32 (n.d4 : Int), .int .u32 (n.d5 : Int), .int .u32 (n.d6 : Int), .int .u32 (n.d7 : Int), .int .u32 (n.si : Int), .int .u32 (n.db : Int)] 26) := ⟨_, rfl⟩
  obtain ⟨b, hb⟩ : ∃ x, x = w.heap.size := ⟨_, rfl⟩
  have hBh : B.heap[b]? = some (.cells #[.int .u8 (n.ki : Int), .int .u16 (n.ln : Int), .int .u32 (n.sz : Int), .int .u32 (n.d0 : Int), .int .u32 (n.d1 : Int), .int .u32 (n.d2 : Int), .int .u32 (n.d3 : Int), .int .u32 (n.d4 : Int), .int .u32 (n.d5 : Int), .int .u32 (n.d6 : Int), .int .u32 (n.d7 : Int), .int .u32 (n.si : Int), .int .u32 (n.db : Int)] 26 (0, 0)) := by rw [hB, hb]; exact heap_alloc_new _ _
  have hBs : B.heap.size = b + 1 := by rw [hB, hb]; simp
  have hBb : Below w.heap.size w B := by rw [hB]; exact bel_alloc (Below.refl _ _) _
  obtain ⟨C, hC⟩ : ∃ x, x = B.alloc (.cells #[.int .i64 0, .int .i64 0, .int .i64 0, .slice none 0 0] 34) := ⟨_, rfl⟩
  have hCh : C.heap[b + 1]? = some (.cells #[.int .i64 0, .int .i64 0, .int .i64 0, .slice none 0 0] 34 (0, 0)) := by rw [hC, ← hBs]; exact heap_alloc_new _ _
  have hCs : C.heap.size = b + 1 + 1 := by rw [hC, ← hBs]; simp
  have hCb : Below B.heap.size B C := by rw [hC]; exact bel_alloc (Below.refl _ _) _
  obtain ⟨W, hW⟩ : ∃ x, x = C.alloc (.cells #[.int .i64 (n.ki : Int), .int .i64 (n.ln : Int), .int .i64 (n.sz : Int), .slice none 0 0] 34) := ⟨_, rfl⟩
  obtain ⟨p, hp⟩ : ∃ x, x = b + 1 + 1 := ⟨_, rfl⟩
  have hWh : W.heap[p]? = some (.cells #[.int .i64 (n.ki : Int), .int .i64 (n.ln : Int), .int .i64 (n.sz : Int), .slice none 0 0] 34 (0, 0)) := by rw [hW, hp, ← hCs]; exact heap_alloc_new _ _
  have hWs : W.heap.size = p + 1 := by rw [hW, hp, ← hCs]; simp
  have hWb : Below C.heap.size C W := by rw [hW]; exact bel_alloc (Below.refl _ _) _
  have HBW := Lib.hid (bel_trans (bel_trans hBb hCb) hWb)
  have HWP : Hid (w.heap.size ≤ b ∧ W.heap.size = p + 1 ∧ b + 1 < p) := Lib.hid ⟨by omega, hWs, by omega⟩
  have HX : Hid (∀ x : World, Below p W x → (x.cell? ⟨b, 11, none⟩ = some (.int .u32 (n.si : Int)) ∧ x.cell? ⟨b, 12, none⟩ = some (.int .u32 (n.db : Int))) ∧ RowK .u32 4294967296 x (some ⟨b, 3, none⟩) 8 n.ds ∧ Below w.heap.size w x ∧ x.heap[b + 1]? = some (.cells #[.int .i64 0, .int .i64 0, .int .i64 0, .slice none 0 0] 34 (0, 0))) := Lib.hid fun x hx => by
    have h1 := (hx.block b (by omega)).trans ((hWb.block b (by omega)).trans ((hCb.block b (by omega)).trans hBh))
    refine ⟨by simp [World.cell?, h1], ⟨rfl, HFD.out, fun _ => ⟨b, 3, rfl, fun i hi => ?_⟩⟩, HBW.out.trans (hx.mono (by omega)), (hx.block _ (by omega)).trans ((hWb.block _ (by omega)).trans hCh)⟩
    rcases (show i = 0 ∨ i = 1 ∨ i = 2 ∨ i = 3 ∨ i = 4 ∨ i = 5 ∨ i = 6 ∨ i = 7 by omega) with rfl | rfl | rfl | rfl | rfl | rfl | rfl | rfl <;> simp [World.cell?, h1, Ino.ds]
  have HQ2 := Lib.hid hWh
  clear hBh hBb hCh hCb hWh hWb
  go_enter Try.func13, Try.ntmps13
  go_upto_region 2 with fail
  rw [← hB, ← hb]
  rw [← hC]
  rw [← hW]
  rw [← hp]
  clear hB hb hBs hC hCs hW hp hWs m1 m2 m3
  go_wp2_with fail
  go_loopw [4] (fun iv wr => ∃ (k : Nat) (v : Value), k ≤ 8 ∧ iv = .int .i64 (k : Int) ∧ OwnJ (p + 1) wr v (n.ds.take k) ∧ wr.heap[p]? = some (.cells #[.int .i64 (n.ki : Int), .int .i64 (n.ln : Int), .int .i64 (n.sz : Int), v] 34 (0, 0)) ∧ Below p W wr) (fun iv _ => 8 - (intOf iv).toNat)
  case atStart => exact ⟨0, _, Nat.zero_le _, rfl, ownJ_nil _ _, HQ2.out, Below.refl _ _⟩
  case round =>
    obtain ⟨k, v, hk, rfl, hO, hH, hB⟩ := hrel
    obtain ⟨va, vn, vc, rfl⟩ := ownJ_slice hO
    have HO := Lib.hid hO
    have HH := Lib.hid hH
    have HB := Lib.hid hB
    obtain ⟨⟨z11, z12⟩, hrM, -, -⟩ := HX.out wr hB
    clear hO hH hB
    by_cases hlt : k < 8
    · have t1 : decide ((k : Int) < 8) = true := by simp; omega
      obtain ⟨eb, eo, x, he, hck, hx, hxg⟩ := rowK_cell hrM hlt
      cases he
      have hwx : IntKind.i64.wrap (x : Int) = (x : Int) := by rw [IntKind.wrap_i64]; omega
      have HTK : Hid (valj (n.ds.take (k + 1)) = valj (n.ds.take k) ++ [.int .i64 (x : Int)] ∧ (n.ds.take (k + 1)).length = k + 1) := Lib.hid ⟨by
        rw [take_snoc_getD _ k (by show k < 8; exact hlt), ← hxg.out]; simp [valj], by rw [List.length_take, show n.ds.length = 8 from rfl]; omega⟩
      have HTL : Hid ((n.ds.take k).length = k) := Lib.hid (by rw [List.length_take, show n.ds.length = 8 from rfl]; omega)
      have z1 : wr.cell? ⟨p, 3, none⟩ = some (.slice va vn vc) := (pt_four HH.out).2.2.2
      have z1a := pt_step z1 (bel_alloc (Below.refl _ wr) (.cells #[.int .i64 (x : Int)] 2))
      have hck2 := pt_step hck (bel_alloc (Below.refl _ wr) (.cells #[.int .i64 (x : Int)] 2))
      have hps : p < wr.heap.size := (Array.getElem?_eq_some_iff.1 HH.out).1
      have hs1 : p + 1 ≤ wr.heap.size := hps
      have hown : (wr.alloc (.cells #[.int .i64 (x : Int)] 2)).drew.ownsRow (p + 1) 2 1 (.slice va vn vc) k (valj (n.ds.take k)) := by
        have := ownJ_below HO.out (bel_alloc (Below.refl _ wr) (.cells #[.int .i64 (x : Int)] 2)).drew
        unfold OwnJ at this
        rw [HTL.out] at this
        exact this
      have hkH : (wr.alloc (.cells #[.int .i64 (x : Int)] 2)).drew.heap.size = wr.heap.size + 1 := by simp
      have HK : Hid (k + 1 ≤ maxLen ∧ (k + 1) * 8 ≤ 140737488355328 ∧ (wr.alloc (.cells #[.int .i64 (x : Int)] 2)).drew.heap.size = wr.heap.size + 1 ∧ p + 1 ≤ (wr.alloc (.cells #[.int .i64 (x : Int)] 2)).drew.heap.size) := Lib.hid ⟨by unfold maxLen; clear hwx; omega, by clear hwx; omega, hkH, by rw [hkH]; exact Nat.le_succ_of_le hs1⟩
      have i0' : (0 : Int) ≤ (k : Int) := by clear hwx; omega
      have i1' : (k : Int) < 8 := by clear hwx; omega
      obtain ⟨hi, hz0, hz1, hz2⟩ := HI.out
      clear hkH hrM hx z11 z12
      go_upto_region 5 with fail
      go_region_law (refine step_append_lies _ (by rfl) _ _ _ (by rfl) (p + 1) 2 i0 _ 1 8 Try.underlying32 hi hz0 hz1 hz2 rfl (by decide) _ k _ (by rfl) hown ⟨wr.heap.size, 0, none⟩ 1 1 [.int .i64 (x : Int)] (by rfl) (by rfl) (World.news_of_block (cs := #[.int .i64 (x : Int)]) (t := 2) (fr := (0, 0)) (heap_alloc_new wr _)) (by simp [Value.oneCell']) Nat.one_pos HK.out.1 HK.out.2.1 HK.out.2.2.2 (wr.heap.size + 1) HK.out.2.2.1 ?_; intro g2 c2' w5 hown1 hgrow hat hlt3; have hb5 : Below (p + 1) wr w5 := ((Below.refl (p + 1) wr).alloc hs1 _).drew.trans ((Below.refl (p + 1) _).grown hgrow HK.out.2.2.2 (fun q hq => (hown.lt q hq).1)); have h5 : w5.heap[p]? = some (.cells #[.int .i64 (n.ki : Int), .int .i64 (n.ln : Int), .int .i64 (n.sz : Int), .slice va vn vc] 34 (0, 0)) := (hb5.block p (Nat.lt_succ_self p)).trans HH.out; have H5 := Lib.hid h5; have HB5 := Lib.hid hb5; have z1b := (pt_four h5).2.2.2; have zf := pt_free h5 3; clear h5 hgrow hat hb5)
      all_goals
        have hN : Hid (OwnJ (p + 1) (w5.setCell ⟨p, 3, none⟩ (.slice (some ⟨g2, 0, none⟩) (k + 1) c2')) (.slice (some ⟨g2, 0, none⟩) (k + 1) c2') (n.ds.take (k + 1)) ∧ (w5.setCell ⟨p, 3, none⟩ (.slice (some ⟨g2, 0, none⟩) (k + 1) c2')).heap[p]? = some (.cells #[.int .i64 (n.ki : Int), .int .i64 (n.ln : Int), .int .i64 (n.sz : Int), .slice (some ⟨g2, 0, none⟩) (k + 1) c2'] 34 (0, 0)) ∧ Below p W (w5.setCell ⟨p, 3, none⟩ (.slice (some ⟨g2, 0, none⟩) (k + 1) c2'))) := Lib.hid ⟨by
          unfold OwnJ
          rw [HTK.out.1, HTK.out.2]
          exact ownsRow_setCell_below (a := ⟨p, 3, none⟩) hown1 (Nat.lt_succ_self p) _, by
          have := heap_setCell_same w5 p 3 _ _ (.slice (some ⟨g2, 0, none⟩) (k + 1) c2') H5.out
          simpa using this, (HB.out.trans (HB5.out.mono (Nat.le_succ p))).setCell (p := ⟨p, 3, none⟩) (Nat.le_refl p) _⟩
        clear hown hown1 hlt3 z1 z1a z1b zf hi hz0 hz1 hz2 hck hck2 hwx
        go_wp2_with fail
        go_roundw
        case rel => exact ⟨k + 1, _, by omega, by go_num, hN.out.1, hN.out.2.1, hN.out.2.2⟩
        case measure => simp [intOf]; omega
    · obtain rfl : k = 8 := by omega
      have t1 : decide (((8 : Nat) : Int) < 8) = false := by decide
      have ho := HO.out
      rw [List.take_of_length_le (by show 8 ≤ 8; exact Nat.le_refl _)] at ho
      have HMO := Lib.hid ho
      have z1 : wr.cell? ⟨p, 3, none⟩ = some (.slice va vn vc) := (pt_four HH.out).2.2.2
      have hps : p < wr.heap.size := (Array.getElem?_eq_some_iff.1 HH.out).1
      have HS1 : Hid (p + 1 ≤ wr.heap.size) := Lib.hid hps
      have HYB : Hid (Below wr.heap.size wr (wr.alloc (.cells #[.int .i64 (n.si : Int), .int .i64 (n.db : Int)] 2))) := Lib.hid (bel_alloc (Below.refl _ _) _)
      have HYH : Hid ((wr.alloc (.cells #[.int .i64 (n.si : Int), .int .i64 (n.db : Int)] 2)).heap[wr.heap.size]? = some (.cells (valj [n.si, n.db]).toArray 2 (0, 0))) := Lib.hid (heap_alloc_new _ _)
      have HYO := Lib.hid (ownJ_below HMO.out HYB.out)
      clear ho HO hps hrM hk hlt
      go_wp2_with (at_builtin; refine wpList_appJ rfl _ _ rfl (p + 1) _ _ rfl HYO.out wr.heap.size 2 _ [n.si, n.db] rfl rfl HYH.out (Nat.le_trans HS1.out HYB.out.size) (by show 8 + 2 ≤ 1000000; decide) ?_)
      intro v9 w9 hown hbl
      obtain ⟨ga, gn, gc, rfl⟩ := ownJ_slice hown
      have hb9 : Below (p + 1) wr w9 := (HYB.out.mono HS1.out).trans hbl
      have h9 := (hb9.block p (Nat.lt_succ_self p)).trans HH.out
      have H9 := Lib.hid h9
      have HB9 := Lib.hid (HB.out.trans (hb9.mono (Nat.le_succ p)))
      have HO9 := Lib.hid hown
      have zf := pt_free h9 3
      obtain ⟨q0, q1, q2, q3⟩ := pt_four h9
      clear hown hbl hb9 h9 z11 z12 z1 m4 m5
      obtain ⟨Z, hZ⟩ : ∃ x, x = w9.setCell ⟨p, 3, none⟩ (.slice ga gn gc) := ⟨_, rfl⟩
      have HZH : Hid (Z.heap[p]? = some (.cells #[.int .i64 (n.ki : Int), .int .i64 (n.ln : Int), .int .i64 (n.sz : Int), (.slice ga gn gc)] 34 (0, 0))) := Lib.hid (by
        rw [hZ]
        have := heap_setCell_same w9 p 3 _ _ (.slice ga gn gc) H9.out
        simpa using this)
      have HZB : Hid (Below p W Z) := Lib.hid (by rw [hZ]; exact HB9.out.setCell (p := ⟨p, 3, none⟩) (Nat.le_refl p) _)
      have HZO : Hid (OwnJ (p + 1) Z (.slice ga gn gc) n.at_) := Lib.hid (by rw [hZ]; exact ownsRow_setCell_below (a := ⟨p, 3, none⟩) HO9.out (Nat.lt_succ_self p) _)
      obtain ⟨d0, d1, d2, d3⟩ := pt_four HZH.out
      obtain ⟨y0, y1, y2, y3⟩ := pt_four (HX.out Z HZB.out).2.2.2
      have yf := pt_free (HX.out Z HZB.out).2.2.2
      have f0 := yf 0
      have f1 := yf 1
      have f2 := yf 2
      have f3 := yf 3
      clear yf
      go_upto_region 7 with fail
      rw [← hZ]
      clear hZ
      go_wp2_with fail
      obtain ⟨r0, r1, r2, r3⟩ := pt_four (pt_put4 (HX.out Z HZB.out).2.2.2 (.int .i64 (n.ki : Int)) (.int .i64 (n.ln : Int)) (.int .i64 (n.sz : Int)) (.slice ga gn gc))
      have hb0 : b + 1 < p + 1 := Nat.lt_succ_of_lt HWP.out.2.2
      have hbw : w.heap.size ≤ b + 1 := Nat.le_succ_of_le HWP.out.1
      have hMZ : OwnJ (p + 1) ((((Z.setCell ⟨b + 1, 0, none⟩ (.int .i64 (n.ki : Int))).setCell ⟨b + 1, 1, none⟩ (.int .i64 (n.ln : Int))).setCell ⟨b + 1, 2, none⟩ (.int .i64 (n.sz : Int))).setCell ⟨b + 1, 3, none⟩ (.slice ga gn gc)) (.slice ga gn gc) n.at_ := ownsRow_setCell_below (a := ⟨b + 1, 3, none⟩) (ownsRow_setCell_below (a := ⟨b + 1, 2, none⟩) (ownsRow_setCell_below (a := ⟨b + 1, 1, none⟩) (ownsRow_setCell_below (a := ⟨b + 1, 0, none⟩) HZO.out hb0 _) hb0 _) hb0 _) hb0 _
      have hBZ : Below w.heap.size w ((((Z.setCell ⟨b + 1, 0, none⟩ (.int .i64 (n.ki : Int))).setCell ⟨b + 1, 1, none⟩ (.int .i64 (n.ln : Int))).setCell ⟨b + 1, 2, none⟩ (.int .i64 (n.sz : Int))).setCell ⟨b + 1, 3, none⟩ (.slice ga gn gc)) := ((((HX.out Z HZB.out).2.2.1.setCell (p := ⟨b + 1, 0, none⟩) hbw _).setCell (p := ⟨b + 1, 1, none⟩) hbw _).setCell (p := ⟨b + 1, 2, none⟩) hbw _).setCell (p := ⟨b + 1, 3, none⟩) hbw _
      obtain ⟨a1, c1, e1, hr1⟩ := ownJ_row hMZ HFT.out
      cases e1
      refine bodyPost_ret (v := .agg #[.int .i64 (n.ki : Int), .int .i64 (n.ln : Int), .int .i64 (n.sz : Int), .slice ga 10 gc]) ?_ rfl ⟨ga, gc, rfl, hr1, hBZ⟩
      simp [results, Try.results13, go_sem, r0, r1, r2, r3]
      rfl
end Go.Proofs.Ytnnaijeapapehaa
