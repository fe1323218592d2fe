/- InodeCodes: the walk. -/
import Derived.Test.YtnnaijeapapehaaInRefEnc
import Derived.Test.YtnnaijeapapehaaInBack
import Derived.Test.YtnnaijeapapehaaInLaid
namespace Go.Proofs.Ytnnaijeapapehaa
open Go.RowKit

/-- The document's bytes of an inode. -/
theorem refOf_any (n : Ino) (hf : n.Fits) (la : Option Addr) (lc : Nat) (w : World) (hr : RowK .i64 4294967296 w la 10 n.at_) :
    Calls Try.prog 12 #[.agg #[.int .i64 (n.ki : Int), .int .i64 (n.ln : Int), .int .i64 (n.sz : Int), .slice la 10 lc]] w (RetOwn w (encI n)) := by
  have h := refInEncode_any n.ki n.ln n.sz la lc n.at_ w hf.ki hf.ln hf.sz hr
  rw [docI_enc] at h
  exact h
theorem decV_enc (n : Ino) (h : n.Fits) : decV (encI n) = if rightI n then .tuple #[.agg n.cl, .int .i64 0] else .tuple #[.agg #[.int .u8 0, .int .u16 0, .int .u32 0, .int .u32 0, .int .u32 0, .int .u32 0, .int .u32 0, .int .u32 0, .int .u32 0, .int .u32 0, .int .u32 0, .int .u32 0, .int .u32 0], .int .i64 62] := by
  unfold decV
  rw [okI_enc n h, inoOf_enc n h]
theorem eql_zz (w : World) : (binOp .eql 26 (.agg #[.int .u8 0, .int .u16 0, .int .u32 0, .int .u32 0, .int .u32 0, .int .u32 0, .int .u32 0, .int .u32 0, .int .u32 0, .int .u32 0, .int .u32 0, .int .u32 0, .int .u32 0]) (.agg #[.int .u8 0, .int .u16 0, .int .u32 0, .int .u32 0, .int .u32 0, .int .u32 0, .int .u32 0, .int .u32 0, .int .u32 0, .int .u32 0, .int .u32 0, .int .u32 0, .int .u32 0])).run Try.prog w = .ok (.bool true) w := eql_zero Ino.zero zero_fits true ((eqI_iff _ _).2 rfl) w
theorem row_keepB {w w' : World} {a : Option Addr} {m : Nat} {l : List Nat} (h : Row w a m l) (hb : Below w.heap.size w w') : Row w' a m l := row_keep h hb (Nat.le_refl _)
set_option maxRecDepth 100000 in
set_option maxHeartbeats 4000000 in
theorem inodeCodes_walk (n : Ino) (w : World) (hf : n.Fits) :
    Calls Try.prog 3 #[.agg #[.int .u8 (n.ki : Int), .int .u16 (n.ln : Int), .int .u32 (n.sz : Int), .int .u32 (n.d0 : Int), .int .u32 (n.d1 : Int), .int .u32 (n.d2 : Int), .int .u32 (n.d3 : Int), .int .u32 (n.d4 : Int), .int .u32 (n.d5 : Int), .int .u32 (n.d6 : Int), .int .u32 (n.d7 : Int), .int .u32 (n.si : Int), .int .u32 (n.db : Int)]] w fun e w' => e = .returned (.bool true) ∧ Below w.heap.size w w' := by
  obtain ⟨B, hB⟩ : ∃ x, x = w.alloc (.cells #[.int .u8 (n.ki : Int), .int .u16 (n.ln : Int), .int .u32 (n.sz : Int), .int .u32 (n.d0 : Int), .int .u32 (n.d1 : Int), .int .u32 (n.d2 : Int), .int .u32 (n.d3 : Int), .int .u32 (n.d4 : Int), .int .u32 (n.d5 : Int), .int .u32 (n.d6 : Int), .int .u32 (n.d7 : Int), .int .u32 (n.si : Int), .int .u32 (n.db : Int)] 26) := ⟨_, rfl⟩
  obtain ⟨b, hb⟩ : ∃ x, x = w.heap.size := ⟨_, rfl⟩
  have hh : B.heap[b]? = some (.cells n.cl 26 (0, 0)) := by rw [hB, hb]; exact heap_alloc_new _ _
  have hbb : b < B.heap.size := (Array.getElem?_eq_some_iff.1 hh).1
  have HBB := Lib.hid (show Below w.heap.size w B by rw [hB]; exact bel_alloc (Below.refl _ _) _)
  have HX : Hid (∀ x : World, Below B.heap.size B x → x.heap[b]? = some (.cells n.cl 26 (0, 0))) := Lib.hid fun x hx => (hx.block b hbb).trans hh
  have HEN : Hid (∀ x : World, Calls Try.prog 9 #[.agg #[.int .u8 (n.ki : Int), .int .u16 (n.ln : Int), .int .u32 (n.sz : Int), .int .u32 (n.d0 : Int), .int .u32 (n.d1 : Int), .int .u32 (n.d2 : Int), .int .u32 (n.d3 : Int), .int .u32 (n.d4 : Int), .int .u32 (n.d5 : Int), .int .u32 (n.d6 : Int), .int .u32 (n.d7 : Int), .int .u32 (n.si : Int), .int .u32 (n.db : Int)]] x (RetOwn x (encI n))) := Lib.hid fun x => inEncode_any n x hf
  have HOF := Lib.hid fun x : World => ofI_any n x hf
  have HRE := Lib.hid (refOf_any n hf)
  have HLD := Lib.hid laidI_any
  have HDE := Lib.hid (decV_enc n hf)
  have HFT := Lib.hid hf
  obtain ⟨z0, z1, z2, z3, z4, z5, z6, z7, z8, z9, z10, z11, z12⟩ := ino13 hh
  clear hf hh hbb
  go_enter Try.func3, Try.ntmps3
  go_upto_region 1 with fail
  rw [← hB, ← hb]
  clear hB hb
  go_wp2_with fail
  ((with_reducible refine (HEN.out _).mono ?_))
  rintro e w1 ⟨v1, rfl, ho, hb1⟩
  obtain ⟨ra, rc, rfl, hrw, -⟩ := row_of_own ho
  have hnc := own_nilcap ho
  rw [enc_len] at hrw ⊢
  have HRW := Lib.hid hrw
  have HNC := Lib.hid hnc
  have HB1 := Lib.hid hb1
  clear ho hb1 hrw hnc z0 z1 z2 z3 z4 z5 z6 z7 z8 z9 z10 z11 z12
  go_wp2_with fail
  ((with_reducible refine (HLD.out _).mono ?_))
  rintro e w2 ⟨rfl, hb2⟩
  have HB2 := Lib.hid (bel_trans HB1.out hb2)
  have HRW2 := Lib.hid (row_keepB HRW.out hb2)
  clear hb2
  obtain ⟨z0, z1, z2, z3, z4, z5, z6, z7, z8, z9, z10, z11, z12⟩ := ino13 (HX.out _ HB2.out)
  go_wp2_with fail
  ((with_reducible refine (HOF.out _).mono ?_))
  rintro e w3 ⟨la, lc, rfl, hrk, hb3⟩
  have HB3 := Lib.hid (bel_trans HB2.out hb3)
  have HRW3 := Lib.hid (row_keepB HRW2.out hb3)
  have HRK := Lib.hid hrk
  clear hb3 hrk z0 z1 z2 z3 z4 z5 z6 z7 z8 z9 z10 z11 z12
  go_wp2_with fail
  ((with_reducible refine (HRE.out la lc _ HRK.out).mono ?_))
  rintro e w4 ⟨v2, rfl, ho, hb4⟩
  obtain ⟨ea, ec, rfl, hrw, -⟩ := row_of_own ho
  rw [enc_len] at hrw ⊢
  have HRE4 := Lib.hid hrw
  have HB4 := Lib.hid (bel_trans HB3.out hb4)
  have HRW4 := Lib.hid (row_keepB HRW3.out hb4)
  clear ho hb4 hrw
  go_wp2_with fail
  ((with_reducible refine (same_any _ _ _ _ _ _ (encI n) _ HRW4.out HRE4.out).mono ?_))
  rintro e w5 ⟨rfl, rfl⟩
  go_wp2_with fail
  ((with_reducible refine (inDecode_any ra 64 rc (encI n) _ rfl HRW4.out HNC.out).mono ?_))
  rintro e w6 ⟨rfl, hb6⟩
  rw [HDE.out]
  have HB6 := Lib.hid (bel_trans HB4.out hb6)
  clear hb6
  have HXX : Hid (∀ x : World, Below w6.heap.size w6 x → Below w.heap.size w x ∧ x.heap[b]? = some (.cells n.cl 26 (0, 0))) := Lib.hid fun x hx => ⟨bel_trans HBB.out (bel_trans HB6.out hx), HX.out x (bel_trans HB6.out hx)⟩
  obtain ⟨q, hq⟩ : ∃ q, eqI n Ino.zero = q := ⟨_, rfl⟩
  have HQ := fun x : World => eql_zero n HFT.out q hq x
  have hqq : eqI n n = true := (eqI_iff n n).2 rfl
  have HE := fun x : World => (eql_ino n n HFT.out HFT.out x).1
  rw [hqq] at HE
  have HZ := eql_zz
  obtain ⟨r, hr⟩ : ∃ r, rightI n = r := ⟨_, rfl⟩
  have hr2 := hr
  unfold rightI at hr2
  rw [hq] at hr2
  rw [hr]
  clear hr hqq hq
  obtain ⟨p, hp⟩ : ∃ p, p = w6.heap.size := ⟨_, rfl⟩
  cases r with
  | true =>
    obtain ⟨Y, hY⟩ : ∃ x, x = w6.alloc (.cells n.cl 26) := ⟨_, rfl⟩
    have hYb : Below w6.heap.size w6 Y := by rw [hY]; exact bel_alloc (Below.refl _ _) _
    have hYh : Y.heap[p]? = some (.cells n.cl 26 (0, 0)) := by rw [hY, hp]; exact heap_alloc_new _ _
    obtain ⟨hbw, hbx⟩ := HXX.out Y hYb
    have HBW := Lib.hid hbw
    obtain ⟨z0, z1, z2, z3, z4, z5, z6, z7, z8, z9, z10, z11, z12⟩ := ino13 hbx
    obtain ⟨y0, y1, y2, y3, y4, y5, y6, y7, y8, y9, y10, y11, y12⟩ := ino13 hYh
    clear hYb hYh hbw hbx
    rw [if_pos rfl]
    have t1 : decide ((n.ki : Int) ≤ 2) = true := by
      simp at hr2
      have := hr2.1
      simp
      omega
    unfold Ino.cl at hY
    unfold Ino.cl
    by_cases c2 : n.ki = 0
    · have t2 : ((n.ki : Int) != 0) = false := by simp; omega
      obtain rfl : q = true := by simpa [c2] using hr2
      clear c2 hr2
      go_upto_region 5 with fail
      rw [← hY, ← hp]
      clear hY hp
      go_wp2_with fail
      go_ret
      exact ⟨rfl, HBW.out⟩
    · have t2 : ((n.ki : Int) != 0) = true := by simp; omega
      clear c2 hr2
      go_upto_region 5 with fail
      rw [← hY, ← hp]
      clear hY hp
      go_wp2_with fail
      go_ret
      exact ⟨rfl, HBW.out⟩
  | false =>
    obtain ⟨Y, hY⟩ : ∃ x, x = w6.alloc (.cells #[.int .u8 0, .int .u16 0, .int .u32 0, .int .u32 0, .int .u32 0, .int .u32 0, .int .u32 0, .int .u32 0, .int .u32 0, .int .u32 0, .int .u32 0, .int .u32 0, .int .u32 0] 26) := ⟨_, rfl⟩
    have hYb : Below w6.heap.size w6 Y := by rw [hY]; exact bel_alloc (Below.refl _ _) _
    have hYh : Y.heap[p]? = some (.cells #[.int .u8 0, .int .u16 0, .int .u32 0, .int .u32 0, .int .u32 0, .int .u32 0, .int .u32 0, .int .u32 0, .int .u32 0, .int .u32 0, .int .u32 0, .int .u32 0, .int .u32 0] 26 (0, 0)) := by rw [hY, hp]; exact heap_alloc_new _ _
    obtain ⟨hbw, hbx⟩ := HXX.out Y hYb
    have HBW := Lib.hid hbw
    obtain ⟨z0, z1, z2, z3, z4, z5, z6, z7, z8, z9, z10, z11, z12⟩ := ino13 hbx
    obtain ⟨⟨y0, y1, y2, y3, y4, y5, y6, y7, y8, y9, y10, y11, y12⟩, -⟩ := ino13z hYh
    clear hYb hYh hbw hbx
    rw [if_neg (by decide)]
    by_cases c1 : n.ki ≤ 2
    · have t1 : decide ((n.ki : Int) ≤ 2) = true := by simp; omega
      have t2 : ((n.ki : Int) != 0) = false := by
        simp [c1] at hr2
        simp; omega
      obtain rfl : q = false := by
        simp [c1] at hr2
        exact hr2.2
      clear c1 hr2
      go_upto_region 5 with fail
      rw [← hY, ← hp]
      clear hY hp
      go_wp2_with fail
      go_ret
      exact ⟨rfl, HBW.out⟩
    · have t1 : decide ((n.ki : Int) ≤ 2) = false := by simp; omega
      clear c1 hr2
      go_upto_region 5 with fail
      rw [← hY, ← hp]
      clear hY hp
      go_wp2_with fail
      go_ret
      exact ⟨rfl, HBW.out⟩
end Go.Proofs.Ytnnaijeapapehaa
