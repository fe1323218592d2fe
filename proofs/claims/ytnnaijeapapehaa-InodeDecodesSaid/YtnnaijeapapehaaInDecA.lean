/- inode.Decode: 64 bytes. -/
import Derived.Test.YtnnaijeapapehaaInDec
namespace Go.Proofs.Ytnnaijeapapehaa
open Go.RowKit

def decV (bs : List Nat) : Value := if okI bs then .tuple #[.agg (inoOf bs).cl, .int .i64 0] else .tuple #[.agg #[.int .u8 0, .int .u16 0, .int .u32 0, .int .u32 0, .int .u32 0, .int .u32 0, .int .u32 0, .int .u32 0, .int .u32 0, .int .u32 0, .int .u32 0, .int .u32 0, .int .u32 0], .int .i64 62]
set_option maxRecDepth 100000 in
set_option maxHeartbeats 4000000 in
theorem inDecode_any (a : Option Addr) (len cap : Nat) (bs : List Nat) (w : World) (hl : len = 64) (hr : Row w a len bs) (hn : a = none → cap = 0) :
    Calls Try.prog 14 #[.slice a len cap] w fun e w' => e = .returned (decV bs) ∧ Below w.heap.size w w' := by
  have hbl : bs.length = 64 := by rw [hr.1, hl]
  have hfit := inoOf_fits hr.2.1
  obtain ⟨W1, hW1⟩ : ∃ x, x = w.alloc (.cells #[.int .u8 0, .int .u16 0, .int .u32 0, .int .u32 0, .int .u32 0, .int .u32 0, .int .u32 0, .int .u32 0, .int .u32 0, .int .u32 0, .int .u32 0, .int .u32 0, .int .u32 0] 26) := ⟨_, rfl⟩
  obtain ⟨W2, hW2⟩ : ∃ x, x = W1.alloc (.cells #[.int .u8 0, .int .u16 0, .int .u32 0, .int .u32 0, .int .u32 0, .int .u32 0, .int .u32 0, .int .u32 0, .int .u32 0, .int .u32 0, .int .u32 0, .int .u32 0, .int .u32 0] 26) := ⟨_, rfl⟩
  obtain ⟨W3, hW3⟩ : ∃ x, x = W2.alloc (.cells #[.bool false] 4) := ⟨_, rfl⟩
  obtain ⟨b0, hb0⟩ : ∃ x, x = w.heap.size := ⟨_, rfl⟩
  have s1 : W1.heap.size = b0 + 1 := by rw [hW1, hb0]; simp
  have s2 : W2.heap.size = b0 + 2 := by rw [hW2]; simp [s1]
  have s3 : W3.heap.size = b0 + 3 := by rw [hW3]; simp [s2]
  have h0 : W1.heap[b0]? = some (.cells #[.int .u8 0, .int .u16 0, .int .u32 0, .int .u32 0, .int .u32 0, .int .u32 0, .int .u32 0, .int .u32 0, .int .u32 0, .int .u32 0, .int .u32 0, .int .u32 0, .int .u32 0] 26 (0, 0)) := by rw [hW1, hb0]; exact heap_alloc_new _ _
  have h1 : W2.heap[b0 + 1]? = some (.cells #[.int .u8 0, .int .u16 0, .int .u32 0, .int .u32 0, .int .u32 0, .int .u32 0, .int .u32 0, .int .u32 0, .int .u32 0, .int .u32 0, .int .u32 0, .int .u32 0, .int .u32 0] 26 (0, 0)) := by rw [hW2, ← s1]; exact heap_alloc_new _ _
  have h2 : W3.heap[b0 + 2]? = some (.cells #[.bool false] 4 (0, 0)) := by rw [hW3, ← s2]; exact heap_alloc_new _ _
  have b12 : Below W1.heap.size W1 W2 := by rw [hW2]; exact bel_alloc (Below.refl _ _) _
  have b23 : Below W2.heap.size W2 W3 := by rw [hW3]; exact bel_alloc (Below.refl _ _) _
  have b01 : Below w.heap.size w W1 := by rw [hW1]; exact bel_alloc (Below.refl _ _) _
  have h0' : W3.heap[b0]? = some (.cells #[.int .u8 0, .int .u16 0, .int .u32 0, .int .u32 0, .int .u32 0, .int .u32 0, .int .u32 0, .int .u32 0, .int .u32 0, .int .u32 0, .int .u32 0, .int .u32 0, .int .u32 0] 26 (0, 0)) := (b23.block b0 (by omega)).trans ((b12.block b0 (by omega)).trans h0)
  have h1' : W3.heap[b0 + 1]? = some (.cells #[.int .u8 0, .int .u16 0, .int .u32 0, .int .u32 0, .int .u32 0, .int .u32 0, .int .u32 0, .int .u32 0, .int .u32 0, .int .u32 0, .int .u32 0, .int .u32 0, .int .u32 0] 26 (0, 0)) := (b23.block (b0 + 1) (by omega)).trans h1
  have b03 : Below w.heap.size w W3 := bel_trans (bel_trans b01 b12) b23
  have HS : Hid (b0 = w.heap.size ∧ b0 + 3 ≤ W3.heap.size ∧ W3.heap[b0]? = some (.cells #[.int .u8 0, .int .u16 0, .int .u32 0, .int .u32 0, .int .u32 0, .int .u32 0, .int .u32 0, .int .u32 0, .int .u32 0, .int .u32 0, .int .u32 0, .int .u32 0, .int .u32 0] 26 (0, 0)) ∧ Below w.heap.size w W3 ∧ w.heap.size ≤ b0) := Lib.hid ⟨hb0, by omega, h0', b03, by omega⟩
  have HRD := Lib.hid (read_ok a len cap bs 30 #[.pointer (some ⟨b0 + 1, 0, none⟩), .pointer (some ⟨b0 + 2, 0, none⟩)] W3 _ (row_keep hr b03 (Nat.le_refl _)) hn (by omega) (fun _ _ => rfl) (decBy W3 (b0 + 1) bs hbl (by omega) h1' h2))
  obtain ⟨n, hnn⟩ : ∃ n, n = inoOf bs := ⟨_, rfl⟩
  rw [← hnn] at hfit
  have HN := Lib.hid hnn
  obtain ⟨f, hf⟩ : ∃ f, (bs.getD 1 0 == 0 && zeros (bs.drop 48)) = f := ⟨_, rfl⟩
  have HFZ := Lib.hid hf
  have HRT0 := fun x : World => right_any n hfit x
  have hdec : decV bs = if (f && rightI n) = true then .tuple #[.agg n.cl, .int .i64 0] else .tuple #[.agg #[.int .u8 0, .int .u16 0, .int .u32 0, .int .u32 0, .int .u32 0, .int .u32 0, .int .u32 0, .int .u32 0, .int .u32 0, .int .u32 0, .int .u32 0, .int .u32 0, .int .u32 0], .int .i64 62] := by
    unfold decV okI; rw [hf, ← hnn]
  rw [hdec]
  have t1 : ((len : Int) != 64) = false := by simp; omega
  rw [hW2, hW1] at hW3
  clear hl hr hn hbl hfit s1 s2 s3 h0 h1 h2 b12 b23 b01 h0' h1' b03 hnn hf hdec hW1 hW2
  obtain ⟨q, hq⟩ : ∃ q, rightI n = q := ⟨_, rfl⟩
  rw [hq] at HRT0 ⊢
  have HRT := Lib.hid HRT0
  clear HRT0 hq
  cases f with
  | false =>
    rw [Bool.false_and, if_neg (by decide)]
    go_enter Try.func14, Try.ntmps14
    go_wp2_with fail
    rw [← hW3, ← hb0]
    rw [show b0 + 1 + 1 = b0 + 2 from rfl]
    clear hW3 hb0
    ((with_reducible refine HRD.out.mono ?_))
    rintro e w4 ⟨rfl, w5, hq, hb5, -⟩
    obtain ⟨hq1, hq2, hq3⟩ := hq
    have hs4 := HS.out.2.1
    have hn4 := (hb5.block (b0 + 1) (by omega)).trans hq1
    have hz4 := (hb5.block (b0 + 2) (by omega)).trans hq2
    have HB4 : Hid (Below w.heap.size w w4) := Lib.hid (HS.out.2.2.2.1.trans ((hq3.mono (by have := HS.out.1; omega)).trans (hb5.mono (by have := HS.out.1; omega))))
    have hr4 : w4.heap[b0]? = some (.cells #[.int .u8 0, .int .u16 0, .int .u32 0, .int .u32 0, .int .u32 0, .int .u32 0, .int .u32 0, .int .u32 0, .int .u32 0, .int .u32 0, .int .u32 0, .int .u32 0, .int .u32 0] 26 (0, 0)) := (hb5.block b0 (by omega)).trans ((hq3.block b0 (by omega)).trans HS.out.2.2.1)
    rw [HFZ.out] at hz4
    rw [← HN.out] at hn4
    obtain ⟨⟨z0, z1, z2, z3, z4, z5, z6, z7, z8, z9, z10, z11, z12⟩, zf⟩ := ino13z hr4
    have f0 := zf 0
    have f1 := zf 1
    have f2 := zf 2
    have f3 := zf 3
    have f4 := zf 4
    have f5 := zf 5
    have f6 := zf 6
    have f7 := zf 7
    have f8 := zf 8
    have f9 := zf 9
    have f10 := zf 10
    have f11 := zf 11
    have f12 := zf 12
    have zz : w4.cell? ⟨b0 + 2, 0, none⟩ = some (.bool false) := by simp [World.cell?, hz4]
    clear hq1 hq2 hq3 hn4 hz4 hr4 hb5 zf hs4
    go_wp2_with fail
    have hle : w.heap.size ≤ b0 := HS.out.2.2.2.2
    exact bodyPost_ret (v := .tuple #[.agg #[.int .u8 0, .int .u16 0, .int .u32 0, .int .u32 0, .int .u32 0, .int .u32 0, .int .u32 0, .int .u32 0, .int .u32 0, .int .u32 0, .int .u32 0, .int .u32 0, .int .u32 0], .int .i64 62]) (by simp [results, Try.results14, go_sem, z0, z1, z2, z3, z4, z5, z6, z7, z8, z9, z10, z11, z12]) rfl ⟨rfl, set13 HB4.out hle _ _ _ _ _ _ _ _ _ _ _ _ _⟩
  | true =>
    cases q with
    | false =>
      rw [Bool.true_and, if_neg (by decide)]
      go_enter Try.func14, Try.ntmps14
      go_wp2_with fail
      rw [← hW3, ← hb0]
      rw [show b0 + 1 + 1 = b0 + 2 from rfl]
      clear hW3 hb0
      ((with_reducible refine HRD.out.mono ?_))
      rintro e w4 ⟨rfl, w5, hq, hb5, -⟩
      obtain ⟨hq1, hq2, hq3⟩ := hq
      have hs4 := HS.out.2.1
      have hn4 := (hb5.block (b0 + 1) (by omega)).trans hq1
      have hz4 := (hb5.block (b0 + 2) (by omega)).trans hq2
      have HB4 : Hid (Below w.heap.size w w4) := Lib.hid (HS.out.2.2.2.1.trans ((hq3.mono (by have := HS.out.1; omega)).trans (hb5.mono (by have := HS.out.1; omega))))
      have hr4 : w4.heap[b0]? = some (.cells #[.int .u8 0, .int .u16 0, .int .u32 0, .int .u32 0, .int .u32 0, .int .u32 0, .int .u32 0, .int .u32 0, .int .u32 0, .int .u32 0, .int .u32 0, .int .u32 0, .int .u32 0] 26 (0, 0)) := (hb5.block b0 (by omega)).trans ((hq3.block b0 (by omega)).trans HS.out.2.2.1)
      rw [HFZ.out] at hz4
      rw [← HN.out] at hn4
      have zz : w4.cell? ⟨b0 + 2, 0, none⟩ = some (.bool true) := by simp [World.cell?, hz4]
      obtain ⟨y0, y1, y2, y3, y4, y5, y6, y7, y8, y9, y10, y11, y12⟩ := ino13 hn4
      have HN4 := Lib.hid hn4
      have HR4 := Lib.hid hr4
      clear hq1 hq2 hq3 hn4 hz4 hr4 hb5 hs4
      go_wp2_with fail
      ((with_reducible refine (HRT.out _).mono ?_))
      rintro e w6 ⟨rfl, hb6⟩
      clear y0 y1 y2 y3 y4 y5 y6 y7 y8 y9 y10 y11 y12 zz
      obtain ⟨⟨z0, z1, z2, z3, z4, z5, z6, z7, z8, z9, z10, z11, z12⟩, zf⟩ := ino13z ((hb6.block b0 (Array.getElem?_eq_some_iff.1 HR4.out).1).trans HR4.out)
      obtain ⟨y0, y1, y2, y3, y4, y5, y6, y7, y8, y9, y10, y11, y12⟩ := ino13 ((hb6.block (b0 + 1) (Array.getElem?_eq_some_iff.1 HN4.out).1).trans HN4.out)
      have f0 := zf 0
      have f1 := zf 1
      have f2 := zf 2
      have f3 := zf 3
      have f4 := zf 4
      have f5 := zf 5
      have f6 := zf 6
      have f7 := zf 7
      have f8 := zf 8
      have f9 := zf 9
      have f10 := zf 10
      have f11 := zf 11
      have f12 := zf 12
      have HB6 := Lib.hid (bel_trans HB4.out hb6)
      clear hb6 zf
      go_wp2_with fail
      have hle : w.heap.size ≤ b0 := HS.out.2.2.2.2
      exact bodyPost_ret (v := .tuple #[.agg #[.int .u8 0, .int .u16 0, .int .u32 0, .int .u32 0, .int .u32 0, .int .u32 0, .int .u32 0, .int .u32 0, .int .u32 0, .int .u32 0, .int .u32 0, .int .u32 0, .int .u32 0], .int .i64 62]) (by simp [results, Try.results14, go_sem, z0, z1, z2, z3, z4, z5, z6, z7, z8, z9, z10, z11, z12]) rfl ⟨rfl, set13 HB6.out hle _ _ _ _ _ _ _ _ _ _ _ _ _⟩
    | true =>
      rw [Bool.true_and, if_pos rfl]
      unfold Ino.cl
      go_enter Try.func14, Try.ntmps14
      go_wp2_with fail
      rw [← hW3, ← hb0]
      rw [show b0 + 1 + 1 = b0 + 2 from rfl]
      clear hW3 hb0
      ((with_reducible refine HRD.out.mono ?_))
      rintro e w4 ⟨rfl, w5, hq, hb5, -⟩
      obtain ⟨hq1, hq2, hq3⟩ := hq
      have hs4 := HS.out.2.1
      have hn4 := (hb5.block (b0 + 1) (by omega)).trans hq1
      have hz4 := (hb5.block (b0 + 2) (by omega)).trans hq2
      have HB4 : Hid (Below w.heap.size w w4) := Lib.hid (HS.out.2.2.2.1.trans ((hq3.mono (by have := HS.out.1; omega)).trans (hb5.mono (by have := HS.out.1; omega))))
      have hr4 : w4.heap[b0]? = some (.cells #[.int .u8 0, .int .u16 0, .int .u32 0, .int .u32 0, .int .u32 0, .int .u32 0, .int .u32 0, .int .u32 0, .int .u32 0, .int .u32 0, .int .u32 0, .int .u32 0, .int .u32 0] 26 (0, 0)) := (hb5.block b0 (by omega)).trans ((hq3.block b0 (by omega)).trans HS.out.2.2.1)
      rw [HFZ.out] at hz4
      rw [← HN.out] at hn4
      have zz : w4.cell? ⟨b0 + 2, 0, none⟩ = some (.bool true) := by simp [World.cell?, hz4]
      obtain ⟨y0, y1, y2, y3, y4, y5, y6, y7, y8, y9, y10, y11, y12⟩ := ino13 hn4
      have HN4 := Lib.hid hn4
      have HR4 := Lib.hid hr4
      clear hq1 hq2 hq3 hn4 hz4 hr4 hb5 hs4
      go_wp2_with fail
      ((with_reducible refine (HRT.out _).mono ?_))
      rintro e w6 ⟨rfl, hb6⟩
      clear y0 y1 y2 y3 y4 y5 y6 y7 y8 y9 y10 y11 y12 zz
      obtain ⟨⟨z0, z1, z2, z3, z4, z5, z6, z7, z8, z9, z10, z11, z12⟩, zf⟩ := ino13z ((hb6.block b0 (Array.getElem?_eq_some_iff.1 HR4.out).1).trans HR4.out)
      obtain ⟨y0, y1, y2, y3, y4, y5, y6, y7, y8, y9, y10, y11, y12⟩ := ino13 ((hb6.block (b0 + 1) (Array.getElem?_eq_some_iff.1 HN4.out).1).trans HN4.out)
      have f0 := zf 0
      have f1 := zf 1
      have f2 := zf 2
      have f3 := zf 3
      have f4 := zf 4
      have f5 := zf 5
      have f6 := zf 6
      have f7 := zf 7
      have f8 := zf 8
      have f9 := zf 9
      have f10 := zf 10
      have f11 := zf 11
      have f12 := zf 12
      have HB6 := Lib.hid (bel_trans HB4.out hb6)
      clear hb6 zf
      go_wp2_with fail
      have hle : w.heap.size ≤ b0 := HS.out.2.2.2.2
      exact bodyPost_ret (v := .tuple #[.agg #[.int .u8 (n.ki : Int), .int .u16 (n.ln : Int), .int .u32 (n.sz : Int), .int .u32 (n.d0 : Int), .int .u32 (n.d1 : Int), .int .u32 (n.d2 : Int), .int .u32 (n.d3 : Int), .int .u32 (n.d4 : Int), .int .u32 (n.d5 : Int), .int .u32 (n.d6 : Int), .int .u32 (n.d7 : Int), .int .u32 (n.si : Int), .int .u32 (n.db : Int)], .int .i64 0]) (by simp [results, Try.results14, go_sem, z0, z1, z2, z3, z4, z5, z6, z7, z8, z9, z10, z11, z12]) rfl ⟨rfl, set13 HB6.out hle _ _ _ _ _ _ _ _ _ _ _ _ _⟩
end Go.Proofs.Ytnnaijeapapehaa
