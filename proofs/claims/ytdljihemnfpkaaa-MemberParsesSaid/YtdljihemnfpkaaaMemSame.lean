/- gabionlaw12.of and same. -/
import Derived.Test.YtdljihemnfpkaaaMemSet
namespace Go.Proofs.Ytdljihemnfpkaaa
open Go.RowKit Go.Deep

def setV (sq : Int) (a : Option Addr) (n c : Nat) (sp de dn : Int) : Value := .agg #[.int .i64 sq, .slice a n c, .int .i64 sp, .int .i64 de, .int .i64 dn]
set_option maxRecDepth 100000 in
set_option maxHeartbeats 1000000 in
theorem memOf_any (sq : Int) (a : Option Addr) (n c : Nat) (sp de dn : Int) (w : World) (h0 : 0 ≤ sq) (h1 : sq < 4294967296) :
    Calls Try.prog 11 #[.agg #[.int .u32 sq, .slice a n c, .int .i64 sp, .int .i64 de, .int .i64 dn]] w fun e w' => e = .returned (setV sq a n c sp de dn) ∧ Below w.heap.size w w' := by
  have hq : IntKind.i64.wrap sq = sq := by rw [IntKind.wrap_i64]; omega
  unfold setV
  go_enter Try.func11, Try.ntmps11
  go_wp2
  have l1 := heap_alloc_new (w.alloc (.cells #[.int .u32 sq, .slice a n c, .int .i64 sp, .int .i64 de, .int .i64 dn] 31)) (.cells #[.int .i64 sq, .slice a n c, .int .i64 sp, .int .i64 de, .int .i64 dn] 42)
  rw [show (w.alloc (.cells #[.int .u32 sq, .slice a n c, .int .i64 sp, .int .i64 de, .int .i64 dn] 31)).heap.size = w.heap.size + 1 by simp] at l1
  obtain ⟨q0, q1, q2, q3, q4⟩ := five_at l1
  refine bodyPost_ret (v := .agg #[.int .i64 sq, .slice a n c, .int .i64 sp, .int .i64 de, .int .i64 dn]) ?_ rfl ⟨rfl, bel_alloc (bel_alloc (Below.refl _ w) _) _⟩
  simp [results, Try.results11, go_sem, q0, q1, q2, q3, q4]
set_option maxRecDepth 100000 in
set_option maxHeartbeats 1000000 in
theorem memSame_yes (sq sp de dn : Int) (a1 a2 : Option Addr) (n c1 c2 : Nat) (L : List Int) (w : World) (h1 : RowI w a1 n c1 L) (h2 : RowI w a2 n c2 L) :
    Calls Try.prog 10 #[setV sq a1 n c1 sp de dn, setV sq a2 n c2 sp de dn] w fun e w' => e = .returned (.bool true) ∧ Below w.heap.size w w' := by
  unfold setV
  have e0 : (sq != sq) = false := by simp
  have e1 : (sp != sp) = false := by simp
  have e2 : (de != de) = false := by simp
  have e3 : (dn != dn) = false := by simp
  have e4 : ((n : Int) != (n : Int)) = false := by simp
  have hnm : n ≤ 9223372036854775807 := by have := h1.2.1; have := h1.2.2.1; unfold maxLen at this; omega
  go_enter Try.func10, Try.ntmps10
  go_upto_region 1 with fail
  have l1 := heap_alloc_new (w.alloc (.cells #[.int .i64 sq, .slice a1 n c1, .int .i64 sp, .int .i64 de, .int .i64 dn] 42)) (.cells #[.int .i64 sq, .slice a2 n c2, .int .i64 sp, .int .i64 de, .int .i64 dn] 42)
  have l0 := (heap_alloc_oldm (o := .cells #[.int .i64 sq, .slice a2 n c2, .int .i64 sp, .int .i64 de, .int .i64 dn] 42) (b := w.heap.size) (w := w.alloc (.cells #[.int .i64 sq, .slice a1 n c1, .int .i64 sp, .int .i64 de, .int .i64 dn] 42)) (by simp)).trans (heap_alloc_new w _)
  have hb := bel_alloc (bel_alloc (Below.refl _ w) (.cells #[.int .i64 sq, .slice a1 n c1, .int .i64 sp, .int .i64 de, .int .i64 dn] 42)) (.cells #[.int .i64 sq, .slice a2 n c2, .int .i64 sp, .int .i64 de, .int .i64 dn] 42)
  have r1 := rowI_below h1 hb
  have r2 := rowI_below h2 hb
  rw [show (w.alloc (.cells #[.int .i64 sq, .slice a1 n c1, .int .i64 sp, .int .i64 de, .int .i64 dn] 42)).heap.size = w.heap.size + 1 by simp] at l1
  clear h1 h2
  obtain ⟨w2, hw2⟩ : ∃ x, x = (w.alloc (.cells #[.int .i64 sq, .slice a1 n c1, .int .i64 sp, .int .i64 de, .int .i64 dn] 42)).alloc (.cells #[.int .i64 sq, .slice a2 n c2, .int .i64 sp, .int .i64 de, .int .i64 dn] 42) := ⟨_, rfl⟩
  obtain ⟨b, hbb⟩ : ∃ x, x = w.heap.size := ⟨_, rfl⟩
  rw [← hw2, ← hbb] at l0 l1
  rw [← hw2] at hb r1 r2
  rw [← hw2, ← hbb]
  clear hw2 hbb
  obtain ⟨y0, y1, y2, y3, y4⟩ := five_at l0
  obtain ⟨z0, z1, z2, z3, z4⟩ := five_at l1
  have HL0 := Lib.hid l0
  have HL1 := Lib.hid l1
  have HB := Lib.hid hb
  have HR1 := Lib.hid r1
  have HR2 := Lib.hid r2
  clear l0 l1 hb r1 r2
  go_wp2_with fail
  clear y0 y1 y2 y3 y4 z0 z1 z2 z3 z4
  go_loopw [5] (fun i wr => ∃ k : Nat, k ≤ n ∧ i = .int .i64 (k : Int) ∧ Below w2.heap.size w2 wr) (fun i _ => n - (intOf i).toNat)
  case atStart => exact ⟨0, Nat.zero_le _, rfl, Below.refl _ _⟩
  case round =>
    obtain ⟨k, hk, rfl, hbw⟩ := hrel
    have HBW := Lib.hid hbw
    obtain ⟨_, z1, _, _, _⟩ := five_at ((hbw.block _ (Array.getElem?_eq_some_iff.1 HL0.out).1).trans HL0.out)
    obtain ⟨_, y1, _, _, _⟩ := five_at ((hbw.block _ (Array.getElem?_eq_some_iff.1 HL1.out).1).trans HL1.out)
    clear hbw
    by_cases hlt : k < n
    · have t1 : decide (k < n) = true := by simpa using hlt
      obtain ⟨eb, eo, rfl, hc1, _, _⟩ := rowI_at (rowI_below HR1.out HBW.out) (k := k) hlt
      obtain ⟨fb, fo, rfl, hc2, _, _⟩ := rowI_at (rowI_below HR2.out HBW.out) (k := k) hlt
      obtain ⟨x, hx⟩ : ∃ x, x = L.getD k 0 := ⟨_, rfl⟩
      rw [← hx] at hc1 hc2
      clear hx
      have i0 : (0 : Int) ≤ (k : Int) := by omega
      have i1 : (k : Int) < (n : Int) := by omega
      have e5 : (x != x) = false := by simp
      go_wp2_with fail
      go_quiet (fail)
      go_wp2
      go_roundw
      case rel => exact ⟨k + 1, by omega, by go_num, bel_trans HBW.out (mbel_drewN _ _)⟩
      case measure => simp [intOf]; omega
    · have t1 : decide (k < n) = false := by simpa using hlt
      go_wp2
      go_ret
      exact ⟨rfl, bel_trans HB.out HBW.out⟩
end Go.Proofs.Ytdljihemnfpkaaa
