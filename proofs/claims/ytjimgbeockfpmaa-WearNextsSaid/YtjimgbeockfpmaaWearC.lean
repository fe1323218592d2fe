/- wear: Victim, Next, Count, Dead; the law's own example. -/
import Derived.Test.YtjimgbeockfpmaaWearS
namespace Go.Proofs.Ytjimgbeockfpmaa
open Go.RowKit

def VictimIs (G : List SegV) (r : Int) : Prop := if 8 < spreadE G then FirstIs ordE 2 G G.length r else FirstIs ordV 2 G G.length r
theorem victim_same {G : List SegV} {r r' : Int} (h : VictimIs G r) (h' : VictimIs G r') : r = r' := by
  unfold VictimIs at h h'
  split at h
  · rw [if_pos (by assumption)] at h'; exact first_same h h'
  · rw [if_neg (by assumption)] at h'; exact first_same h h'
theorem victim_any (a : Option Addr) (len cap : Nat) (G : List SegV) (w : World) (hr : RowG w a len G) (hlc : len ≤ cap) (hcm : cap ≤ maxLen) :
    Calls Try.prog 9 #[.slice a len cap] w fun e w' => ∃ r, e = .returned (.int .i64 r) ∧ VictimIs G r ∧ Below w.heap.size w w' := by
  have hlen := hr.1
  by_cases h : 8 < spreadE G
  · have hV : ∀ r, FirstIs ordE 2 G len r → VictimIs G r := fun r hf => by unfold VictimIs; rw [if_pos h, hlen]; exact hf
    have HV := Lib.hid hV
    have t1 : decide ((8 : Int) < (spreadE G : Int)) = true := by simp; omega
    have t2 : decide (8 < spreadE G) = true := by simpa using h
    clear h hV
    go_enter Try.func9, Try.ntmps9
    go_wp2_with fail
    refine (spread_any a len cap G w hr hlc hcm).mono ?_
    rintro e w1 ⟨rfl, hb1⟩
    go_wp2_with fail
    refine (firstE_any a len cap G 2 w1 (hr.step hb1) hlc hcm).mono ?_
    rintro e w2 ⟨r, rfl, hf, hb2⟩
    go_wp2_with fail
    go_ret
    exact ⟨r, rfl, HV.out r hf, wbel_trans hb1 hb2⟩
  · have hV : ∀ r, FirstIs ordV 2 G len r → VictimIs G r := fun r hf => by unfold VictimIs; rw [if_neg h, hlen]; exact hf
    have HV := Lib.hid hV
    have t1 : decide ((8 : Int) < (spreadE G : Int)) = false := by simp; omega
    have t2 : decide (8 < spreadE G) = false := by simpa using h
    clear h hV
    go_enter Try.func9, Try.ntmps9
    go_wp2_with fail
    refine (spread_any a len cap G w hr hlc hcm).mono ?_
    rintro e w1 ⟨rfl, hb1⟩
    go_wp2_with fail
    refine (firstV_any a len cap G 2 w1 (hr.step hb1) hlc hcm).mono ?_
    rintro e w2 ⟨r, rfl, hf, hb2⟩
    go_wp2_with fail
    go_ret
    exact ⟨r, rfl, HV.out r hf, wbel_trans hb1 hb2⟩
theorem next_any (a : Option Addr) (len cap : Nat) (G : List SegV) (w : World) (hr : RowG w a len G) (hlc : len ≤ cap) (hcm : cap ≤ maxLen) :
    Calls Try.prog 13 #[.slice a len cap] w fun e w' => ∃ r, e = .returned (.int .i64 r) ∧ FirstIs ordN 0 G len r ∧ Below w.heap.size w w' := by
  go_enter Try.func13, Try.ntmps13
  go_wp2_with fail
  refine (firstN_any a len cap G 0 w hr hlc hcm).mono ?_
  rintro e w2 ⟨r, rfl, hf, hb2⟩
  go_wp2_with fail
  go_ret
  exact ⟨r, rfl, hf, hb2⟩
/-- How many of the first k are of a kind. -/
def cntK (K : Int) (G : List SegV) : Nat → Nat
  | 0 => 0
  | k + 1 => cntK K G k + if (G.getD k SegV.nil).k = K then 1 else 0
theorem cntK_le (K : Int) (G : List SegV) : ∀ k, cntK K G k ≤ k
  | 0 => Nat.le_refl _
  | k + 1 => by
    have := cntK_le K G k
    unfold cntK
    split <;> omega
set_option maxHeartbeats 1000000 in
theorem count_any (a : Option Addr) (len cap : Nat) (G : List SegV) (K : Int) (w : World) (hr : RowG w a len G) (hlc : len ≤ cap) (hcm : cap ≤ maxLen) :
    Calls Try.prog 15 #[.slice a len cap, .int .i64 K] w fun e w' => e = .returned (.int .i64 (cntK K G len : Int)) ∧ Below w.heap.size w w' := by
  have HR := Lib.hid hr
  clear hr
  unfold maxLen at hcm
  go_enter Try.func15, Try.ntmps15
  go_wp2_with fail
  go_loopw [10, 5] (fun i t wr => ∃ (k : Nat), k ≤ len ∧ i = .int .i64 (k : Int) ∧ t = .int .i64 (cntK K G k : Int) ∧ Below w.heap.size w wr) (fun i _ _ => len - (intOf i).toNat)
  case atStart => exact ⟨0, Nat.zero_le _, rfl, rfl, Below.refl _ _⟩
  case round =>
    obtain ⟨k, hk, rfl, rfl, hB⟩ := hrel
    have HB := Lib.hid hB
    clear hB
    by_cases hlt : k < len
    · have t1 : decide (k < len) = true := by simpa using hlt
      have hr1 := HR.out.step HB.out
      obtain ⟨b, off, rfl, hbs, hc⟩ := rowG_at hr1 hlt
      obtain ⟨c0, c1, c2⟩ := hc k hlt
      clear hr1 hc
      obtain ⟨g, hg⟩ : ∃ g, g = G.getD k SegV.nil := ⟨_, rfl⟩
      rw [← hg] at c0 c1 c2
      have HG := Lib.hid hg
      clear hg
      have hk0 : (0 : Int) ≤ (k : Int) := by omega
      have hcl := cntK_le K G k
      by_cases hK : g.k = K
      · have t2 : (g.k == K) = true := by simpa using hK
        have e1 : ((cntK K G k : Int) + 1) = (cntK K G (k + 1) : Int) := by
          show _ = ((cntK K G k + if (G.getD k SegV.nil).k = K then 1 else 0 : Nat) : Int)
          rw [← HG.out, if_pos hK]; omega
        have HE := Lib.hid e1
        clear hK e1
        go_wp2_with fail
        go_roundw
        case rel => exact ⟨k + 1, by omega, by go_num, by rw [← HE.out], wbel_alloc HB.out _⟩
        case measure => simp [intOf]; omega
      · have t2 : (g.k == K) = false := by simpa using hK
        have e1 : (cntK K G k : Int) = (cntK K G (k + 1) : Int) := by
          show _ = ((cntK K G k + if (G.getD k SegV.nil).k = K then 1 else 0 : Nat) : Int)
          rw [← HG.out, if_neg hK]; omega
        have HE := Lib.hid e1
        clear hK e1
        go_wp2_with fail
        go_roundw
        case rel => exact ⟨k + 1, by omega, by go_num, by rw [← HE.out], wbel_alloc HB.out _⟩
        case measure => simp [intOf]; omega
    · obtain rfl : k = len := by omega
      have t1 : decide (k < k) = false := by simp
      go_wp2
      go_ret
      exact ⟨rfl, HB.out⟩
/-- The law's example. -/
def exG : List SegV := [⟨2, 3, 0⟩, ⟨2, 1, 2⟩, ⟨2, 1, 1⟩, ⟨0, 0, 5⟩]
theorem exG_victim : VictimIs exG 2 := by
  unfold VictimIs
  rw [if_neg (by decide)]
  refine .inr ⟨2, by decide, rfl, rfl, fun j hj => ?_⟩
  have : j < 4 := hj
  rcases (show j = 0 ∨ j = 1 ∨ j = 2 ∨ j = 3 by omega) with rfl | rfl | rfl | rfl <;> decide
theorem exG_next : FirstIs ordN 0 exG 4 3 := by
  refine .inr ⟨3, by decide, rfl, rfl, fun j hj => ?_⟩
  rcases (show j = 0 ∨ j = 1 ∨ j = 2 ∨ j = 3 by omega) with rfl | rfl | rfl | rfl <;> decide
theorem exG_row (w : World) : RowG (w.alloc (.cells #[.int .i64 2, .int .i64 3, .int .u32 0, .int .i64 2, .int .i64 1, .int .u32 2, .int .i64 2, .int .i64 1, .int .u32 1, .int .i64 0, .int .i64 0, .int .u32 5] 33)) (some ⟨w.heap.size, 0, none⟩) 4 exG := by
  refine ⟨rfl, by decide, fun _ => ⟨w.heap.size, 0, rfl, fun i hi => ?_⟩⟩
  rw [heap_new_w, heap_new_w, heap_new_w]
  rcases (show i = 0 ∨ i = 1 ∨ i = 2 ∨ i = 3 by omega) with rfl | rfl | rfl | rfl <;> exact ⟨rfl, rfl, rfl⟩
theorem chosen_any (w : World) : Calls Try.prog 8 #[] w fun e w' => e = .returned (.bool true) ∧ Below w.heap.size w w' := by
  go_enter Try.func8, Try.ntmps8
  go_wp2_with fail
  refine (victim_any _ _ _ exG _ (exG_row w) (by decide) (by decide)).mono ?_
  rintro e w1 ⟨r, rfl, hv, hb1⟩
  obtain rfl : r = 2 := victim_same hv exG_victim
  go_wp2_with fail
  refine (next_any _ _ _ exG _ ((exG_row w).step hb1) (by decide) (by decide)).mono ?_
  rintro e w2 ⟨r, rfl, hv, hb2⟩
  obtain rfl : r = 3 := first_same hv exG_next
  go_wp2_with fail
  go_ret
  exact ⟨rfl, wbel_trans (wbel_trans (wbel_alloc (Below.refl _ _) _) hb1) hb2⟩
end Go.Proofs.Ytjimgbeockfpmaa
