/- slices.Grow of no bytes; slices.Concat of two rows. -/
import Derived.Test.YtbfmpcomjmcfjaaRefBytes
import Derived.Lib.AppendZeros
import Derived.Lib.Hide
import Derived.LoopTactic
namespace Go.Proofs.Ytbfmpcomjmcfjaa
open Go.RowKit

/-- Room in a block of the call's own. -/
def GrowRet (w : World) (e : Ending) (w' : World) : Prop := ∃ g cap, e = .returned (.slice (some ⟨g, 0, none⟩) 0 cap) ∧ Own w.heap.size w' (.slice (some ⟨g, 0, none⟩) 0 cap) [] ∧ Below w.heap.size w w'
set_option maxHeartbeats 800000 in
theorem grow_any (n : Nat) (w : World) (h0 : 0 < n) (hn : n ≤ 1000000) :
    Calls Try.prog 150 #[.slice none 0 0, .int .i64 (n : Int)] w (GrowRet w) := by
  obtain ⟨i0, hi, hz0, hz1, hz2⟩ := info_parts info_u8
  have hrun : ∀ ty, (Builtin.append_ #[57, 3] ty #[.slice none 0 0, .int .i64 (n : Int)]).run Try.prog w = _ := fun ty => Lib.run_append_nil_zeros w 57 3 ty 5 i0 (.int .u8 0) .i64 .i64 Try.underlying57 Try.underlying3 hi hz0 n h0 (by omega) (by omega) (by rw [hz2]; omega)
  have hge := grownCap_ge w n 0 5
  have hle := grownCap_le_maxLen w n 0 5 (by unfold maxLen; omega)
  obtain ⟨G, hG⟩ : ∃ G, G = grownCap w n 0 5 := ⟨_, rfl⟩
  rw [← hG] at hrun hge hle
  unfold maxLen at hle
  obtain ⟨cs, hcs⟩ : ∃ cs, cs = Builtin.zeroCells (Value.int .u8 0).cells n ++ Builtin.zeroCells (Value.int .u8 0).cells (G - n) := ⟨_, rfl⟩
  rw [← hcs] at hrun
  have hsz : cs.size = G := by rw [hcs, Array.size_append, size_zeroCells, size_zeroCells]; simp [Value.cells]; omega
  have HS := Lib.hid hsz
  have HG := Lib.hid hle
  have h1 : decide ((n : Int) < 0) = false := by simp
  have h2 : decide (0 < (n : Int)) = true := by simp; omega
  clear hsz hcs hG
  go_enter Try.func150, Try.ntmps150
  go_wp2_with (at_builtin; refine Lib.wpList_append_run _ rfl _ _ _ _ rfl _ _ rfl rfl _ _ (hrun _) ?_)
  go_ret
  refine ⟨w.heap.size, G, rfl, ⟨⟨rfl, .inr ⟨w.heap.size, G, cs, rfl, Nat.le_refl _, ?_, Nat.zero_le _, by unfold maxLen; exact HG.out, by rw [HS.out]; omega, by simp⟩⟩, fun x hx => by cases hx⟩, (Below.refl _ w).drew.alloc (Nat.le_refl _) _⟩
  exact (MapKept.heap_alloc w.drew _).1

/-- Which row of two. -/
def pick2 {α : Type} (x y : α) (k : Nat) : α := if k = 0 then x else y
def sum2 (n m k : Nat) : Nat := if k = 0 then 0 else if k = 1 then n else n + m
def cat2 (xs ys : List Nat) (k : Nat) : List Nat := if k = 0 then [] else if k = 1 then xs else xs ++ ys
set_option maxRecDepth 100000 in
set_option maxHeartbeats 1600000 in
theorem concat_two (b : Nat) (a1 : Option Addr) (n1 c1 : Nat) (xs : List Nat) (a2 : Option Addr) (n2 c2 : Nat) (ys : List Nat) (w : World) (hb : b < w.heap.size) (h1 : w.cell? ⟨b, 0, none⟩ = some (.slice a1 n1 c1)) (h2 : w.cell? ⟨b, 1, none⟩ = some (.slice a2 n2 c2))
    (hr1 : Row w a1 n1 xs) (hn1 : a1 = none → c1 = 0) (hr2 : Row w a2 n2 ys) (hn2 : a2 = none → c2 = 0) (hl1 : n1 ≤ 100000) (hl2 : n2 ≤ 100000) (h0 : 0 < n1 + n2) :
    Calls Try.prog 101 #[.slice (some ⟨b, 0, none⟩) 2 2] w (RetOwn w (xs ++ ys)) := by
  have HB1 : Hid (∀ w', Below w.heap.size w w' → w'.cell? ⟨b, 0, none⟩ = some (.slice a1 n1 c1) ∧ w'.cell? ⟨b, 1, none⟩ = some (.slice a2 n2 c2) ∧ Row w' a1 n1 xs ∧ Row w' a2 n2 ys) := Lib.hid fun w' h =>
    ⟨(h.cell (p := ⟨b, 0, none⟩) hb).trans h1, (h.cell (p := ⟨b, 1, none⟩) hb).trans h2, row_keep hr1 h (Nat.le_refl _), row_keep hr2 h (Nat.le_refl _)⟩
  have HN := Lib.hid (And.intro hn1 hn2)
  have HX1 := Lib.hid hr1.1
  have HX2 := Lib.hid hr2.1
  clear hr1 hr2 hn1 hn2
  go_enter Try.func101, Try.ntmps101
  go_wp2_with fail
  go_loop [3, 11] (fun t i => ∃ k : Nat, k ≤ 2 ∧ i = .int .i64 (k : Int) ∧ t = .int .i64 (sum2 n1 n2 k : Int)) (fun _ i => (2 - intOf i).toNat)
  case atStart => exact ⟨0, by omega, rfl, rfl⟩
  case round =>
    obtain ⟨k, hk, rfl, rfl⟩ := hrel
    rcases (by omega : k = 0 ∨ k = 1 ∨ k = 2) with rfl | rfl | rfl
    · have e0 : ((sum2 n1 n2 0 : Nat) : Int) = 0 := rfl
      rw [e0]
      have q : decide ((n1 : Int) < 0) = false := by simp
      clear e0
      go_wp2
      go_round
      case rel => exact ⟨1, by omega, rfl, by simp [sum2]⟩
      case measure => simp [intOf]
    · have e0 : ((sum2 n1 n2 1 : Nat) : Int) = (n1 : Int) := by simp [sum2]
      rw [e0]
      have q : decide ((n1 : Int) + (n2 : Int) < 0) = false := by simp; omega
      clear e0
      go_wp2
      go_round
      case rel => exact ⟨2, by omega, rfl, by simp [sum2]⟩
      case measure => simp [intOf]
    · have e0 : ((sum2 n1 n2 2 : Nat) : Int) = ((n1 + n2 : Nat) : Int) := by simp [sum2]
      rw [e0]
      clear e0 h1 h2
      go_wp2_with fail
      have hg := grow_any (n1 + n2) w h0 (by omega)
      rw [Int.natCast_add] at hg
      ((with_reducible refine hg.mono ?_))
      rintro e w1 ⟨g, cap, rfl, ho, hb1⟩
      obtain ⟨sv, hsv⟩ : ∃ sv, sv = Value.slice (some ⟨g, 0, none⟩) 0 cap := ⟨_, rfl⟩
      rw [← hsv] at ho ⊢
      clear hsv hg
      have HO := Lib.hid ho
      have HB := Lib.hid hb1
      have HL := Lib.hid (And.intro hl1 hl2)
      clear ho hb1
      go_wp2_with fail
      go_loopw [6, 27] (fun sv i wr => ∃ k : Nat, k ≤ 2 ∧ i = .int .i64 (k : Int) ∧ Own w.heap.size wr sv (cat2 xs ys k) ∧ Below w.heap.size w wr) (fun _ i _ => (2 - intOf i).toNat)
      case atStart => exact ⟨0, by omega, rfl, HO.out, HB.out⟩
      case round =>
        obtain ⟨k, hk, rfl, ho, hb⟩ := hrel
        obtain ⟨q1, q2, q3, q4⟩ := HB1.out _ hb
        have hz := hb.size
        rcases (by omega : k = 0 ∨ k = 1 ∨ k = 2) with rfl | rfl | rfl
        · go_wp2_with (at_builtin; refine wpList_app rfl _ _ rfl w.heap.size _ _ rfl ho _ _ _ xs rfl q3 HN.out.1 hz (by simp [cat2]; omega) ?_)
          intro v1 w2 hap
          have HR := Lib.hid (And.intro hap.own (hb.trans hap.below))
          clear hap ho hb q1 q2 q3 q4
          go_wp2
          go_roundw
          case rel => exact ⟨1, by omega, rfl, HR.out.1, HR.out.2⟩
          case measure => simp [intOf]
        · go_wp2_with (at_builtin; refine wpList_app rfl _ _ rfl w.heap.size _ _ rfl ho _ _ _ ys rfl q4 HN.out.2 hz (by have := HX1.out; simp [cat2]; omega) ?_)
          intro v1 w2 hap
          have HR := Lib.hid (And.intro hap.own (hb.trans hap.below))
          clear hap ho hb q1 q2 q3 q4
          go_wp2
          go_roundw
          case rel => exact ⟨2, by omega, rfl, HR.out.1, HR.out.2⟩
          case measure => simp [intOf]
        · clear q1 q2 q3 q4 hz
          have HO2 := Lib.hid ho
          have HB2 := Lib.hid hb
          clear ho hb
          go_wp2
          go_ret
          exact ⟨_, rfl, HO2.out, HB2.out⟩

end Go.Proofs.Ytbfmpcomjmcfjaa
