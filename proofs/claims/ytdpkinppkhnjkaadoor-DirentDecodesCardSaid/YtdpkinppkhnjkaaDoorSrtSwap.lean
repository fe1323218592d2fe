/- slices.swapRangeCmpFunc over strings. -/
import Derived.Test.YtdpkinppkhnjkaaDoorSrtP
import Derived.BigRegion
import Derived.Deep.DeepCutAuto
namespace Go.Proofs.YtdpkinppkhnjkaaDoor
open Go.RowKit

/-- A row of strings in a block. -/
def SqAt (g N : Nat) (f : Seq') (w : World) : Prop := ∃ cs : Array Value, w.heap[g]? = some (.cells cs 9 (0, 0)) ∧ N ≤ cs.size ∧ ∀ k, k < N → cs[k]? = some (.string (f k))
def upd (f : Seq') (i : Nat) (s : ByteArray) : Seq' := fun k => if k = i then s else f k
theorem SqAt.cell {g N k : Nat} {f : Seq'} {w : World} (h : SqAt g N f w) (hk : k < N) : w.cell? ⟨g, k, none⟩ = some (.string (f k)) ∧ w.frozen? ⟨g, k, none⟩ = false := by
  obtain ⟨cs, h1, h2, h3⟩ := h
  refine ⟨?_, by simp [World.frozen?, h1]⟩
  rw [← h3 k hk]
  simp [World.cell?, h1]
theorem SqAt.set {g N i : Nat} {f : Seq'} {w : World} (h : SqAt g N f w) (hi : i < N) (s : ByteArray) : SqAt g N (upd f i s) (w.setCell ⟨g, i, none⟩ (.string s)) := by
  obtain ⟨cs, h1, h2, h3⟩ := h
  refine ⟨cs.setIfInBounds i (.string s), heap_setCell_same w g i _ _ _ h1, by simpa using h2, fun k hk => ?_⟩
  unfold upd
  rw [Array.getElem?_setIfInBounds]
  by_cases c : i = k
  · subst c; rw [if_pos rfl, if_pos (by omega), if_pos rfl]
  · rw [if_neg c, if_neg (fun e => c e.symm), h3 k hk]
theorem upd_swp (f : Seq') (i j : Nat) : upd (upd f i (f j)) j (f i) = swp f i j := by
  funext k
  unfold upd swp
  by_cases c1 : k = j
  · subst c1
    rw [if_pos rfl]
    by_cases c2 : k = i
    · subst c2; rw [if_pos rfl]
    · rw [if_neg c2, if_pos rfl]
  · rw [if_neg c1, if_neg c1]
theorem SqAt.size {g N : Nat} {f : Seq'} {w : World} (h : SqAt g N f w) : g < w.heap.size := by
  obtain ⟨cs, h1, _⟩ := h
  exact (Array.getElem?_eq_some_iff.1 h1).1
set_option maxRecDepth 100000 in
set_option maxHeartbeats 4000000 in
theorem swapRange_any (g N C : Nat) (f : Seq') (a b n : Nat) (cmp : Value) (w : World) (h : SqAt g N f w) (h1 : a + n ≤ b) (h2 : b + n ≤ N) (h3 : N ≤ 1000000) :
    Calls Tryd.prog 38 #[.slice (some ⟨g, 0, none⟩) N C, .int .i64 (a : Int), .int .i64 (b : Int), .int .i64 (n : Int), cmp] w fun e w' => e = .returned (.tuple #[]) ∧ SqAt g N (swr f a b n) w' ∧ Below g w w' := by
  have H := Lib.hid h
  go_enter Tryd.func38, Tryd.ntmps38
  go_wp2
  go_loopw [10] (fun iv wr => ∃ i : Nat, i ≤ n ∧ iv = .int .i64 (i : Int) ∧ SqAt g N (swr f a b i) wr ∧ Below g w wr) (fun iv _ => n - (intOf iv).toNat)
  case atStart => exact ⟨0, Nat.zero_le _, rfl, by rw [swr_zero]; exact H.out, Below.refl _ _⟩
  case round =>
    obtain ⟨i, hi, rfl, hs, hb⟩ := hrel
    have HS := Lib.hid hs
    have HB := Lib.hid hb
    clear hs hb
    by_cases hlt : i < n
    · have t1 : decide (i < n) = true := by simpa using hlt
      obtain ⟨p, hp⟩ : ∃ p, a + i = p := ⟨_, rfl⟩
      obtain ⟨q, hq⟩ : ∃ q, b + i = q := ⟨_, rfl⟩
      have e1 : (a : Int) + (i : Int) = (p : Int) := by omega
      have e2 : (b : Int) + (i : Int) = (q : Int) := by omega
      have u1 : IntKind.i64.wrap (p : Int) = (p : Int) := by rw [IntKind.wrap_i64]; omega
      have u2 : IntKind.i64.wrap (q : Int) = (q : Int) := by rw [IntKind.wrap_i64]; omega
      have p1 : (p : Int) < (N : Int) := by omega
      have q1 : (q : Int) < (N : Int) := by omega
      have p0 : (0 : Int) ≤ (p : Int) := by omega
      have q0 : (0 : Int) ≤ (q : Int) := by omega
      obtain ⟨cp, fp⟩ := HS.out.cell (show p < N by omega)
      obtain ⟨cq, fq⟩ := HS.out.cell (show q < N by omega)
      have HN := Lib.hid (by rw [← hp, ← hq]; exact swr_succ f a b i (by omega) : swp (swr f a b i) p q = swr f a b (i + 1))
      obtain ⟨x, hx⟩ : ∃ x, swr f a b i p = x := ⟨_, rfl⟩
      obtain ⟨y, hy⟩ : ∃ y, swr f a b i q = y := ⟨_, rfl⟩
      have HXY := Lib.hid (And.intro hx hy)
      rw [hx] at cp
      rw [hy] at cq
      have HPQ : Hid (p < N ∧ q < N ∧ p ≠ q) := Lib.hid (by omega)
      have HF := Lib.hid (And.intro hi (And.intro h1 (And.intro h2 h3)))
      have fq2 : (wr.setCell ⟨g, p, none⟩ (.string y)).frozen? ⟨g, q, none⟩ = false := ((HS.out.set HPQ.out.1 y).cell HPQ.out.2.1).2
      have cq2 := ((HS.out.set HPQ.out.1 y).cell HPQ.out.2.1).1
      clear hp hq hx hy h1 h2 h3
      go_upto_region 3 with fail
      go_region
      all_goals
        have hD : SqAt g N (swr f a b (i + 1)) ((wr.setCell ⟨g, p, none⟩ (.string y)).setCell ⟨g, q, none⟩ (.string x)).drew := by
          have h := (HS.out.set HPQ.out.1 y).set HPQ.out.2.1 x
          rw [← HXY.out.1, ← HXY.out.2, upd_swp, HN.out, HXY.out.1, HXY.out.2] at h
          exact h
        have HD := Lib.hid hD
        have HE : Hid (Below g w ((wr.setCell ⟨g, p, none⟩ (.string y)).setCell ⟨g, q, none⟩ (.string x)).drew) := Lib.hid ((HB.out.setCell (p := ⟨g, p, none⟩) (Nat.le_refl g) _).setCell (p := ⟨g, q, none⟩) (Nat.le_refl g) _).drew
        have hi1 : i + 1 ≤ n := hlt
        have hn1 : n ≤ 1000000 := by have := HF.out; clear u1 u2; omega
        clear hD u1 u2
        go_wp2_with fail
        go_roundw
        case rel => exact ⟨i + 1, by omega, by go_num, HD.out, HE.out⟩
        case measure => simp [intOf]; omega
    · obtain rfl : i = n := by omega
      have t1 : decide (i < i) = false := by simp
      go_wp2_with fail
      exact bodyPost_end (results_none rfl _ _ _) rfl ⟨rfl, HS.out, HB.out⟩
end Go.Proofs.YtdpkinppkhnjkaaDoor
