/- SumSplits: the walk. -/
import Derived.Test.YteemegigooafkabSumKnown
import Derived.Test.YteemegigooafkabFrame
import Derived.Test.YteemegigooafkabAppend
import Derived.Deep.RegionHeld3
namespace Go.Proofs.Yteemegigooafkab
open Go.RowKit

theorem cut_val (x : Int) (la : Nat) (h2 : la ≤ 600) : ∃ r : Nat, wrap64 ((IntKind.u64.wrap x).tmod ((la : Int) + 1)) = (r : Int) ∧ r ≤ la := by
  have h0 := wrap_u64_nonneg x
  have e : (IntKind.u64.wrap x).tmod ((la : Int) + 1) = (IntKind.u64.wrap x) % ((la : Int) + 1) := Int.tmod_eq_emod_of_nonneg h0
  have h3 := Int.emod_nonneg (IntKind.u64.wrap x) (show ((la : Int) + 1) ≠ 0 by omega)
  have h4 := Int.emod_lt_of_pos (IntKind.u64.wrap x) (show 0 < ((la : Int) + 1) by omega)
  rw [e]
  generalize IntKind.u64.wrap x % ((la : Int) + 1) = m at *
  refine ⟨m.toNat, ?_, by omega⟩
  rw [IntWalk.wrap64_in m ⟨by omega, by omega⟩]
  omega

set_option maxRecDepth 100000 in
set_option maxHeartbeats 400000 in
theorem sumSplits_known (a : Option Addr) (la ca : Nat) (x : Int) (w : World) (h : 600 < la) (ha : la ≤ maxLen) :
    Calls Try.prog 3 #[.slice a la ca, .int .i64 x] w fun e w' => e = .returned (.bool true) ∧ Below w.heap.size w w' := by
  unfold maxLen at ha
  go_enter Try.func3, Try.ntmps3
  go_wp2_with fail
  refine (known_any _).mono ?_
  rintro e w1 ⟨rfl, hb1⟩
  go_wp2_with fail
  refine (known_any _).mono ?_
  rintro e w2 ⟨rfl, hb2⟩
  go_wp2
  go_ret
  exact ⟨rfl, bel_trans hb1 hb2⟩

/-- sum.Of of a text's two parts, with nothing behind each, in whatever world. -/
theorem of_cut (g : Nat) (cap : Nat) (a a2 : Option Addr) (la k ca c2 : Nat) (bs : List Nat) (w : World) (hk : k ≤ la) (hl : la ≤ maxLen)
    (h0 : w.cell? ⟨g, 0, none⟩ = some (.slice a k ca)) (h1 : w.cell? ⟨g, 1, none⟩ = some (.slice none 0 0)) (h2 : w.cell? ⟨g, 2, none⟩ = some (.slice a2 (la - k) c2)) (h3 : w.cell? ⟨g, 3, none⟩ = some (.slice none 0 0))
    (hr1 : Row w a k (bs.take k)) (hr2 : Row w a2 (la - k) (bs.drop k)) :
    Calls Try.prog 6 #[.slice (some ⟨g, 0, none⟩) 4 cap] w fun e w' => e = .returned (.int .u32 ((Crc.of bs : Nat) : Int)) ∧ w = w' := by
  have hz : Row w none 0 [] := ⟨rfl, (fun x hx => by cases hx), (fun h => by omega)⟩
  have h := of_any 4 (some ⟨g, 0, none⟩) cap (fun i => if i = 0 then a else if i = 2 then a2 else none) (fun i => if i = 0 then k else if i = 2 then la - k else 0) (fun i => if i = 0 then ca else if i = 2 then c2 else 0)
    (fun i => if i = 0 then bs.take k else if i = 2 then bs.drop k else []) w (by unfold maxLen; omega)
    (fun _ => ⟨g, 0, rfl, fun i hi => by rcases (show i = 0 ∨ i = 1 ∨ i = 2 ∨ i = 3 by omega) with rfl | rfl | rfl | rfl <;> assumption⟩)
    (fun i hi => by
      unfold maxLen at *
      rcases (show i = 0 ∨ i = 1 ∨ i = 2 ∨ i = 3 by omega) with rfl | rfl | rfl | rfl
      · exact ⟨by simp; omega, hr1⟩
      · exact ⟨by simp, hz⟩
      · exact ⟨by simp; omega, hr2⟩
      · exact ⟨by simp, hz⟩)
  have e : flat (fun i => if i = 0 then bs.take k else if i = 2 then bs.drop k else []) 4 = bs := by simp [flat]
  rw [e] at h
  exact h
theorem row_prefix {w : World} {a : Option Addr} {len n : Nat} {bs : List Nat} (h : Row w a len bs) (hn : n ≤ len) : Row w a n (bs.take n) := by
  obtain ⟨h1, h2, h3⟩ := h
  refine ⟨by rw [List.length_take]; omega, fun x hx => h2 x (List.mem_of_mem_take hx), fun h0 => ?_⟩
  obtain ⟨b, off, h4, h5⟩ := h3 (by omega)
  refine ⟨b, off, h4, fun i hi => ?_⟩
  rw [h5 i (by omega)]
  simp [List.getD, hi]
theorem row_suffix {w : World} {b off len k : Nat} {bs : List Nat} (h : Row w (some ⟨b, off, none⟩) len bs) (hk : k ≤ len) : Row w (some ⟨b, off + k, none⟩) (len - k) (bs.drop k) := by
  obtain ⟨h1, h2, h3⟩ := h
  refine ⟨by rw [List.length_drop]; omega, fun x hx => h2 x (List.mem_of_mem_drop hx), fun h0 => ?_⟩
  obtain ⟨b', off', h4, h5⟩ := h3 (by omega)
  cases h4
  refine ⟨b, off + k, rfl, fun i hi => ?_⟩
  rw [Nat.add_assoc, h5 (k + i) (by omega)]
  simp [List.getD, List.getElem?_drop]

set_option maxRecDepth 100000 in
set_option maxHeartbeats 800000 in
theorem sumSplits_mid (b off la ca : Nat) (bs : List Nat) (x : Int) (w : World) (hin : InB w (some ⟨b, off, none⟩) la ca bs) (h2 : la ≤ 600) (r : Nat) (hrr : wrap64 ((IntKind.u64.wrap x).tmod ((la : Int) + 1)) = (r : Int)) (hrl : r ≤ la) (hrc : r < ca) :
    Calls Try.prog 3 #[.slice (some ⟨b, off, none⟩) la ca, .int .i64 x] w fun e w' => e = .returned (.bool true) ∧ Below w.heap.size w w' := by
  obtain ⟨hr, hlc, hcm, hn⟩ := hin
  have hcm' := hcm
  unfold maxLen at hcm
  have hd2 : decide ((600 : Int) < (la : Int)) = false := by simp; omega
  have HRR := Lib.hid hrr
  clear hrr
  go_enter Try.func3, Try.ntmps3
  go_wp2_with fail
  refine (known_any _).mono ?_
  rintro e w1 ⟨rfl, hb1⟩
  have hr1 := row_keep hr hb1 (Nat.le_refl _)
  go_wp2_with fail
  rw [HRR.out]
  generalize (IntKind.u64.wrap x).tmod ((la : Int) + 1) = ut
  generalize IntKind.u64.wrap x = ux
  have hi0 : (0 : Int) ≤ (r : Int) := by omega
  have hi1 : (r : Int) ≤ (la : Int) := by omega
  have hi2 : (r : Int) ≤ (ca : Int) := by omega
  have hi3 : ¬ ca = r := by omega
  have hlm : la ≤ maxLen := by unfold maxLen; omega
  have hrp := row_prefix hr1 hrl
  have hrs := row_suffix hr1 hrl
  go_region_with (first
    | (go_at_call 6; ((with_reducible refine (of_cut _ _ (some ⟨b, off, none⟩) (some ⟨b, off + r, none⟩) la r ca (ca - r) bs _ hrl hlm ?_ ?_ ?_ ?_ ?_ ?_).mono ?_)); (· simp [go_sem]); (· simp [go_sem]); (· simp [go_sem]); (· simp [go_sem]); (· first | exact row_alloc hrp _ | exact row_alloc (row_alloc hrp _) _); (· first | exact row_alloc hrs _ | exact row_alloc (row_alloc hrs _) _); (rintro e w' ⟨rfl, rfl⟩))
    | (go_at_call 6; ((with_reducible refine (of_one _ 0 _ (some ⟨b, off, none⟩) la ca bs _ ?_ hlm ?_).mono ?_)); (· simp [go_sem]); (· first | exact row_alloc hr1 _ | exact row_alloc (row_alloc hr1 _) _); (rintro e w' ⟨rfl, rfl⟩)))
  all_goals
    go_wp2
    go_ret
    exact ⟨rfl, (bel_alloc (bel_alloc hb1 _) _).drew⟩

theorem row_zero (w : World) (a : Option Addr) : Row w a 0 [] := ⟨rfl, (fun x hx => by cases hx), (fun h => by omega)⟩
set_option maxRecDepth 100000 in
set_option maxHeartbeats 800000 in
theorem sumSplits_flat (a : Option Addr) (la : Nat) (bs : List Nat) (x : Int) (w : World) (hr : Row w a la bs) (h2 : la ≤ 600) (hrr : wrap64 ((IntKind.u64.wrap x).tmod ((la : Int) + 1)) = (la : Int)) :
    Calls Try.prog 3 #[.slice a la la, .int .i64 x] w fun e w' => e = .returned (.bool true) ∧ Below w.heap.size w w' := by
  have hd2 : decide ((600 : Int) < (la : Int)) = false := by simp; omega
  have HRR := Lib.hid hrr
  clear hrr
  go_enter Try.func3, Try.ntmps3
  go_wp2_with fail
  refine (known_any _).mono ?_
  rintro e w1 ⟨rfl, hb1⟩
  have hr1 := row_keep hr hb1 (Nat.le_refl _)
  go_wp2_with fail
  rw [HRR.out]
  generalize (IntKind.u64.wrap x).tmod ((la : Int) + 1) = ut
  generalize IntKind.u64.wrap x = ux
  have hi0 : (0 : Int) ≤ (la : Int) := by omega
  have hlm : la ≤ maxLen := by unfold maxLen; omega
  have hrp := row_prefix hr1 (Nat.le_refl la)
  have hdl : bs.drop la = [] := List.drop_of_length_le (by have := hr.1; omega)
  have hrs : Row w1 a (la - la) (bs.drop la) := by rw [hdl, Nat.sub_self]; exact row_zero _ _
  have HRS := Lib.hid hrs
  have e0 : la - la = 0 := Nat.sub_self la
  clear hdl hrs
  go_region_with (first
    | (go_at_call 6; ((with_reducible refine (of_cut _ _ a a la la la 0 bs _ (Nat.le_refl _) hlm ?_ ?_ ?_ ?_ ?_ ?_).mono ?_)); (· simp [go_sem]); (· simp [go_sem]); (· simp [go_sem]); (· simp [go_sem]); (· first | exact row_alloc hrp _ | exact row_alloc (row_alloc hrp _) _); (· first | exact row_alloc HRS.out _ | exact row_alloc (row_alloc HRS.out _) _); (rintro e w' ⟨rfl, rfl⟩))
    | (go_at_call 6; ((with_reducible refine (of_one _ 0 _ a la la bs _ ?_ hlm ?_).mono ?_)); (· simp [go_sem]); (· first | exact row_alloc hr1 _ | exact row_alloc (row_alloc hr1 _) _); (rintro e w' ⟨rfl, rfl⟩)))
  all_goals
    go_wp2
    go_ret
    exact ⟨rfl, (bel_alloc (bel_alloc hb1 _) _).drew⟩
set_option maxRecDepth 100000 in
set_option maxHeartbeats 800000 in
theorem sumSplits_none (a : Addr) (ca : Nat) (x : Int) (w : World) (h0 : 0 < ca) (hcm : ca ≤ maxLen) :
    Calls Try.prog 3 #[.slice (some a) 0 ca, .int .i64 x] w fun e w' => e = .returned (.bool true) ∧ Below w.heap.size w w' := by
  unfold maxLen at hcm
  obtain ⟨b, off, spot⟩ := a
  go_enter Try.func3, Try.ntmps3
  go_wp2_with fail
  refine (known_any _).mono ?_
  rintro e w1 ⟨rfl, hb1⟩
  go_wp2_with fail
  generalize IntKind.u64.wrap x = ux
  have hi3 : ¬ ca = 0 := by omega
  have hlm : 0 ≤ maxLen := Nat.zero_le _
  have hrp := row_zero w1 (some ⟨b, off, spot⟩)
  go_region_with (first
    | (go_at_call 6; ((with_reducible refine (of_cut _ _ (some ⟨b, off, spot⟩) (some ⟨b, off, spot⟩) 0 0 ca ca [] _ (Nat.le_refl _) hlm ?_ ?_ ?_ ?_ ?_ ?_).mono ?_)); (· simp [go_sem]); (· simp [go_sem]); (· simp [go_sem]); (· simp [go_sem]); (· first | exact row_alloc hrp _ | exact row_alloc (row_alloc hrp _) _); (· first | exact row_alloc hrp _ | exact row_alloc (row_alloc hrp _) _); (rintro e w' ⟨rfl, rfl⟩))
    | (go_at_call 6; ((with_reducible refine (of_one _ 0 _ (some ⟨b, off, spot⟩) 0 ca [] _ ?_ hlm ?_).mono ?_)); (· simp [go_sem]); (· first | exact row_alloc hrp _ | exact row_alloc (row_alloc hrp _) _); (rintro e w' ⟨rfl, rfl⟩)))
  all_goals
    go_wp2
    go_ret
    exact ⟨rfl, (bel_alloc (bel_alloc hb1 _) _).drew⟩

theorem sumSplits_walk (a : Option Addr) (la ca : Nat) (bs : List Nat) (x : Int) (w : World) (hin : InB w a la ca bs) (_ : (Lit.int .i64 x).wf = true) :
    Calls Try.prog 3 #[.slice a la ca, .int .i64 x] w fun e w' => e = .returned (.bool true) ∧ Below w.heap.size w w' := by
  by_cases h : 600 < la
  · exact sumSplits_known a la ca x w h (Nat.le_trans hin.2.1 hin.2.2.1)
  · obtain ⟨r, hrr, hrl⟩ := cut_val x la (by omega)
    by_cases hrc : r < ca
    · cases a with
      | none => have := hin.2.2.2 rfl; omega
      | some ad =>
        by_cases h0 : la = 0
        · subst h0
          obtain rfl : r = 0 := by omega
          exact sumSplits_none ad ca x w hrc hin.2.2.1
        · obtain ⟨b, off, hb, _⟩ := hin.1.2.2 (by omega)
          cases hb
          exact sumSplits_mid b off la ca bs x w hin (by omega) r hrr hrl hrc
    · have h1 := hin.2.1
      obtain rfl : r = la := by omega
      obtain rfl : ca = r := by omega
      exact sumSplits_flat a ca bs x w hin.1 (by omega) hrr

end Go.Proofs.Yteemegigooafkab
