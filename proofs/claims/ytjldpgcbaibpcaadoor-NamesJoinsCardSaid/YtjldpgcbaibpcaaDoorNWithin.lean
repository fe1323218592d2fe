/- names.Within; NamesWithin's walk. -/
import Derived.Test.YtjldpgcbaibpcaaDoorNHead
namespace Go.Proofs.YtjldpgcbaibpcaaDoor
open Go.RowKit

theorem rowS_take {w : World} {a : Option Addr} {n c j : Nat} {xs : List ByteArray} (h : RowS w a n c xs) (hj : j ≤ n) : RowS w a j c (xs.take j) := by
  obtain ⟨h1, h2, h3, h4, h5⟩ := h
  refine ⟨by simp; omega, by omega, h3, h4, fun h0 => ?_⟩
  obtain ⟨b, off, e, hc⟩ := h5 (by omega)
  refine ⟨b, off, e, fun i hi => ?_⟩
  rw [hc i (by omega)]
  simp [List.getD, hi]
theorem equal_any (a : Option Addr) (n c : Nat) (xs : List ByteArray) (b : Option Addr) (d : Nat) (ys : List ByteArray) (w : World) (ha : RowS w a n c xs) (hb : RowS w b n d ys) :
    Calls Tryd.prog 33 #[.slice a n c, .slice b n d] w fun e w' => e = .returned (.bool (sameOf xs ys)) ∧ Below w.heap.size w w' := by
  have hn : n ≤ 9223372036854775807 := by have := ha.2.1; have := ha.2.2.1; unfold maxLen at *; omega
  obtain ⟨ha1, _, _, _, ha5⟩ := ha
  obtain ⟨hb1, _, _, _, hb5⟩ := hb
  rcases Nat.eq_zero_or_pos n with h0 | h0
  · subst h0
    refine (Tryd.slices_Equal_string_empty a b c 0 d w (by omega)).mono ?_
    rintro e w' ⟨rfl, rfl⟩
    have e1 := List.eq_nil_of_length_eq_zero ha1
    have e2 := List.eq_nil_of_length_eq_zero hb1
    subst e1 e2
    exact ⟨rfl, Below.refl _ _⟩
  · obtain ⟨b1, o1, rfl, hc1⟩ := ha5 h0
    obtain ⟨b2, o2, rfl, hc2⟩ := hb5 h0
    refine (Tryd.slices_Equal_string b1 o1 n c b2 o2 n d xs ys w (by omega) (by omega) hn hn (fun j hj => hc1 j (by omega)) (fun j hj => hc2 j (by omega))).mono ?_
    rintro e w' ⟨rfl, q, rfl⟩
    refine ⟨?_, bel_drewN _ _⟩
    rw [List.take_of_length_le (by omega), List.take_of_length_le (by omega)]
    rfl
/-- Does a way begin with another? -/
def withinOf (xs ys : List ByteArray) : Bool := decide (ys.length ≤ xs.length) && sameOf (xs.take ys.length) ys
set_option maxHeartbeats 600000 in
theorem within_any (a : Option Addr) (n c : Nat) (xs : List ByteArray) (b : Option Addr) (m d : Nat) (ys : List ByteArray) (w : World) (ha : RowS w a n c xs) (hb : RowS w b m d ys) :
    Calls Tryd.prog 21 #[.slice a n c, .slice b m d] w fun e w' => e = .returned (.bool (withinOf xs ys)) ∧ Below w.heap.size w w' := by
  obtain ⟨ans, hans⟩ : ∃ ans, withinOf xs ys = ans := ⟨_, rfl⟩
  rw [hans]
  have hn : n ≤ 9223372036854775807 := by have := ha.2.1; have := ha.2.2.1; unfold maxLen at *; omega
  have hm : m ≤ 9223372036854775807 := by have := hb.2.1; have := hb.2.2.1; unfold maxLen at *; omega
  unfold withinOf at hans
  rw [ha.1, hb.1] at hans
  by_cases hmn : m ≤ n
  · rw [decide_eq_true hmn, Bool.true_and] at hans
    have hcn : n ≤ c := ha.2.1
    have HE := equal_any a m c (xs.take m) b d ys w (rowS_take ha hmn) hb
    rw [hans] at HE
    have H := Lib.hid HE
    have hsl := run_upto a n c m (by omega)
    have hmi : (m : Int) ≤ (n : Int) := by omega
    clear HE hans ha hb
    go_enter Tryd.func21, Tryd.ntmps21
    go_wp2_with fail
    refine H.out.mono ?_
    rintro e w' ⟨rfl, hb1⟩
    go_wp2
    go_ret
    exact ⟨rfl, hb1⟩
  · rw [decide_eq_false hmn, Bool.false_and] at hans
    have HA := Lib.hid hans
    have hmi : (n : Int) < (m : Int) := by omega
    clear hans ha hb
    go_enter Tryd.func21, Tryd.ntmps21
    go_wp2_with fail
    go_ret
    exact ⟨by rw [← HA.out]; rfl, Below.refl _ _⟩
set_option maxHeartbeats 600000 in
theorem namesWithin_walk (a : Option Addr) (n c : Nat) (xs : List ByteArray) (b : Option Addr) (m d : Nat) (ys : List ByteArray) (w : World) (ha : RowS w a n c xs) (_hx : ∀ x ∈ xs, x.size ≤ maxLen) (hb : RowS w b m d ys) (_hy : ∀ x ∈ ys, x.size ≤ maxLen) (hT : NOk w) :
    Calls Tryd.prog 6 #[.slice a n c, .slice b m d] w fun e w' => e = .returned (.bool true) ∧ Below w.heap.size w w' := by
  have hn : n ≤ 9223372036854775807 := by have := ha.2.1; have := ha.2.2.1; unfold maxLen at *; omega
  have hm : m ≤ 9223372036854775807 := by have := hb.2.1; have := hb.2.2.1; unfold maxLen at *; omega
  have HH := Lib.hid (head_any w hT)
  by_cases h50 : 50 < n ∨ 50 < m
  · clear ha hb
    by_cases hn5 : 50 < n
    · have d1 : decide ((n : Int) > 50) = true := by simp; omega
      go_enter Tryd.func6, Tryd.ntmps6
      go_wp2_with fail
      refine HH.out.mono ?_
      rintro e w' ⟨rfl, hb1⟩
      go_wp2
      go_ret
      exact ⟨rfl, hb1⟩
    · have d1 : decide ((n : Int) > 50) = false := by simp; omega
      have d2 : decide ((m : Int) > 50) = true := by simp; omega
      go_enter Tryd.func6, Tryd.ntmps6
      go_wp2_with fail
      refine HH.out.mono ?_
      rintro e w' ⟨rfl, hb1⟩
      go_wp2
      go_ret
      exact ⟨rfl, hb1⟩
  · have d1 : decide ((n : Int) > 50) = false := by simp; omega
    have d2 : decide ((m : Int) > 50) = false := by simp; omega
    have HA := Lib.hid ha
    have HB := Lib.hid hb
    have hcn : n ≤ c := ha.2.1
    have HW := Lib.hid (fun (w : World) h1 h2 => within_any a n c xs b m d ys w h1 h2)
    have hwo : withinOf xs ys = (decide (m ≤ n) && sameOf (xs.take m) ys) := by unfold withinOf; rw [ha.1, hb.1]
    have HWO := Lib.hid hwo
    clear ha hb hT hwo
    go_enter Tryd.func6, Tryd.ntmps6
    go_wp2_with fail
    refine HH.out.mono ?_
    rintro e w1 ⟨rfl, hb1⟩
    have hA1 := rowS_below HA.out hb1
    have hB1 := rowS_below HB.out hb1
    have HA1 := Lib.hid hA1
    have HB1 := Lib.hid hB1
    clear hA1 hB1
    go_wp2_with fail
    refine (HW.out w1 HA1.out HB1.out).mono ?_
    rintro e w2 ⟨rfl, hb2⟩
    obtain ⟨ans, hans⟩ : ∃ ans, withinOf xs ys = ans := ⟨_, rfl⟩
    rw [hans]
    have hans2 := HWO.out.symm.trans hans
    have hb02 := bel_trans hb1 hb2
    by_cases hmn : m ≤ n
    · rw [decide_eq_true hmn, Bool.true_and] at hans2
      have hmi : (m : Int) ≤ (n : Int) := by omega
      have hmin : min (n : Int) (m : Int) = (m : Int) := by omega
      have hsl := run_upto a n c m (by omega)
      have HS := same_any a m c (xs.take m) b m d ys w2 (rowS_below (rowS_take HA1.out hmn) hb2) (rowS_below HB1.out hb2) (by omega) (by omega)
      rw [hans2] at HS
      have HSS := Lib.hid HS
      clear hans hans2 HS
      go_wp2_with fail
      refine HSS.out.mono ?_
      rintro e w3 ⟨rfl, hb3⟩
      go_wp2
      go_ret
      exact ⟨by simp, bel_trans hb02 hb3⟩
    · rw [decide_eq_false hmn, Bool.false_and] at hans2
      subst hans2
      have hmi : (n : Int) < (m : Int) := by omega
      clear hans
      go_wp2
      go_ret
      exact ⟨rfl, hb02⟩

end Go.Proofs.YtjldpgcbaibpcaaDoor
