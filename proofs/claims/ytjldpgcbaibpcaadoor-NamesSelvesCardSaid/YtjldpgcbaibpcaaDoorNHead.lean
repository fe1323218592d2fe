/- gabionlaw03.split, gabionlaw03.same. -/
import Derived.Test.YtjldpgcbaibpcaaDoorNSplit
namespace Go.Proofs.YtjldpgcbaibpcaaDoor
open Go.RowKit

/-- A slice of texts that is read. -/
def RowS (w : World) (a : Option Addr) (n cap : Nat) (xs : List ByteArray) : Prop :=
  xs.length = n ∧ n ≤ cap ∧ cap ≤ maxLen ∧ (a = none → cap = 0) ∧ (0 < n → ∃ b off, a = some ⟨b, off, none⟩ ∧ ∀ i, i < n → w.cell? ⟨b, off + i, none⟩ = some (.string (xs.getD i ByteArray.empty)))
theorem rowS_below {w w' : World} {a : Option Addr} {n cap : Nat} {xs : List ByteArray} (h : RowS w a n cap xs) (hb : Below w.heap.size w w') : RowS w' a n cap xs := by
  obtain ⟨h1, h2, h3, h4, h5⟩ := h
  refine ⟨h1, h2, h3, h4, fun h0 => ?_⟩
  obtain ⟨b, off, e, hc⟩ := h5 h0
  exact ⟨b, off, e, fun i hi => below_cell hb (hc i hi)⟩
theorem rowS_of_own {B : Nat} {w : World} {sv : Value} {l : List ByteArray} (h : StrsOwn B w sv l) : ∃ a c, sv = .slice a l.length c ∧ RowS w a l.length c l := by
  rcases h.2 with ⟨h0, h1⟩ | ⟨g, cap, cur, e1, e2, e3, e4, e5, e6, e7⟩
  · exact ⟨none, 0, by rw [h0, h1], rfl, by omega, by unfold maxLen; omega, fun _ => rfl, fun hp => by omega⟩
  · refine ⟨_, cap, e1, rfl, e4, e5, (fun h => by cases h), fun _ => ⟨g, 0, rfl, fun i hi => ?_⟩⟩
    rw [Nat.zero_add, row_cell e3 e7 (show i < l.length * 1 by omega), List.getElem?_map, List.getElem?_eq_getElem hi]
    simp [List.getD, hi]
theorem splitOf_example : splitOf ⟨#[47, 97, 47, 46, 47, 98, 47, 46, 46, 47, 99]⟩ = ([⟨#[97]⟩, ⟨#[99]⟩], 0) := by kernel_rfl
theorem matchOf_example : matchOf ⟨#[42, 46, 91, 97, 45, 99, 93, 63]⟩ ⟨#[120, 46, 98, 122]⟩ = (true, 0) := by kernel_rfl
set_option maxHeartbeats 600000 in
theorem head_any (w : World) (hT : NOk w) :
    Calls Tryd.prog 12 #[] w fun e w' => e = .returned (.bool true) ∧ Below w.heap.size w w' := by
  have H1 := split_any ⟨#[47, 97, 47, 46, 47, 98, 47, 46, 46, 47, 99]⟩ w (by decide) hT
  rw [splitOf_example] at H1
  have HS := Lib.hid H1
  have HT := Lib.hid hT
  clear H1 hT
  go_enter Tryd.func12, Tryd.ntmps12
  go_wp2_with fail
  refine HS.out.mono ?_
  rintro e w1 ⟨sv, rfl, hown, hb1⟩
  obtain ⟨a, c, rfl, hl, hc, hm, _, hr⟩ := rowS_of_own hown
  obtain ⟨b, off, rfl, hcell⟩ := hr (by decide)
  have q0 := hcell 0 (by decide)
  have q1 := hcell 1 (by decide)
  have H2 := match_any ⟨#[42, 46, 91, 97, 45, 99, 93, 63]⟩ ⟨#[120, 46, 98, 122]⟩ w1 (by decide) (by decide) (nok_below HT.out hb1)
  rw [matchOf_example] at H2
  have HM := Lib.hid H2
  have HB := Lib.hid hb1
  clear H2 hb1 hcell hr hown hl
  go_wp2_with fail
  refine HM.out.mono ?_
  rintro e w2 ⟨rfl, hb2⟩
  have r0 := below_cell hb2 q0
  have r1 := below_cell hb2 q1
  rw [Nat.add_zero] at r0
  have hb02 := bel_trans HB.out hb2
  clear q0 q1 hb2
  go_wp2
  go_ret
  exact ⟨rfl, hb02⟩
theorem same_next {xs ys : List ByteArray} {k : Nat} (h : xs.take k = ys.take k) (hx : k < xs.length) (hy : k < ys.length) (he : xs.getD k ByteArray.empty = ys.getD k ByteArray.empty) : xs.take (k + 1) = ys.take (k + 1) := by
  rw [List.take_succ_eq_append_getElem hx, List.take_succ_eq_append_getElem hy, h]
  simp [List.getD, hx, hy] at he
  rw [he]
theorem toList_ne {x y : ByteArray} (h : x ≠ y) : (x.toList == y.toList) = false := by
  rw [beq_eq_false_iff_ne]
  intro e
  rw [ByteArray.toList_eq, ByteArray.toList_eq] at e
  apply h
  cases x; cases y
  congr
  exact Array.toList_inj.1 e
/-- Are two lists of texts the same? -/
def sameOf (xs ys : List ByteArray) : Bool := decide (xs = ys)
set_option maxRecDepth 100000 in
set_option maxHeartbeats 600000 in
theorem same_any (a : Option Addr) (n c : Nat) (xs : List ByteArray) (b : Option Addr) (m d : Nat) (ys : List ByteArray) (w : World) (ha : RowS w a n c xs) (hb : RowS w b m d ys) (hn : n ≤ 100000) (hm : m ≤ 100000) :
    Calls Tryd.prog 17 #[.slice a n c, .slice b m d] w fun e w' => e = .returned (.bool (sameOf xs ys)) ∧ Below w.heap.size w w' := by
  obtain ⟨ans, hans⟩ : ∃ ans, sameOf xs ys = ans := ⟨_, rfl⟩
  rw [hans]
  have HANS := Lib.hid hans
  obtain ⟨hal, hac, hacm, _, har⟩ := ha
  obtain ⟨hbl, hbc, hbcm, _, hbr⟩ := hb
  have HAL := Lib.hid hal
  have HBL := Lib.hid hbl
  clear hans hal hbl
  by_cases hnm : n = m
  · subst hnm
    go_enter Tryd.func17, Tryd.ntmps17
    go_wp2_with fail
    go_loopw [5] (fun i wr => ∃ k : Nat, k ≤ n ∧ i = .int .i64 k ∧ Below w.heap.size w wr ∧ Hid (xs.take k = ys.take k)) (fun i _ => n - (intOf i).toNat)
    case atStart => exact ⟨0, by omega, rfl, Below.refl _ _, Lib.hid (by simp)⟩
    case round =>
      obtain ⟨k, hk, rfl, hbr2, HE⟩ := hrel
      by_cases hlt : k < n
      · obtain ⟨b1, o1, rfl, hc1⟩ := har (by omega)
        obtain ⟨b2, o2, rfl, hc2⟩ := hbr (by omega)
        have q1 := below_cell hbr2 (hc1 k hlt)
        have q2 := below_cell hbr2 (hc2 k hlt)
        have hxk : k < xs.length := by have := HAL.out; omega
        have hyk : k < ys.length := by have := HBL.out; omega
        obtain ⟨x, hx⟩ : ∃ x, xs.getD k ByteArray.empty = x := ⟨_, rfl⟩
        obtain ⟨y, hy⟩ : ∃ y, ys.getD k ByteArray.empty = y := ⟨_, rfl⟩
        rw [hx] at q1
        rw [hy] at q2
        have hk0 : (0 : Int) ≤ (k : Int) := by omega
        have hkn : (k : Int) < (n : Int) := by omega
        have HX := Lib.hid hx
        have HY := Lib.hid hy
        have HB := Lib.hid hbr2
        clear hc1 hc2 hx hy hbr2
        by_cases hxy : x = y
        · subst hxy
          go_wp2_with fail
          go_quiet (fail)
          go_wp2
          exact ⟨⟨k + 1, by omega, by go_num, below_drewN HB.out _, Lib.hid (same_next HE.out hxk hyk (HX.out.trans HY.out.symm))⟩, by simp [intOf]; omega⟩
        · have hne := toList_ne hxy
          have hans : ans = false := by
            rw [← HANS.out]
            unfold sameOf
            exact decide_eq_false fun h => hxy (by rw [← HX.out, ← HY.out, h])
          have HA := Lib.hid hans
          clear hans hxy
          go_wp2_with fail
          go_quiet (fail)
          go_wp2
          go_ret
          exact ⟨by rw [HA.out]; rfl, below_drewN HB.out _⟩
      · have hans : ans = true := by
          rw [← HANS.out]
          unfold sameOf
          have h1 := HE.out
          rw [List.take_of_length_le (by have := HAL.out; omega), List.take_of_length_le (by have := HBL.out; omega)] at h1
          exact decide_eq_true h1
        have HA := Lib.hid hans
        clear hans har hbr
        go_wp2
        go_ret
        exact ⟨by rw [HA.out]; rfl, hbr2⟩
  · have hans : ans = false := by
      rw [← HANS.out]
      unfold sameOf
      exact decide_eq_false fun h => hnm (by rw [← HAL.out, ← HBL.out, h])
    have HA := Lib.hid hans
    have hne : ((n : Int) != (m : Int)) = true := by rw [bne_iff_ne]; omega
    clear hans har hbr hnm
    go_enter Tryd.func17, Tryd.ntmps17
    go_wp2_with fail
    go_ret
    exact ⟨by rw [HA.out]; rfl, Below.refl _ _⟩

end Go.Proofs.YtjldpgcbaibpcaaDoor
