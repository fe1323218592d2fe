/- BmapNumbers, BmapSets: the walks. -/
import Derived.Test.YtgfchjchanfcgaaBmGet
import Derived.Test.YtgfchjchanfcgaaBmFind
import Derived.Test.YtgfchjchanfcgaaFrame
namespace Go.Proofs.Ytgfchjchanfcgaa
open Go.RowKit

def putB (bs : List Nat) (i v : Nat) : List Nat := bs.take (4 * i) ++ Crc.les 4 v ++ bs.drop (4 * i + 4)
theorem putB_len (bs : List Nat) (i v : Nat) (h : 4 * i + 4 ≤ bs.length) : (putB bs i v).length = bs.length := by
  unfold putB
  simp [Crc.les_len]
  omega
theorem putB_at (bs : List Nat) (i v : Nat) (h : 4 * i + 4 ≤ bs.length) : ((putB bs i v).drop (4 * i)).take 4 = Crc.les 4 v := by
  unfold putB
  have h1 : (bs.take (4 * i)).length = 4 * i := by rw [List.length_take]; omega
  rw [List.append_assoc, List.drop_append_of_le_length (by omega), List.drop_of_length_le (by omega), List.nil_append, List.take_append_of_le_length (by rw [Crc.les_len]; omega), List.take_of_length_le (by rw [Crc.les_len]; omega)]
theorem leVal_putB (bs : List Nat) (i v : Nat) (h : 4 * i + 4 ≤ bs.length) (hv : v < 4294967296) : leVal (((putB bs i v).drop (4 * i)).take 4) = v := by
  rw [putB_at bs i v h, leVal_les]
  exact Nat.mod_eq_of_lt hv
/-- Bytes that are there in every later world. -/
def RowF (w : World) (a : Option Addr) (n c : Nat) (l : List Nat) : Prop := l.length = n ∧ n ≤ c ∧ c ≤ maxLen ∧ (a = none → c = 0) ∧ ∀ x : World, Below w.heap.size w x → Row x a n l
theorem rowF_ret {w w' : World} {l : List Nat} {e : Ending} (h : RetOwn w l e w') : ∃ a c, e = .returned (.slice a l.length c) ∧ RowF w' a l.length c l ∧ Below w.heap.size w w' := by
  obtain ⟨sv, rfl, ho, hb⟩ := h
  have ho' := ho
  rcases ho.1.2 with ⟨rfl, h0⟩ | ⟨g, cap, cur, rfl, _, _, hc, hm, _⟩
  · obtain rfl : l = [] := List.eq_nil_of_length_eq_zero h0
    exact ⟨none, 0, rfl, ⟨rfl, Nat.le_refl _, Nat.zero_le _, fun _ => rfl, fun _ _ => ⟨rfl, (fun _ hx => by cases hx), fun h => absurd h (Nat.lt_irrefl 0)⟩⟩, hb⟩
  · obtain ⟨a, c, e1, hr, _⟩ := row_of_own ho'
    cases e1
    exact ⟨_, cap, rfl, ⟨rfl, hc, hm, (fun h => by cases h), fun _ hx => row_keep hr hx (Nat.le_refl _)⟩, hb⟩
theorem RowF.step {w x : World} {a : Option Addr} {n c : Nat} {l : List Nat} (h : RowF w a n c l) (hb : Below w.heap.size w x) : RowF x a n c l :=
  ⟨h.1, h.2.1, h.2.2.1, h.2.2.2.1, fun y hy => h.2.2.2.2 y (bel_trans hb hy)⟩
theorem RowF.row {w : World} {a : Option Addr} {n c : Nat} {l : List Nat} (h : RowF w a n c l) : Row w a n l := h.2.2.2.2 w (Below.refl _ _)
theorem rowF_in {w : World} {a : Option Addr} {n c : Nat} {l : List Nat} (h : InB w a n c l) : RowF w a n c l :=
  ⟨h.1.1, h.2.1, h.2.2.1, h.2.2.2, fun _ hx => row_keep h.1 hx (Nat.le_refl _)⟩
/-- bmap.Set of a number that has its place. -/
theorem setF {w : World} {a : Option Addr} {n c : Nat} {l : List Nat} (h : RowF w a n c l) (i v : Nat) (hl : n ≤ 100000) (hi : i < n / 4) (hv : v < 4294967296) :
    Calls Try.prog 10 #[.slice a n c, .int .i64 (i : Int), .int .u32 (v : Int)] w fun e w' => ∃ a' c', e = .returned (.slice a' n c') ∧ RowF w' a' n c' (putB l i v) ∧ Below w.heap.size w w' :=
  (set_yes a n c l i v w h.row h.2.2.2.1 hl hi hv).mono fun e w' hr => by
    have hr' : RetOwn w (putB l i v) e w' := hr
    obtain ⟨a', c', e1, h1, h2⟩ := rowF_ret hr'
    rw [putB_len l i v (by rw [h.1]; omega), h.1] at e1 h1
    exact ⟨a', c', e1, h1, h2⟩
theorem setF_no {w : World} {a : Option Addr} {n c : Nat} {l : List Nat} (h : RowF w a n c l) (i : Int) (v : Nat) (hl : n ≤ 100000) (hi : i < 0 ∨ ((n / 4 : Nat) : Int) ≤ i) :
    Calls Try.prog 10 #[.slice a n c, .int .i64 i, .int .u32 (v : Int)] w fun e w' => ∃ a' c', e = .returned (.slice a' n c') ∧ RowF w' a' n c' l ∧ Below w.heap.size w w' :=
  (set_no a n c l i v w h.row h.2.2.2.1 hl hi).mono fun e w' hr => by
    obtain ⟨a', c', e1, h1, h2⟩ := rowF_ret hr
    rw [h.1] at e1 h1
    exact ⟨a', c', e1, h1, h2⟩
theorem partF {w : World} {a : Option Addr} {n c : Nat} {l : List Nat} (h : RowF w a n c l) (hl : n ≤ 100000) :
    Calls Try.prog 9 #[.slice a n c, .int .i64 0, .int .i64 (n : Int)] w fun e w' => ∃ a' c', e = .returned (.slice a' n c') ∧ RowF w' a' n c' l ∧ Below w.heap.size w w' :=
  (part_any a n c l w h.row h.2.1 h.2.2.1 h.2.2.2.1 hl).mono fun e w' hr => by
    obtain ⟨a', c', e1, h1, h2⟩ := rowF_ret hr
    rw [h.1] at e1 h1
    exact ⟨a', c', e1, h1, h2⟩
theorem sameF {w : World} {a b : Option Addr} {n c m d : Nat} {l : List Nat} (h : RowF w a n c l) (k : RowF w b m d l) : Calls Try.prog 11 #[.slice a n c, .slice b m d] w fun e w' => e = .returned (.bool true) ∧ w' = w :=
  (same_any a b n c m d l w h.row k.row).mono fun e w' hr => by
    obtain ⟨rfl, rfl⟩ := hr
    exact ⟨rfl, rfl⟩
theorem getF {w : World} {a : Option Addr} {n c : Nat} {l : List Nat} (h : RowF w a n c l) (i m : Nat) (hl : n ≤ 100000) (hi : i < n / 4) (hm : leVal ((l.drop (4 * i)).take 4) = m) :
    Calls Try.prog 12 #[.slice a n c, .int .i64 (i : Int)] w fun e w' => e = .returned (.int .u32 (m : Int)) ∧ Below w.heap.size w w' := by
  have := get_yes a n c l i w h.row h.2.1 h.2.2.1 hl hi
  rw [hm] at this
  exact this
theorem bytesF (v : Nat) (w : World) (hv : v < 4294967296) : Calls Try.prog 14 #[.int .u64 (v : Int), .int .i64 4] w fun e w' => ∃ a' c', e = .returned (.slice a' 4 c') ∧ RowF w' a' 4 c' (Crc.les 4 v) ∧ Below w.heap.size w w' :=
  (bytes_any v 4 w (by omega) (by omega)).mono fun e w' hr => by
    obtain ⟨a', c', e1, h1, h2⟩ := rowF_ret hr
    rw [Crc.les_len] at e1 h1
    exact ⟨a', c', e1, h1, h2⟩
theorem withF {w : World} {a b : Option Addr} {n c d : Nat} {l : List Nat} (h : RowF w a n c l) (i v q : Nat) (hq : q = 4 * i) (k : RowF w b 4 d (Crc.les 4 v)) (hl : n ≤ 100000) (hi : 4 * i + 4 ≤ n) :
    Calls Try.prog 13 #[.slice a n c, .int .i64 (q : Int), .slice b 4 d] w fun e w' => ∃ a' c', e = .returned (.slice a' n c') ∧ RowF w' a' n c' (putB l i v) ∧ Below w.heap.size w w' := by
  subst hq
  obtain ⟨g, off, rfl, -⟩ := h.row.2.2 (by omega)
  refine (withR_any g off n c l (4 * i) b 4 d (Crc.les 4 v) w h.row h.2.1 (by have := h.2.2.1; unfold maxLen at this; exact this) hi hl k.row k.2.2.2.1).mono fun e w' hr => ?_
  have hr' : RetOwn w (putB l i v) e w' := hr
  obtain ⟨a', c', e1, h1, h2⟩ := rowF_ret hr'
  rw [putB_len l i v (by rw [h.1]; omega), h.1] at e1 h1
  exact ⟨a', c', e1, h1, h2⟩
theorem numF {w : World} {a : Option Addr} {n c : Nat} {l : List Nat} (h : RowF w a n c l) (i m q : Nat) (hq : q = 4 * i) (hl : n ≤ 100000) (hi : 4 * i + 4 ≤ n) (hm : leVal ((l.drop (4 * i)).take 4) = m) :
    Calls Try.prog 15 #[.slice a n c, .int .i64 (q : Int), .int .i64 4] w fun e w' => e = .returned (.int .u64 (m : Int)) ∧ w' = w := by
  subst hq
  have := numR_any a n c l (4 * i) 4 w h.row hi hl (by omega)
  rw [hm] at this
  exact this
theorem leVal4_lt (l : List Nat) (h : ∀ x ∈ l, x < 256) (k : Nat) : leVal ((l.drop k).take 4) < 4294967296 := by
  have h1 := leVal_lt ((l.drop k).take 4) (fun x hx => h x (List.mem_of_mem_drop (List.mem_of_mem_take hx)))
  refine Nat.lt_of_lt_of_le h1 ?_
  have h2 : ((l.drop k).take 4).length ≤ 4 := List.length_take_le _ _
  exact Nat.pow_le_pow_right (show 0 < 256 by omega) h2
set_option maxRecDepth 100000 in
set_option maxHeartbeats 1600000 in
theorem bmapNumbers_big (a : Option Addr) (n c : Nat) (x v : Int) (w : World) (hn : 1100 < n) :
    Calls Try.prog 3 #[.slice a n c, .int .i64 x, .int .u32 v] w fun e w' => e = .returned (.bool true) ∧ Below w.heap.size w w' := by
  have HF := Lib.hid found_any
  have t1 : decide ((1100 : Int) < (n : Int)) = true := by simp; omega
  go_enter Try.func3, Try.ntmps3
  go_wp2_with fail
  ((with_reducible refine (HF.out _).mono ?_))
  rintro e w1 ⟨rfl, hb⟩
  have HB1 := Lib.hid hb
  clear hb
  go_wp2_with fail
  ((with_reducible refine (HF.out _).mono ?_))
  rintro e w2 ⟨rfl, hb⟩
  have HB2 := Lib.hid (bel_trans HB1.out hb)
  clear hb
  go_wp2_with fail
  go_ret
  exact ⟨rfl, HB2.out⟩
set_option maxRecDepth 100000 in
set_option maxHeartbeats 1600000 in
theorem bmapNumbers_out (a : Option Addr) (n c : Nat) (l : List Nat) (x : Int) (v : Nat) (w : World) (h : InB w a n c l) (hn : n ≤ 1100) (hx : x < 0 ∨ ((n / 4 : Nat) : Int) ≤ x) :
    Calls Try.prog 3 #[.slice a n c, .int .i64 x, .int .u32 (v : Int)] w fun e w' => e = .returned (.bool true) ∧ Below w.heap.size w w' := by
  have HR := Lib.hid (rowF_in h)
  have HF := Lib.hid found_any
  have HX := Lib.hid hx
  have t1 : decide ((1100 : Int) < (n : Int)) = false := by simp; omega
  clear h
  by_cases hx0 : x < 0
  all_goals
    first
      | have t2 : decide (x < 0) = true := by simpa using hx0
      | (have t2 : decide (x < 0) = false := by simpa using hx0
         have t3 : decide ((n : Int) / 4 - 1 < x) = true := by simp; omega)
    clear hx0 hx
    go_enter Try.func3, Try.ntmps3
    go_wp2_with fail
    ((with_reducible refine (HF.out _).mono ?_))
    rintro e w1 ⟨rfl, hb⟩
    have HB1 := Lib.hid hb
    clear hb
    go_wp2_with fail
    ((with_reducible refine (partF (HR.out.step HB1.out) (by omega)).mono ?_))
    rintro e w2 ⟨ca, cc, rfl, hc, hb⟩
    have HC := Lib.hid hc
    have HB2 := Lib.hid (bel_trans HB1.out hb)
    clear hc hb
    go_wp2_with fail
    ((with_reducible refine (setF_no HC.out x v (by omega) HX.out).mono ?_))
    rintro e w3 ⟨xa, xc, rfl, hc, hb⟩
    have HX3 := Lib.hid hc
    have HC3 := Lib.hid (HC.out.step hb)
    have HB3 := Lib.hid (bel_trans HB2.out hb)
    clear hc hb
    go_wp2_with fail
    ((with_reducible refine (sameF HC3.out (HR.out.step HB3.out)).mono ?_))
    rintro e w4 ⟨rfl, rfl⟩
    go_wp2_with fail
    ((with_reducible refine (sameF HX3.out (HR.out.step HB3.out)).mono ?_))
    rintro e w5 ⟨rfl, rfl⟩
    go_wp2_with fail
    ((with_reducible refine (get_no _ n _ x _ (by omega) HX.out).mono ?_))
    rintro e w6 ⟨rfl, hb⟩
    have HB4 := Lib.hid (bel_trans HB3.out hb)
    clear hb
    go_wp2_with fail
    go_ret
    exact ⟨rfl, HB4.out⟩
set_option maxRecDepth 100000 in
set_option maxHeartbeats 1600000 in
theorem bmapNumbers_in (a : Option Addr) (n c : Nat) (l : List Nat) (i v : Nat) (w : World) (h : InB w a n c l) (hn : n ≤ 1100) (hi : i < n / 4) (hv : v < 4294967296) :
    Calls Try.prog 3 #[.slice a n c, .int .i64 (i : Int), .int .u32 (v : Int)] w fun e w' => e = .returned (.bool true) ∧ Below w.heap.size w w' := by
  have HR := Lib.hid (rowF_in h)
  have HF := Lib.hid found_any
  have h4 : 4 * i + 4 ≤ n := by omega
  have HP := Lib.hid (leVal_putB l i v (by rw [h.1.1]; omega) hv)
  obtain ⟨m, hm⟩ : ∃ m, leVal ((l.drop (4 * i)).take 4) = m := ⟨_, rfl⟩
  have hm32 : m < 4294967296 := by rw [← hm]; exact leVal4_lt l h.1.2.1 _
  have HM := Lib.hid hm
  obtain ⟨q, hq⟩ : ∃ q, q = 4 * i := ⟨_, rfl⟩
  have HQ := Lib.hid hq
  have t1 : decide ((1100 : Int) < (n : Int)) = false := by simp; omega
  have t2 : decide ((i : Int) < 0) = false := by simp
  have t3 : decide ((n : Int) / 4 - 1 < (i : Int)) = false := by simp; omega
  have u0 : IntKind.i64.wrap (4 * (i : Int)) = (q : Int) := by rw [IntKind.wrap_i64]; omega
  clear h hm hq
  go_enter Try.func3, Try.ntmps3
  go_wp2_with fail
  ((with_reducible refine (HF.out _).mono ?_))
  rintro e w1 ⟨rfl, hb⟩
  have HB1 := Lib.hid hb
  clear hb
  go_wp2_with fail
  ((with_reducible refine (partF (HR.out.step HB1.out) (by omega)).mono ?_))
  rintro e w2 ⟨ca, cc, rfl, hc, hb⟩
  have HC := Lib.hid hc
  have HB2 := Lib.hid (bel_trans HB1.out hb)
  clear hc hb
  go_wp2_with fail
  ((with_reducible refine (setF HC.out i v (by omega) hi hv).mono ?_))
  rintro e w3 ⟨xa, xc, rfl, hc, hb⟩
  have HX3 := Lib.hid hc
  have HC3 := Lib.hid (HC.out.step hb)
  have HB3 := Lib.hid (bel_trans HB2.out hb)
  clear hc hb
  go_wp2_with fail
  ((with_reducible refine (sameF HC3.out (HR.out.step HB3.out)).mono ?_))
  rintro e w4 ⟨rfl, rfl⟩
  go_wp2_with fail
  ((with_reducible refine (bytesF v _ hv).mono ?_))
  rintro e w5 ⟨ba, bc, rfl, hc, hb⟩
  have HY := Lib.hid hc
  have HX4 := Lib.hid (HX3.out.step hb)
  have HC4 := Lib.hid (HC3.out.step hb)
  have HB4 := Lib.hid (bel_trans HB3.out hb)
  clear hc hb
  go_wp2_with fail
  ((with_reducible refine (withF (HR.out.step HB4.out) i v q HQ.out HY.out (by omega) h4).mono ?_))
  rintro e w6 ⟨ya, yc, rfl, hc, hb⟩
  have HW := Lib.hid hc
  have HX5 := Lib.hid (HX4.out.step hb)
  have HC5 := Lib.hid (HC4.out.step hb)
  have HB5 := Lib.hid (bel_trans HB4.out hb)
  clear hc hb
  go_wp2_with fail
  ((with_reducible refine (sameF HX5.out HW.out).mono ?_))
  rintro e w7 ⟨rfl, rfl⟩
  go_wp2_with fail
  ((with_reducible refine (getF HX5.out i v (by omega) hi HP.out).mono ?_))
  rintro e w8 ⟨rfl, hb⟩
  have HC6 := Lib.hid (HC5.out.step hb)
  have HB6 := Lib.hid (bel_trans HB5.out hb)
  clear hb
  go_wp2_with fail
  ((with_reducible refine (getF HC6.out i m (by omega) hi HM.out).mono ?_))
  rintro e w9 ⟨rfl, hb⟩
  have HB7 := Lib.hid (bel_trans HB6.out hb)
  clear hb
  go_wp2_with fail
  ((with_reducible refine (numF (HR.out.step HB7.out) i m q HQ.out (by omega) h4 HM.out).mono ?_))
  rintro e w10 ⟨rfl, rfl⟩
  go_wp2_with fail
  go_ret
  exact ⟨rfl, HB7.out⟩
theorem wf_u32n {x : Int} (h : (Lit.int .u32 x).wf = true) : ∃ n : Nat, x = (n : Int) ∧ n < 4294967296 := by
  have hm : IntKind.u32.min = 0 := by decide
  have hM : IntKind.u32.max = 4294967295 := by decide
  simp [Lit.wf, hm, hM] at h
  exact ⟨x.toNat, by omega, by omega⟩
theorem bmapNumbers_walk (a : Option Addr) (n c : Nat) (l : List Nat) (x v : Int) (w : World) (h : InB w a n c l) (_ : (Lit.int .i64 x).wf = true) (hv : (Lit.int .u32 v).wf = true) :
    Calls Try.prog 3 #[.slice a n c, .int .i64 x, .int .u32 v] w fun e w' => e = .returned (.bool true) ∧ Below w.heap.size w w' := by
  obtain ⟨v, rfl, hv2⟩ := wf_u32n hv
  by_cases hn : 1100 < n
  · exact bmapNumbers_big a n c x _ w hn
  by_cases hx : x < 0 ∨ ((n / 4 : Nat) : Int) ≤ x
  · exact bmapNumbers_out a n c l x v w h (by omega) hx
  · obtain ⟨i, rfl⟩ := Int.eq_ofNat_of_zero_le (show 0 ≤ x by omega)
    exact bmapNumbers_in a n c l i v w h (by omega) (by omega) hv2
end Go.Proofs.Ytgfchjchanfcgaa
