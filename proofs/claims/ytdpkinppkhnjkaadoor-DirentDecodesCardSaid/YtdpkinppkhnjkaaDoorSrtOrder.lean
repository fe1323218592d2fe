/- dirent.order: which of two names goes ahead. -/
import Derived.Test.YtdpkinppkhnjkaaDoorSrtRot
namespace Go.Proofs.YtdpkinppkhnjkaaDoor
open Go.RowKit

def ordOf (a b : ByteArray) : Int := if lessOf a b = true then -1 else if lessOf b a = true then 1 else 0
theorem ordOf_neg (a b : ByteArray) : decide (ordOf a b < 0) = lessOf a b := by
  unfold ordOf
  cases lessOf a b <;> cases lessOf b a <;> rfl
set_option maxRecDepth 100000 in
set_option maxHeartbeats 1000000 in
theorem order_any (a b : ByteArray) (w : World) (ha : a.size ≤ 70368744177664) (hb : b.size ≤ 70368744177664) :
    Calls Tryd.prog 19 #[.string a, .string b] w fun e w' => e = .returned (.int .i64 (ordOf a b)) ∧ Below w.heap.size w w' := by
  have H1 := Lib.hid (less_big a b w ha hb)
  have H2 := Lib.hid fun x : World => less_big b a x hb ha
  obtain ⟨t, ht⟩ : ∃ t, lessOf a b = t := ⟨_, rfl⟩
  obtain ⟨u, hu⟩ : ∃ t, lessOf b a = t := ⟨_, rfl⟩
  unfold ordOf
  rw [ht] at H1 ⊢
  rw [hu] at H2 ⊢
  clear ht hu ha hb
  cases t with
  | true =>
    go_enter Tryd.func19, Tryd.ntmps19
    go_wp2_with fail
    ((with_reducible refine H1.out.mono ?_))
    rintro e w1 ⟨rfl, hb1⟩
    have HB1 := Lib.hid hb1
    clear hb1
    go_wp2_with fail
    go_ret
    exact ⟨rfl, HB1.out⟩
  | false =>
    cases u with
    | true =>
      go_enter Tryd.func19, Tryd.ntmps19
      go_wp2_with fail
      ((with_reducible refine H1.out.mono ?_))
      rintro e w1 ⟨rfl, hb1⟩
      have HB1 := Lib.hid hb1
      clear hb1
      go_wp2_with fail
      ((with_reducible refine (H2.out _).mono ?_))
      rintro e w2 ⟨rfl, hb2⟩
      have HB2 := Lib.hid (HB1.out.trans (hb2.mono HB1.out.size))
      clear hb2
      go_wp2_with fail
      go_ret
      exact ⟨rfl, HB2.out⟩
    | false =>
      go_enter Tryd.func19, Tryd.ntmps19
      go_wp2_with fail
      ((with_reducible refine H1.out.mono ?_))
      rintro e w1 ⟨rfl, hb1⟩
      have HB1 := Lib.hid hb1
      clear hb1
      go_wp2_with fail
      ((with_reducible refine (H2.out _).mono ?_))
      rintro e w2 ⟨rfl, hb2⟩
      have HB2 := Lib.hid (HB1.out.trans (hb2.mono HB1.out.size))
      clear hb2
      go_wp2_with fail
      go_ret
      exact ⟨rfl, HB2.out⟩
end Go.Proofs.YtdpkinppkhnjkaaDoor
