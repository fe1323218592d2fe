/- The contract of gabionref01.Part, from the beginning on. -/
import Derived.Test.YtallambldbhibaaAppend
namespace Go.Proofs.Ytallambldbhibaa
open Go.RowKit

set_option maxHeartbeats 400000 in
theorem part_any (a : Option Addr) (len cap : Nat) (bs : List Nat) (w : World) (hr : Row w a len bs) (hlc : len ≤ cap) (hcm : cap ≤ maxLen) (hn : a = none → cap = 0) (hl : len ≤ 100000) :
    Calls Try.prog 106 #[.slice a len cap, .int .i64 0, .int .i64 (len : Int)] w (RetOwn w bs) := by
  unfold maxLen at hcm
  have hlen := hr.1
  cases a with
  | none =>
    obtain rfl := hn rfl
    obtain rfl : len = 0 := by omega
    obtain rfl : bs = [] := List.eq_nil_of_length_eq_zero hlen
    go_enter Try.func106, Try.ntmps106
    go_wp2_with (at_builtin; refine wpList_app rfl _ _ rfl w.heap.size _ _ rfl (own_nil _ _) none 0 0 [] rfl hr (fun _ => rfl) (Nat.le_refl _) (by simp) ?_)
    intro v1 w1 hap
    go_wp2
    go_ret
    exact ⟨_, rfl, hap.own, hap.below⟩
  | some x =>
    obtain ⟨b, off, spot⟩ := x
    have HL := Lib.hid hlen
    clear hlen
    go_enter Try.func106, Try.ntmps106
    go_wp2_with (at_builtin; refine wpList_app rfl _ _ rfl w.heap.size _ _ rfl (own_nil _ _) _ _ _ bs rfl ?c1 ?c2 (Nat.le_refl _) (by simp; omega) ?_)
    case c1 => exact hr
    case c2 => exact hn
    intro v1 w1 hap
    go_wp2
    go_ret
    exact ⟨_, rfl, hap.own, hap.below⟩

end Go.Proofs.Ytallambldbhibaa
