/- record.Seal. -/
import Derived.Test.YtjnjkoodeacpdaaRSealOne
import Derived.Test.YtjnjkoodeacpdaaRSealWide
import Derived.Test.YtjnjkoodeacpdaaRSealNil
namespace Go.Proofs.Ytjnjkoodeacpdaa
open Go.RowKit

theorem seal_any (h : RH) (hf : h.Fits) (a : Option Addr) (len cap : Nat) (ds : List Nat) (a2 : Option Addr) (len2 cap2 : Nat) (be : List Nat) (w : World)
    (hr : Row w a len ds) (hl : len ≤ 100000) (hr2 : Row w a2 len2 be) (hlc2 : len2 ≤ cap2) (hcm2 : cap2 ≤ maxLen) (hn2 : a2 = none → cap2 = 0) (hl2 : len2 ≤ 100000) :
    Calls Try.prog 42 #[.agg h.cells, .slice a len cap, .slice a2 len2 cap2] w (RetOwn w (sealB h ds be)) := by
  unfold maxLen at hcm2
  cases a2 with
  | none =>
    obtain rfl := hn2 rfl
    obtain rfl : len2 = 0 := by omega
    obtain rfl : be = [] := List.eq_nil_of_length_eq_zero hr2.1
    exact seal_nil h hf a len cap ds w hr hl
  | some x =>
    obtain ⟨b2, off2, sp2⟩ := x
    by_cases hle : len2 ≤ 32
    · exact seal_one h hf a len cap ds b2 off2 sp2 len2 cap2 be w hr hl hr2 hlc2 hle
    · exact seal_wide h hf a len cap ds b2 off2 sp2 len2 cap2 be w hr hl hr2 hlc2 (by omega) hle hl2

end Go.Proofs.Ytjnjkoodeacpdaa
