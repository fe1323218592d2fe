/- names.Check. -/
import Derived.Test.YtdpkinppkhnjkaaNMatch
import Derived.Laws.RangeAny
namespace Go.Proofs.Ytdpkinppkhnjkaa
open Go.RowKit

def badLetter (c : Nat) : Bool := decide (c < 32) || (c == 47 || c == 127)
def anyBad (s : ByteArray) : Bool := (runesOf s).any badLetter
/-- What names.Check answers. -/
def checkOf (s : ByteArray) : Int :=
  if s.toList = [] ∨ s.toList = [46] ∨ s.toList = [46, 46] then 22 else if 24 < s.size then 36 else if Lib.validD s.data.toList = false then 22 else if anyBad s then 22 else 0
theorem checkOf_22 {s : ByteArray} (h : s.toList = [] ∨ s.toList = [46] ∨ s.toList = [46, 46]) : checkOf s = 22 := by unfold checkOf; rw [if_pos h]
theorem checkOf_36 {s : ByteArray} (h : ¬ (s.toList = [] ∨ s.toList = [46] ∨ s.toList = [46, 46])) (h1 : 24 < s.size) : checkOf s = 36 := by unfold checkOf; rw [if_neg h, if_pos h1]
theorem checkOf_bad {s : ByteArray} (h : ¬ (s.toList = [] ∨ s.toList = [46] ∨ s.toList = [46, 46])) (h1 : ¬ 24 < s.size) (h2 : Lib.validD s.data.toList = false) : checkOf s = 22 := by unfold checkOf; rw [if_neg h, if_neg h1, if_pos h2]
theorem checkOf_any {s : ByteArray} (h : ¬ (s.toList = [] ∨ s.toList = [46] ∨ s.toList = [46, 46])) (h1 : ¬ 24 < s.size) (h2 : Lib.validD s.data.toList = true) : checkOf s = if anyBad s then 22 else 0 := by unfold checkOf; rw [if_neg h, if_neg h1, if_neg (by rw [h2]; simp)]
theorem iter_below (w : World) (s : ByteArray) (pos : Nat) : Below w.heap.size w (w.iter s pos) := bel_alloc (Below.refl _ w) _
theorem scan_cons {s : ByteArray} {f pos : Nat} (hp : pos < s.size) : scan s (f + 1) pos = (pos, (Utf8.decode s pos).1, (Utf8.decode s pos).2) :: scan s f (pos + (Utf8.decode s pos).2) := by
  rw [scan, if_pos hp]

end Go.Proofs.Ytdpkinppkhnjkaa
