/- The reader's Text. -/
import Derived.Test.YtallambldbhibaaReaderNum
namespace Go.Proofs.Ytallambldbhibaa
open Go.RowKit

/-- What the reader's Text ends with: the reader goes on behind the text. -/
def TextRet (w : World) (pr pg : Nat) (c : Nat) (bs : List Nat) (k : Nat) (e : Ending) (w' : World) : Prop :=
  ∃ a2, e = .returned (.string (strOf ((bs.drop 1).take k))) ∧ RD w' pr pg a2 (c - 1 - k) ((bs.drop 1).drop k) ∧ w'.heap.size = w.heap.size ∧ w'.os = w.os ∧ w'.tape = w.tape ∧ w'.output = w.output ∧ ∀ j, j ≠ pr → w'.heap[j]? = w.heap[j]?
end Go.Proofs.Ytallambldbhibaa
