/- names.Match. -/
import Derived.Test.YtdpkinppkhnjkaaDoorNFit
namespace Go.Proofs.YtdpkinppkhnjkaaDoor
open Go.RowKit

/-- What names.Match answers. -/
def matchOf (s t : ByteArray) : Bool × Int :=
  match parseOf s with
  | none => (false, 62)
  | some ps => (Nm.fit (Nm.fitW (runesOf t).length ps.length 0 0 + 1) ps (runesOf t) 0 0 0 0, 0)
theorem parseOf_bd {s : ByteArray} {ps : List Nm.Part} (h : parseOf s = some ps) : ps.length ≤ s.size ∧ ∀ p ∈ ps, p.these.length ≤ s.size := by
  unfold parseOf at h
  split at h
  · have h1 := Nm.parse_bd _ _ _ h
    have h2 := runesOf_le s
    exact ⟨by omega, fun p hp => by have := h1.2 p hp; omega⟩
  · cases h
end Go.Proofs.YtdpkinppkhnjkaaDoor
