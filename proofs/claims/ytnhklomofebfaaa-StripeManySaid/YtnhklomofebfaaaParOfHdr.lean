/- gabionlaw09.of. -/
import Derived.Test.YtnhklomofebfaaaParMath
import Derived.Test.YtnhklomofebfaaaRRefOpen
namespace Go.Proofs.Ytnhklomofebfaaa
open Go.RowKit

/-- A header with another kind. -/
def RH.withKind (h : RH) (k : Nat) : RH := ⟨k, h.ep, h.ba, h.ix, h.ct, h.bl, h.mo⟩
theorem withKind_fits {h : RH} (hf : h.Fits) {k : Nat} (hk : k < 256) : (h.withKind k).Fits := ⟨hk, hf.ep, hf.ba, hf.ix, hf.ct, hf.bl, hf.mo⟩
theorem kind_wrap (k : Nat) (_ : k < 256) : IntKind.u8.wrap (1 + ((k : Int) % 6)) = ((1 + k % 6 : Nat) : Int) := by
  rw [IntKind.wrap_u8]; omega

end Go.Proofs.Ytnhklomofebfaaa
