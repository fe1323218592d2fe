/- gabionlaw09.of. -/
import Derived.Test.YtjljikhdhhmfcaaParMath
import Derived.Test.YtjljikhdhhmfcaaRRefOpen
namespace Go.Proofs.Ytjljikhdhhmfcaa
open Go.RowKit

set_option maxRecDepth 100000 in
set_option maxHeartbeats 3200000 in
theorem of_hdr (h : RH) (hf : h.Fits) (w : World) :
    Calls Try.prog 49 #[.agg #[.int .u8 (h.ki : Int), .int .u32 (h.ep : Int), .int .u32 (h.ba : Int), .int .u16 (h.ix : Int), .int .u16 (h.ct : Int), .int .u32 (h.bl : Int), .int .u32 (h.mo : Int)]] w fun e w' => e = .returned (.agg h.wide) ∧ Below w.heap.size w w' := by
  obtain ⟨f1, f2, f3, f4, f5, f6, f7⟩ := hf
  unfold RH.wide
  obtain ⟨ki, ep, ba, ix, ct, bl, mo⟩ := h
  simp only at f1 f2 f3 f4 f5 f6 f7 ⊢
  go_enter Try.func49, Try.ntmps49
  go_wp2
  refine bodyPost_ret (v := .agg #[.int .i64 (ki : Int), .int .i64 (ep : Int), .int .i64 (ba : Int), .int .i64 (ix : Int), .int .i64 (ct : Int), .int .i64 (bl : Int), .int .i64 (mo : Int)]) ?_ rfl ⟨rfl, ?_⟩
  · simp [results, Try.results49, go_sem]
  · exact bel_alloc (bel_alloc (Below.refl _ w) _) _

/-- A header with another kind. -/
def RH.withKind (h : RH) (k : Nat) : RH := ⟨k, h.ep, h.ba, h.ix, h.ct, h.bl, h.mo⟩
theorem withKind_fits {h : RH} (hf : h.Fits) {k : Nat} (hk : k < 256) : (h.withKind k).Fits := ⟨hk, hf.ep, hf.ba, hf.ix, hf.ct, hf.bl, hf.mo⟩
theorem refSeal_parts (h : RH) (hf : h.Fits) (D : PS) (hD : D.n ≤ 1000) : Hid (∀ x : World, PartOk x D →
    Calls Try.prog 48 #[.agg h.wide, .slice D.a D.n D.c, .slice none 0 0] x (RetOwn x (sealB h D.l []))) :=
  Lib.hid fun x hd => refSeal_any h hf D.a D.n D.c D.l none 0 0 [] x hd.1 hD hd.2.2.2 ⟨rfl, (fun x hx => by cases hx), fun h => by omega⟩ (Nat.le_refl _) (Nat.zero_le _) (fun _ => rfl) (by omega)
theorem kind_wrap (k : Nat) (_ : k < 256) : IntKind.u8.wrap (1 + ((k : Int) % 6)) = ((1 + k % 6 : Nat) : Int) := by
  rw [IntKind.wrap_u8]; omega

end Go.Proofs.Ytjljikhdhhmfcaa
