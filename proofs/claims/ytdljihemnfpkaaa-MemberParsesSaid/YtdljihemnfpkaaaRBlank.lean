/- record.Blank; bytes.Equal; gabionref01.Same. -/
import Derived.Test.YtdljihemnfpkaaaWriterText
import Derived.Deep.QuietTactic
namespace Go.Proofs.Ytdljihemnfpkaaa
open Go.RowKit

/-- Are all bytes 255? -/
def blankB (bs : List Nat) : Bool := bs.all (· == 255)
theorem blankB_take {bs : List Nat} {k : Nat} (hk : k < bs.length) (h : blankB (bs.take k) = true) : blankB (bs.take (k + 1)) = (bs.getD k 0 == 255) := by
  unfold blankB at *
  rw [take_snoc_getD bs k hk, List.all_append, h]
  simp
theorem blankB_false {bs : List Nat} {k : Nat} (hk : k < bs.length) (h : ¬ bs.getD k 0 = 255) : blankB bs = false := by
  rw [getD_in _ _ hk] at h
  unfold blankB
  rw [List.all_eq_false]
  exact ⟨bs[k], List.getElem_mem _, by simpa using h⟩
theorem strOf_inj {bs cs : List Nat} (hb : ∀ x ∈ bs, x < 256) (hc : ∀ x ∈ cs, x < 256) (h : strOf bs = strOf cs) : bs = cs := by
  have h1 : bs.map UInt8.ofNat = cs.map UInt8.ofNat := by
    have h2 := congrArg (fun s : ByteArray => s.data.toList) h
    simpa [strOf] using h2
  have h3 : ∀ l : List Nat, (∀ x ∈ l, x < 256) → (l.map UInt8.ofNat).map UInt8.toNat = l := fun l hl => by
    rw [List.map_map]
    conv => rhs; rw [← List.map_id l]
    apply List.map_congr_left
    intro x hx
    have := hl x hx
    simp; omega
  rw [← h3 bs hb, ← h3 cs hc, h1]
theorem strOf_beq {bs cs : List Nat} (hb : ∀ x ∈ bs, x < 256) (hc : ∀ x ∈ cs, x < 256) : ((strOf bs).toList == (strOf cs).toList) = decide (bs = cs) := by
  by_cases h : bs = cs
  · subst h; simp
  · have h1 : ¬ strOf bs = strOf cs := fun e => h (strOf_inj hb hc e)
    have h2 : ¬ (strOf bs).toList = (strOf cs).toList := fun e => h1 (by
      rw [ByteArray.toList_eq, ByteArray.toList_eq] at e
      exact ByteArray.ext (Array.toList_inj.1 e))
    rw [decide_eq_false h]
    exact beq_eq_false_iff_ne.2 h2
set_option maxHeartbeats 400000 in
theorem equal_any (a : Option Addr) (la ca : Nat) (b : Option Addr) (lb cb : Nat) (bs cs : List Nat) (w : World) (ha : Row w a la bs) (hb : Row w b lb cs) :
    Calls Try.prog 44 #[.slice a la ca, .slice b lb cb] w fun e w' => e = .returned (.bool (decide (bs = cs))) ∧ w' = w := by
  have h1 := conv_str w a la ca bs ha
  have h2 := conv_str w b lb cb cs hb
  have HE := Lib.hid (strOf_beq ha.2.1 hb.2.1)
  go_enter Try.func44, Try.ntmps44
  go_wp2
  go_ret
  exact ⟨ret_bool HE.out, rfl⟩
set_option maxHeartbeats 400000 in
theorem sameB_any (a : Option Addr) (la ca : Nat) (b : Option Addr) (lb cb : Nat) (bs cs : List Nat) (w : World) (ha : Row w a la bs) (hb : Row w b lb cs) :
    Calls Try.prog 56 #[.slice a la ca, .slice b lb cb] w fun e w' => e = .returned (.bool (decide (bs = cs))) ∧ w' = w := by
  have h1 := conv_str w a la ca bs ha
  have h2 := conv_str w b lb cb cs hb
  have HE := Lib.hid (strOf_beq ha.2.1 hb.2.1)
  go_enter Try.func56, Try.ntmps56
  go_wp2
  go_ret
  exact ⟨ret_bool HE.out, rfl⟩

end Go.Proofs.Ytdljihemnfpkaaa
