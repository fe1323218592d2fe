/- record.Blank; bytes.Equal; gabionref01.Same. -/
import Derived.Test.YtnhklomofebfaaaWriterText
import Derived.Deep.QuietTactic
namespace Go.Proofs.Ytnhklomofebfaaa
open Go.RowKit

/-- Are all bytes 255? -/
def blankB (bs : List Nat) : Bool := bs.all (· == 255)
theorem blankB_take {bs : List Nat} {k : Nat} (hk : k < bs.length) (h : blankB (bs.take k) = true) : blankB (bs.take (k + 1)) = (bs.getD k 0 == 255) := by
  unfold blankB at *
  rw [take_snoc_getD bs k hk, List.all_append, h]
  simp
theorem blankB_false {bs : List Nat} {k : Nat} (hk : k < bs.length) (h : ¬ bs.getD k 0 = 255) : blankB bs = false := by
  rw [getD_in _ _ hk] at h
  unfold blankB
  rw [List.all_eq_false]
  exact ⟨bs[k], List.getElem_mem _, by simpa using h⟩
set_option maxHeartbeats 400000 in
theorem blank_any (a : Option Addr) (len cap : Nat) (bs : List Nat) (w : World) (hr : Row w a len bs) (hl : len ≤ 100000) :
    Calls Try.prog 64 #[.slice a len cap] w fun e w' => e = .returned (.bool (blankB bs)) ∧ w' = w := by
  have HR := Lib.hid hr
  clear hr
  go_enter Try.func64, Try.ntmps64
  go_wp2
  go_loop [4, 7] (fun _ i => ∃ k : Nat, k ≤ len ∧ i = .int .i64 k ∧ blankB (bs.take k) = true) (fun _ i => len - (intOf i).toNat)
  case atStart => exact ⟨0, by omega, rfl, by simp [blankB]⟩
  case round =>
    obtain ⟨k, hk, rfl, hb⟩ := hrel
    have HB := Lib.hid hb
    clear hb
    by_cases hlt : k < len
    · obtain ⟨b, off, x, rfl, hc, hx, HX⟩ := row_cell HR.out hlt
      have hkl : k < bs.length := by rw [HR.out.1]; exact hlt
      by_cases h255 : x = 255
      · subst h255
        have HN := Lib.hid ((blankB_take hkl HB.out).trans (by rw [← HX.out]))
        go_wp2
        go_round
        case rel => exact ⟨k + 1, by omega, by go_num, HN.out⟩
        case measure => simp [intOf]; omega
      · have HN := Lib.hid (blankB_false hkl (by rw [← HX.out]; exact h255))
        have hne : ((x : Int) != 255) = true := by simp; omega
        go_wp2
        go_ret
        exact ⟨ret_bool HN.out.symm, rfl⟩
    · obtain rfl : k = len := by omega
      have HN : Hid (blankB bs = true) := Lib.hid (by have := HB.out; rw [List.take_of_length_le (by rw [HR.out.1]; omega)] at this; exact this)
      go_wp2
      go_ret
      exact ⟨ret_bool HN.out.symm, rfl⟩
set_option maxHeartbeats 400000 in
theorem Blank_any (a : Option Addr) (len cap : Nat) (bs : List Nat) (a2 : Option Addr) (len2 cap2 : Nat) (cs : List Nat) (w : World) (hr : Row w a len bs) (hl : len ≤ 100000) (hr2 : Row w a2 len2 cs) (hl2 : len2 ≤ 100000) :
    Calls Try.prog 42 #[.slice a len cap, .slice a2 len2 cap2] w fun e w' => e = .returned (.bool (blankB bs && blankB cs)) ∧ w' = w := by
  have H1 := Lib.hid (blank_any a len cap bs w hr hl)
  have H2 := Lib.hid (blank_any a2 len2 cap2 cs w hr2 hl2)
  clear hr hr2
  go_enter Try.func42, Try.ntmps42
  go_wp2_with fail
  refine H1.out.mono ?_
  rintro e w1 ⟨rfl, rfl⟩
  cases hb : blankB bs with
  | false =>
    go_wp2
    go_ret
    exact ⟨ret_bool (by simp [hb]), rfl⟩
  | true =>
    go_wp2_with fail
    refine H2.out.mono ?_
    rintro e w1 ⟨rfl, rfl⟩
    go_wp2
    go_ret
    exact ⟨ret_bool (by simp [hb]), rfl⟩

theorem strOf_inj {bs cs : List Nat} (hb : ∀ x ∈ bs, x < 256) (hc : ∀ x ∈ cs, x < 256) (h : strOf bs = strOf cs) : bs = cs := by
  have h1 : bs.map UInt8.ofNat = cs.map UInt8.ofNat := by
    have h2 := congrArg (fun s : ByteArray => s.data.toList) h
    simpa [strOf] using h2
  have h3 : ∀ l : List Nat, (∀ x ∈ l, x < 256) → (l.map UInt8.ofNat).map UInt8.toNat = l := fun l hl => by
    rw [List.map_map]
    conv => rhs; rw [← List.map_id l]
    apply List.map_congr_left
    intro x hx
    have := hl x hx
    simp; omega
  rw [← h3 bs hb, ← h3 cs hc, h1]
theorem strOf_beq {bs cs : List Nat} (hb : ∀ x ∈ bs, x < 256) (hc : ∀ x ∈ cs, x < 256) : ((strOf bs).toList == (strOf cs).toList) = decide (bs = cs) := by
  by_cases h : bs = cs
  · subst h; simp
  · have h1 : ¬ strOf bs = strOf cs := fun e => h (strOf_inj hb hc e)
    have h2 : ¬ (strOf bs).toList = (strOf cs).toList := fun e => h1 (by
      rw [ByteArray.toList_eq, ByteArray.toList_eq] at e
      exact ByteArray.ext (Array.toList_inj.1 e))
    rw [decide_eq_false h]
    exact beq_eq_false_iff_ne.2 h2
set_option maxHeartbeats 400000 in
theorem equal_any (a : Option Addr) (la ca : Nat) (b : Option Addr) (lb cb : Nat) (bs cs : List Nat) (w : World) (ha : Row w a la bs) (hb : Row w b lb cs) :
    Calls Try.prog 72 #[.slice a la ca, .slice b lb cb] w fun e w' => e = .returned (.bool (decide (bs = cs))) ∧ w' = w := by
  have h1 := conv_str w a la ca bs ha
  have h2 := conv_str w b lb cb cs hb
  have HE := Lib.hid (strOf_beq ha.2.1 hb.2.1)
  go_enter Try.func72, Try.ntmps72
  go_wp2
  go_ret
  exact ⟨ret_bool HE.out, rfl⟩
set_option maxHeartbeats 400000 in
theorem sameB_any (a : Option Addr) (la ca : Nat) (b : Option Addr) (lb cb : Nat) (bs cs : List Nat) (w : World) (ha : Row w a la bs) (hb : Row w b lb cs) :
    Calls Try.prog 24 #[.slice a la ca, .slice b lb cb] w fun e w' => e = .returned (.bool (decide (bs = cs))) ∧ w' = w := by
  have h1 := conv_str w a la ca bs ha
  have h2 := conv_str w b lb cb cs hb
  have HE := Lib.hid (strOf_beq ha.2.1 hb.2.1)
  go_enter Try.func24, Try.ntmps24
  go_wp2
  go_ret
  exact ⟨ret_bool HE.out, rfl⟩

end Go.Proofs.Ytnhklomofebfaaa
