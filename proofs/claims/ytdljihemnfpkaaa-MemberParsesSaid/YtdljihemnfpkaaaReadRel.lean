/- The reader's row goes on in its own block. -/
import Derived.Test.YtdljihemnfpkaaaReaderMore
namespace Go.Proofs.Ytdljihemnfpkaaa
open Go.RowKit

def TookR (w : World) (pr pg : Nat) (a : Option Addr) (c : Nat) (bs : List Nat) (n : Nat) (e : Ending) (w' : World) : Prop :=
  ∃ a2, e = .returned (.slice a n c) ∧ w' = w.setCell ⟨pr, 0, none⟩ (.slice a2 (bs.length - n) (c - n)) ∧ RD w' pr pg a2 (c - n) (bs.drop n) ∧ Row w' a n (bs.take n) ∧ ∀ x2, a2 = some x2 → ∃ x, a = some x ∧ x2.block = x.block
theorem took_ofR {w w' : World} {pr pg c n : Nat} {a a2 : Option Addr} {bs : List Nat} {v : Value} (h : RD w pr pg a c bs) (hn : n ≤ bs.length)
    (ha : (a = none ∧ a2 = none) ∨ ∃ b off sp, a = some ⟨b, off, sp⟩ ∧ (a2 = some (Addr.add ⟨b, off, sp⟩ n) ∨ (c = n ∧ a2 = some ⟨b, off, sp⟩)))
    (hv : v = .slice a n c) (hw : w' = w.setCell ⟨pr, 0, none⟩ (.slice a2 (bs.length - n) (c - n))) : TookR w pr pg a c bs n (.returned v) w' := by
  have hr := rd_advance h n hn ha
  refine ⟨a2, by rw [hv], hw, by rw [hw]; exact hr.1, by rw [hw]; exact hr.2, fun x2 hx2 => ?_⟩
  rcases ha with ⟨_, h2⟩ | ⟨b, off, sp, h1, h2⟩
  · rw [h2] at hx2; cases hx2
  · refine ⟨_, h1, ?_⟩
    rcases h2 with h2 | ⟨_, h2⟩
    · rw [h2] at hx2; cases hx2; exact add_block _ _
    · rw [h2] at hx2; cases hx2; rfl
set_option maxHeartbeats 400000 in
theorem take_okR {w : World} {pr pg c : Nat} {a : Option Addr} {bs : List Nat} (n : Nat) (h : RD w pr pg a c bs) (hn : n ≤ bs.length) :
    Calls Try.prog 62 #[.pointer (some ⟨pr, 0, none⟩), .int .i64 (n : Int)] w (TookR w pr pg a c bs n) := by
  obtain ⟨h0, h1, h2⟩ := rd_cells h
  have hc : bs.length ≤ c ∧ c ≤ maxLen := ⟨h.2.2.2.1, h.2.2.2.2.1⟩
  have HN := Lib.hid hn
  unfold maxLen at hc
  cases a with
  | none =>
    obtain rfl : c = 0 := h.2.2.1 rfl
    obtain rfl : n = 0 := by omega
    have hb0 : bs.length = 0 := by omega
    have HH := Lib.hid h
    clear h
    go_enter Try.func62, Try.ntmps62
    go_wp2_with (go_at_call 63; refine (left_ok HH.out).mono ?_; rintro e w1 ⟨rfl, rfl⟩)
    go_ret
    exact took_ofR (a2 := none) HH.out HN.out (Or.inl ⟨rfl, rfl⟩) rfl (by rw [hb0])
  | some x =>
    obtain ⟨b, off, sp⟩ := x
    have HH := Lib.hid h
    clear h
    go_enter Try.func62, Try.ntmps62
    go_wp2_with (go_at_call 63; refine (left_ok HH.out).mono ?_; rintro e w1 ⟨rfl, rfl⟩)
    · have hcn : c = n := by assumption
      subst hcn
      go_ret
      exact took_ofR (a2 := some ⟨b, off, sp⟩) HH.out HN.out (Or.inr ⟨b, off, sp, rfl, Or.inr ⟨rfl, rfl⟩⟩) rfl (by rw [Nat.sub_self])
    · go_ret
      exact took_ofR (a2 := some (Addr.add ⟨b, off, sp⟩ n)) HH.out HN.out (Or.inr ⟨b, off, sp, rfl, Or.inl rfl⟩) rfl rfl

def NumRetR (w : World) (pr pg : Nat) (a : Option Addr) (c : Nat) (bs : List Nat) (n : Nat) (v : Value) (e : Ending) (w' : World) : Prop :=
  ∃ a2, e = .returned v ∧ w' = w.setCell ⟨pr, 0, none⟩ (.slice a2 (bs.length - n) (c - n)) ∧ RD w' pr pg a2 (c - n) (bs.drop n) ∧ ∀ x2, a2 = some x2 → ∃ x, a = some x ∧ x2.block = x.block
set_option maxHeartbeats 400000 in
theorem number_okR {w : World} {pr pg c : Nat} {a : Option Addr} {bs : List Nat} (n : Nat) (h : RD w pr pg a c bs) (hn : n ≤ bs.length) (h8 : n ≤ 8) :
    Calls Try.prog 61 #[.pointer (some ⟨pr, 0, none⟩), .int .i64 (n : Int)] w (NumRetR w pr pg a c bs n (.int .u64 (leVal (bs.take n) : Int))) := by
  have HH := Lib.hid h
  have HN := Lib.hid hn
  clear h hn
  go_enter Try.func61, Try.ntmps61
  go_wp2_with fail
  refine (take_okR n HH.out HN.out).mono ?_
  rintro e w1 ⟨a2, rfl, hw1, hrd, hrow, hrel2⟩
  have HL2 := Lib.hid hrel2
  clear hrel2
  have HW := Lib.hid hw1
  clear hw1
  go_wp2
  go_loop [5, 12] (fun v i => ∃ k : Nat, k ≤ n ∧ i = .int .i64 k ∧ v = .int .u64 ((leVal ((bs.take n).take k) : Nat) : Int)) (fun _ i => n - (intOf i).toNat)
  case atStart => exact ⟨0, by omega, rfl, by simp [leVal]⟩
  case round =>
    obtain ⟨k, hk, rfl, rfl⟩ := hrel
    by_cases hlt : k < n
    · obtain ⟨b, off, rfl, hcl⟩ := hrow.2.2 (by omega)
      have hkl : k < (bs.take n).length := by rw [hrow.1]; exact hlt
      obtain ⟨x, hxe⟩ : ∃ x, x = (bs.take n)[k] := ⟨_, rfl⟩
      have hx : x < 256 := by rw [hxe]; exact hrow.2.1 _ (List.getElem_mem hkl)
      have hck : w1.cell? ⟨b, off + k, none⟩ = some (.int .u8 (x : Int)) := by rw [hcl k hlt, getD_in _ _ hkl, hxe]
      have hle : leVal ((bs.take n).take (k + 1)) = leVal ((bs.take n).take k) + x * 256 ^ k := by
        rw [← List.take_append_getElem hkl, leVal_snoc, ← hxe, List.length_take, Nat.min_eq_left (by omega)]
      have hlow : leVal ((bs.take n).take k) < 256 ^ k := by
        have h1 := leVal_lt ((bs.take n).take k) (fun y hy => hrow.2.1 y (List.mem_of_mem_take hy))
        rw [List.length_take, Nat.min_eq_left (by omega)] at h1
        exact h1
      have hst := Lib.hid (num_step _ x k hlow hx (by omega))
      have HLE := Lib.hid hle
      clear hcl hlow hle hxe
      go_wp2
      go_round
      case rel => exact ⟨k + 1, by omega, by go_num, by rw [hst.out, HLE.out]⟩
      case measure => simp [intOf]; omega
    · obtain rfl : k = n := by omega
      go_wp2
      go_ret
      exact ⟨a2, by simp [List.take_take], HW.out, hrd, HL2.out⟩
set_option maxHeartbeats 400000 in
theorem rU8_okR {w : World} {pr pg c : Nat} {a : Option Addr} {bs : List Nat} (h : RD w pr pg a c bs) (hn : 1 ≤ bs.length) :
    Calls Try.prog 48 #[.pointer (some ⟨pr, 0, none⟩)] w (NumRetR w pr pg a c bs 1 (.int .u8 ((bs.getD 0 0 : Nat) : Int))) := by
  have hx : bs.getD 0 0 < 256 := by rw [getD_in _ _ (by omega)]; exact h.2.1.2.1 _ (List.getElem_mem _)
  obtain ⟨m, hm⟩ : ∃ m, m = bs.getD 0 0 := ⟨_, rfl⟩
  rw [← hm] at hx ⊢
  have H1 : Hid (leVal (bs.take 1) = m) := by rw [hm]; exact leVal_one bs hn
  have hmod : (m : Int) % 256 = (m : Int) := by omega
  clear hm
  have HH := Lib.hid h
  clear h
  go_enter Try.func48, Try.ntmps48
  go_wp2_with fail
  refine (number_okR 1 HH.out hn (by omega)).mono ?_
  rintro e w1 ⟨a2, rfl, hw1, hrd, hrel2⟩
  have HL2 := Lib.hid hrel2
  clear hrel2
  rw [H1.out]
  have HW := Lib.hid hw1
  clear hw1
  go_wp2
  go_ret
  exact ⟨a2, rfl, HW.out, hrd, HL2.out⟩

end Go.Proofs.Ytdljihemnfpkaaa
