/- The reader's Zero. -/
import Derived.Test.YtallambldbhibaaReaderCalls
namespace Go.Proofs.Ytallambldbhibaa
open Go.RowKit

set_option maxHeartbeats 400000 in
theorem rZero_ok {w : World} {pr pg c : Nat} {a : Option Addr} {bs : List Nat} (h : RD w pr pg a c bs) (hz : ∀ i, i < bs.length → bs.getD i 0 = 0) (hl : bs.length ≤ 1000000) :
    Calls Try.prog 135 #[.pointer (some ⟨pr, 0, none⟩)] w fun e w' => e = .returned (.bool true) ∧ Below w.heap.size w w' := by
  obtain ⟨h0, h1, h2⟩ := rd_cells h
  go_enter Try.func135, Try.ntmps135
  go_wp2
  go_loop [12] (fun i => ∃ k : Nat, k ≤ bs.length ∧ i = .int .i64 k) (fun i => bs.length - (intOf i).toNat)
  case atStart => exact ⟨0, by omega, rfl⟩
  case round =>
    obtain ⟨k, hk, rfl⟩ := hrel
    by_cases hlt : k < bs.length
    · obtain ⟨b, off, rfl, hcl⟩ := h.2.1.2.2 (by omega)
      have hck : w.cell? ⟨b, off + k, none⟩ = some (.int .u8 0) := by
        have h9 := hcl k hlt
        rw [hz k hlt] at h9
        exact h9
      clear hcl hz
      go_wp2
      go_round
      case rel => exact ⟨k + 1, by omega, by go_num⟩
      case measure => simp [intOf]; omega
    · go_wp2
      go_ret
      exact ⟨rfl, Below.refl _ _⟩

end Go.Proofs.Ytallambldbhibaa
