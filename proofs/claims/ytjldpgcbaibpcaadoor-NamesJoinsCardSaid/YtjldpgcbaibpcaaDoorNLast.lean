/- names.Last. -/
import Derived.Test.YtjldpgcbaibpcaaDoorNJoin
namespace Go.Proofs.YtjldpgcbaibpcaaDoor
open Go.RowKit

def LastRet (w : World) (n : Nat) (xs : List ByteArray) (e : Ending) (w' : World) : Prop :=
  ∃ v', e = .returned (.tuple #[v', .string (if n = 0 then ⟨#[]⟩ else xs.getD (n - 1) ByteArray.empty), .bool (decide (0 < n))]) ∧ StrsOwn w.heap.size w' v' xs.dropLast ∧ Below w.heap.size w w'
set_option maxRecDepth 100000 in
set_option maxHeartbeats 1000000 in
theorem last_any (a : Option Addr) (n c : Nat) (xs : List ByteArray) (w : World) (hr : RowS w a n c xs) (hn : n ≤ 100000) :
    Calls Tryd.prog 20 #[.slice a n c] w (LastRet w n xs) := by
  obtain ⟨h1, h2, h3, h4, h5⟩ := hr
  rcases Nat.eq_zero_or_pos n with h0 | h0
  · subst h0
    have hx : xs = [] := List.eq_nil_of_length_eq_zero h1
    subst hx
    clear h5
    go_enter Tryd.func20, Tryd.ntmps20
    go_wp2_with fail
    go_ret3
    exact ⟨_, rfl, strs_nil _ _, Below.refl _ _⟩
  · obtain ⟨b, off, rfl, hc⟩ := h5 h0
    have q := hc (n - 1) (by omega)
    obtain ⟨x, hx⟩ : ∃ x, xs.getD (n - 1) ByteArray.empty = x := ⟨_, rfl⟩
    rw [hx] at q
    have hsub : (n : Int) - 1 = ((n - 1 : Nat) : Int) := by omega
    obtain ⟨m, hm⟩ : ∃ m, n - 1 = m := ⟨_, rfl⟩
    rw [hm] at q hsub
    have hmn : m < n := by omega
    have hmi : (0 : Int) ≤ (m : Int) := by omega
    have hmi2 : (m : Int) < (n : Int) := by omega
    have hsl := run_upto (some ⟨b, off, none⟩) n c m (by omega)
    have hdl : xs.dropLast = xs.take m := by rw [List.dropLast_eq_take, h1, hm]
    have HCL : Hid (∀ w1, (∀ i, i < n → w1.cell? ⟨b, off + i, none⟩ = some (.string (xs.getD i ByteArray.empty))) → Calls Tryd.prog 32 #[.slice (some ⟨b, off, none⟩) m c] w1 fun e w' => ∃ v', e = .returned v' ∧ StrsOwn w1.heap.size w' v' (xs.take m) ∧ Below w1.heap.size w1 w') := Lib.hid (fun w1 hc1 => by
      refine (Tryd.slices_Clone_string b off m c (xs.take m) w1 (by simp; omega) (by omega) (fun j hj => ?_)).mono ?_
      · rw [List.length_take] at hj
        rw [hc1 j (by omega)]
        simp [List.getD, show j < m by omega]
      · rintro e w' ⟨v', h1', h2', _, h4'⟩
        refine ⟨v', h1', ?_, h4'⟩
        unfold StrsOwn
        have hlm : (xs.take m).length = m := by simp; omega
        rw [hlm]
        rw [List.take_of_length_le (by omega)] at h2'
        exact h2')
    have HC := Lib.hid hc
    have HX : Hid ((if n = 0 then (⟨#[]⟩ : ByteArray) else xs.getD (n - 1) ByteArray.empty) = x) := Lib.hid (by rw [if_neg (by omega)]; exact hx)
    have HDL := Lib.hid hdl
    have HPOS : Hid (decide (0 < n) = true) := Lib.hid (decide_eq_true h0)
    clear hc h5 hx hdl h1 hm h4
    go_enter Tryd.func20, Tryd.ntmps20
    go_wp2_with fail
    go_region_with (first
      | (go_at_call 32; refine (HCL.out w.drew HC.out).mono ?_; rintro e w' ⟨v', rfl, hown', hb'⟩; have q2 := below_cell hb' q))
    all_goals
      go_wp2
      go_ret3
      exact ⟨v', by rw [HX.out, HPOS.out]; rfl, by rw [HDL.out]; exact hown', ((Below.refl _ w).drew).trans hb'⟩
end Go.Proofs.YtjldpgcbaibpcaaDoor
