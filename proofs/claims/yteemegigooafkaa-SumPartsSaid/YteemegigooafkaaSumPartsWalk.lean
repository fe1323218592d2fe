/- SumParts: the walk. -/
import Derived.Test.YteemegigooafkaaSumKnown
import Derived.Test.YteemegigooafkaaRefSum
import Derived.Test.YteemegigooafkaaAppend
import Derived.Test.YteemegigooafkaaFrameParts
namespace Go.Proofs.Yteemegigooafkaa
open Go.RowKit

theorem flat_len (B : Nat → List Nat) (k m : Nat) (h : ∀ i, i < k → (B i).length ≤ m) : (flat B k).length ≤ k * m := by
  induction k with
  | zero => simp [flat]
  | succ k ih =>
    have h1 := ih (fun i hi => h i (by omega))
    have h2 := h k (by omega)
    simp only [flat, List.length_append]
    rw [Nat.succ_mul]; omega

theorem parts_keep {n : Nat} {a : Option Addr} {A : Nat → Option Addr} {L C : Nat → Nat} {w w' : World} (hp : 0 < n → ∃ b off, a = some ⟨b, off, none⟩ ∧ ∀ i, i < n → w.cell? ⟨b, off + i, none⟩ = some (.slice (A i) (L i) (C i))) (hb : Below w.heap.size w w') :
    0 < n → ∃ b off, a = some ⟨b, off, none⟩ ∧ ∀ i, i < n → w'.cell? ⟨b, off + i, none⟩ = some (.slice (A i) (L i) (C i)) := fun h0 => by
  obtain ⟨b, off, h1, h2⟩ := hp h0
  refine ⟨b, off, h1, fun i hi => ?_⟩
  rw [hb.cell (p := ⟨b, off + i, none⟩) (World.block_lt_of_cell? w ⟨b, off + i, none⟩ (h2 i hi))]
  exact h2 i hi

set_option maxRecDepth 100000 in
set_option maxHeartbeats 800000 in
theorem sumParts_walk (a : Option Addr) (n cap : Nat) (A : Nat → Option Addr) (L C : Nat → Nat) (B : Nat → List Nat) (w : World) (hin : InParts w a n cap A L C B) :
    Calls Try.prog 11 #[.slice a n cap] w fun e w' => e = .returned (.bool true) ∧ Below w.heap.size w w' := by
  obtain ⟨hn, _, hp, hrs⟩ := hin
  have hn' := hn
  unfold maxLen at hn'
  by_cases h20 : n ≤ 20
  · go_enter Try.func11, Try.ntmps11
    go_wp2
    go_loopw [3, 4] (fun out i wr => ∃ k : Nat, k ≤ n ∧ i = .int .i64 k ∧ Own w.heap.size wr out (flat B k) ∧ (∀ j, j < k → L j ≤ 300) ∧ Below w.heap.size w wr) (fun _ i _ => n - (intOf i).toNat)
    case atStart => exact ⟨0, by omega, rfl, own_nil _ _, fun j hj => by omega, Below.refl _ _⟩
    case round =>
      obtain ⟨k, hk, rfl, hown, hL, hbel⟩ := hrel
      have hfl : (flat B k).length ≤ 6000 := by
        have := flat_len B k 300 (fun i hi => by have h1 := (hrs i (by omega)).1.1; have h2 := hL i hi; omega)
        omega
      have HLL := Lib.hid hL
      clear hL
      by_cases hlt : k < n
      · obtain ⟨b, off, ha, hc⟩ := hp (by omega)
        have hblk : b < w.heap.size := World.block_lt_of_cell? w ⟨b, off + k, none⟩ (hc k hlt)
        have hck : wr.cell? ⟨b, off + k, none⟩ = some (.slice (A k) (L k) (C k)) := by rw [hbel.cell (p := ⟨b, off + k, none⟩) hblk]; exact hc k hlt
        obtain ⟨hrk, hk1, hk2, hk3⟩ := hrs k hlt
        have hrk' := row_keep hrk hbel (Nat.le_refl _)
        have hLm : L k ≤ 9223372036854775807 := by unfold maxLen at hk2; omega
        have HA := Lib.hid ha
        have HPP := Lib.hid hp
        clear ha hc hp
        rw [HA.out]
        by_cases h300 : L k ≤ 300
        · go_wp2_with (at_builtin; refine wpList_app rfl _ _ rfl w.heap.size _ _ rfl hown (A k) (L k) (C k) (B k) rfl ?c1 ?c2 ?c3 ?c4 ?_)
          case c1 => exact hrk'
          case c2 => exact hk3
          case c3 => exact hbel.size
          case c4 => omega
          intro v1 w1 hap
          clear hown hrk'
          go_wp2
          go_roundw
          case rel => exact ⟨k + 1, by omega, by go_num, hap.own, fun j hj => (by rcases (show j < k ∨ j = k by omega) with h | h; exact HLL.out j h; rw [h]; exact h300), hbel.trans hap.below⟩
          case measure => simp [intOf]; omega
        · go_wp2_with fail
          refine (known_any _).mono ?_
          rintro e w1 ⟨rfl, hb1⟩
          go_wp2
          go_ret
          exact ⟨rfl, bel_trans hbel hb1⟩
      · obtain rfl : k = n := by omega
        obtain ⟨a4, c4, hu, hr4, hm4⟩ := row_of_own hown
        subst hu
        have hp4 : 0 < k → ∃ b off, a = some ⟨b, off, none⟩ ∧ ∀ i, i < k → w.cell? ⟨b, off + i, none⟩ = some (.slice (A i) (L i) (C i)) := hp
        have HPP := Lib.hid hp4
        clear hp hp4
        go_wp2_with fail
        refine (known_any _).mono ?_
        rintro e w1 ⟨rfl, hb1⟩
        have hbel1 := bel_trans hbel hb1
        have hr41 := row_keep hr4 hb1 (Nat.le_refl _)
        go_wp2_with fail
        refine (of_any k a cap A L C B _ hn (parts_keep HPP.out hbel1) (fun i hi => ⟨Nat.le_trans (hrs i hi).2.1 (hrs i hi).2.2.1, row_keep (hrs i hi).1 hbel1 (Nat.le_refl _)⟩)).mono ?_
        rintro e w' ⟨rfl, rfl⟩
        go_wp2_with fail
        refine (refOf_any a4 _ c4 _ _ hr41 hm4).mono ?_
        rintro e w' ⟨rfl, rfl⟩
        go_wp2_with fail
        refine (of_one _ 0 _ a4 _ c4 _ _ (cell_new1 _ _ _) hm4 (row_alloc hr41 _)).mono ?_
        rintro e w' ⟨rfl, rfl⟩
        go_wp2_with fail
        refine (refOf_any a4 _ c4 _ _ (row_alloc hr41 _) hm4).mono ?_
        rintro e w' ⟨rfl, rfl⟩
        go_wp2
        go_ret
        exact ⟨rfl, bel_alloc hbel1 _⟩
  · go_enter Try.func11, Try.ntmps11
    go_wp2_with fail
    refine (known_any _).mono ?_
    rintro e w1 ⟨rfl, hb1⟩
    go_wp2
    go_ret
    exact ⟨rfl, hb1⟩

end Go.Proofs.Yteemegigooafkaa
