/- Lists of items that come in; gabionlaw01.light. -/
import Derived.Test.YtejhdafipjajnaaLay
import Derived.Test.YtejhdafipjajnaaFrameInts
import Derived.Deep.Slices
namespace Go.Proofs.Ytejhdafipjajnaa
open Go.RowKit

/-- The items in memory. -/
def InItems (W : World) (a : Option Addr) (n cap : Nat) (K : Nat → Int) (N : Nat → Nat) (A : Nat → Option Addr) (L C : Nat → Nat) (B : Nat → List Nat) : Prop :=
  n ≤ cap ∧ cap ≤ maxLen ∧ (0 < n → ∃ b off, a = some ⟨b, off, none⟩ ∧ ∀ i, i < n → W.cell? ⟨b, off + i * 3, none⟩ = some (.int .i64 (K i)) ∧ W.cell? ⟨b, off + i * 3 + 1, none⟩ = some (.int .u64 (N i : Int)) ∧ W.cell? ⟨b, off + i * 3 + 2, none⟩ = some (.slice (A i) (L i) (C i))) ∧
  ∀ i, i < n → (-9223372036854775808 ≤ K i ∧ K i ≤ 9223372036854775807) ∧ N i < 18446744073709551616 ∧ InK .u8 256 W (A i) (L i) (C i) (B i)
/-- No more items, and no longer ones, than some. -/
def Light (n : Nat) (L : Nat → Nat) : Prop := n ≤ 40 ∧ ∀ i, i < n → L i ≤ 400

theorem inK_below {K : IntKind} {M : Nat} {w w' : World} {a : Option Addr} {len cap : Nat} {ns : List Nat} (h : InK K M w a len cap ns) (hb : Below w.heap.size w w') : InK K M w' a len cap ns :=
  ⟨rowK_below h.1 hb, h.2.1, h.2.2.1, h.2.2.2.1, fun x hx h0 => Nat.lt_of_lt_of_le (h.2.2.2.2 x hx h0) hb.size⟩
theorem items_keep {w w' : World} {a : Option Addr} {n cap : Nat} {K : Nat → Int} {N : Nat → Nat} {A : Nat → Option Addr} {L C : Nat → Nat} {B : Nat → List Nat} (h : InItems w a n cap K N A L C B) (hb : Below w.heap.size w w') : InItems w' a n cap K N A L C B := by
  obtain ⟨h1, h2, h3, h4⟩ := h
  refine ⟨h1, h2, fun h0 => ?_, fun i hi => ⟨(h4 i hi).1, (h4 i hi).2.1, inK_below (h4 i hi).2.2 hb⟩⟩
  obtain ⟨b, off, e, hc⟩ := h3 h0
  refine ⟨b, off, e, fun i hi => ?_⟩
  obtain ⟨c0, c1, c2⟩ := hc i hi
  exact ⟨below_cell hb c0, below_cell hb c1, below_cell hb c2⟩

set_option maxHeartbeats 400000 in
theorem light_yes (a : Option Addr) (n cap : Nat) (K : Nat → Int) (N : Nat → Nat) (A : Nat → Option Addr) (L C : Nat → Nat) (B : Nat → List Nat) (w : World) (h : InItems w a n cap K N A L C B) (hl : Light n L) :
    Calls Try.prog 8 #[.slice a n cap] w fun e w' => e = .returned (.bool true) ∧ w = w' := by
  obtain ⟨hnc, hcm, hp, hi⟩ := h
  obtain ⟨h40, h400⟩ := hl
  go_enter Try.func8, Try.ntmps8
  go_wp2
  go_loop [3] (fun i => ∃ k : Nat, k ≤ n ∧ i = .int .i64 k) (fun i => n - (intOf i).toNat)
  case atStart => exact ⟨0, by omega, rfl⟩
  case round =>
    obtain ⟨k, hk, rfl⟩ := hrel
    by_cases hlt : k < n
    · obtain ⟨b, off, ha, hc⟩ := hp (by omega)
      have hck := (hc k hlt).2.2
      have hL := h400 k hlt
      have HA := Lib.hid ha
      clear ha hc hp h400
      rw [HA.out]
      go_wp2
      go_round
      case rel => exact ⟨k + 1, by omega, by go_num⟩
      case measure => simp [intOf]; omega
    · go_wp2
      go_ret
      exact ⟨rfl, rfl⟩

set_option maxHeartbeats 400000 in
theorem light_no (a : Option Addr) (n cap : Nat) (K : Nat → Int) (N : Nat → Nat) (A : Nat → Option Addr) (L C : Nat → Nat) (B : Nat → List Nat) (w : World) (h : InItems w a n cap K N A L C B) (hl : ¬ Light n L) :
    Calls Try.prog 8 #[.slice a n cap] w fun e w' => e = .returned (.bool false) ∧ w = w' := by
  obtain ⟨hnc, hcm, hp, hi⟩ := h
  have hnm : n ≤ 9223372036854775807 := by unfold maxLen at hcm; omega
  by_cases h40 : n ≤ 40
  · have hne : ¬ ∀ i, i < n → L i ≤ 400 := fun h => hl ⟨h40, h⟩
    have HNE := Lib.hid hne
    clear hne hl
    go_enter Try.func8, Try.ntmps8
    go_wp2
    go_loop [3] (fun i => ∃ k : Nat, k ≤ n ∧ i = .int .i64 k ∧ Hid (∀ j, j < k → L j ≤ 400)) (fun i => n - (intOf i).toNat)
    case atStart => exact ⟨0, by omega, rfl, Lib.hid (fun j hj => by omega)⟩
    case round =>
      obtain ⟨k, hk, rfl, HB⟩ := hrel
      by_cases hlt : k < n
      · obtain ⟨b, off, ha, hc⟩ := hp (by omega)
        have hck := (hc k hlt).2.2
        have hLm : L k ≤ 9223372036854775807 := by have h1 := (hi k hlt).2.2.2.1; have h2 := (hi k hlt).2.2.2.2.1; unfold maxLen at h2; omega
        have HA := Lib.hid ha
        clear ha hc hp
        rw [HA.out]
        by_cases hL : L k ≤ 400
        · go_wp2
          go_round
          case rel => exact ⟨k + 1, by omega, by go_num, Lib.hid (fun j hj => by rcases (show j < k ∨ j = k by omega) with h | h; exact HB.out j h; rw [h]; exact hL)⟩
          case measure => simp [intOf]; omega
        · go_wp2
          go_ret
          exact ⟨rfl, rfl⟩
      · have hkn : k = n := by omega
        exact absurd (fun i hin => HB.out i (by omega)) HNE.out
  · go_enter Try.func8, Try.ntmps8
    go_wp2
    go_ret
    exact ⟨rfl, rfl⟩

theorem padTo_len (X : List Nat) (n : Nat) : (padTo X (n : Int)).length ≤ X.length + n := by
  unfold padTo; rw [List.length_append, List.length_replicate]; omega
theorem layItem_len (k : Int) (n : Nat) (bs X : List Nat) (hb : bs.length ≤ 400) : (layItem k n bs X).length ≤ X.length + 600 := by
  unfold layItem
  split
  · rw [List.length_append, Crc.les_len]; omega
  split
  · rw [List.length_append, Crc.les_len]; omega
  split
  · rw [List.length_append]; omega
  split
  · rw [List.length_append, Crc.les_len]; omega
  split
  · rw [List.length_append]; unfold textOf; rw [List.length_cons, List.length_take]; omega
  split
  · have h1 := padTo_len X (n % 600); have h2 : n % 600 < 600 := Nat.mod_lt _ (by omega); omega
  split
  · rw [List.length_append, Crc.les_len]; omega
  · omega
theorem lay_any (B pw : Nat) (sv : Value) (X Y : List Nat) (ov : Value) (k : Int) (n m c : Nat) (xa : Option Addr) (bs : List Nat) (w : World) (hw : WR B w pw sv X) (ho : Own B w ov Y) (ha : Aside pw sv ov) (hB : B ≤ w.heap.size) (hn : n < 18446744073709551616)
    (hr : Row w xa m bs) (hnil : xa = none → c = 0) (hm : m ≤ 400) (hlt : 0 < m → ∀ x, xa = some x → x.block < B) (hX : X.length ≤ 100000) (hY : Y.length ≤ 100000) :
    Calls Try.prog 9 #[.pointer (some ⟨pw, 0, none⟩), ov, .agg #[.int .i64 k, .int .u64 (n : Int), .slice xa m c]] w (LayRet B w pw (layItem k n bs X) (layItem k n bs Y)) := by
  by_cases h1 : k = 1
  · subst h1; exact lay_1 B pw sv X Y ov n m c xa w hw ho ha hB hn (by omega) (by omega)
  by_cases h2 : k = 2
  · subst h2; exact lay_2 B pw sv X Y ov n m c xa w hw ho ha hB hn (by omega) (by omega)
  by_cases h3 : k = 3
  · subst h3; exact lay_3 B pw sv X Y ov n m c xa bs w hw ho ha hB hr hnil hm hlt (by omega) (by omega)
  by_cases h4 : k = 4
  · subst h4; exact lay_4 B pw sv X Y ov n m c xa w hw ho ha hB hn (by omega) (by omega)
  by_cases h5 : k = 5
  · subst h5; exact lay_5 B pw sv X Y ov n m c xa bs w hw ho ha hB hr hm hlt (by omega) (by omega)
  by_cases h6 : k = 6
  · subst h6; exact lay_6 B pw sv X Y ov n m c xa w hw ho ha hB (by omega) (by omega)
  by_cases h8 : k = 8
  · subst h8; exact lay_8 B pw sv X Y ov n m c xa w hw ho ha hB hn (by omega) (by omega)
  · have e : ∀ Z, layItem k n bs Z = Z := fun Z => by unfold layItem; rw [if_neg h1, if_neg h2, if_neg h3, if_neg h4, if_neg h5, if_neg h6, if_neg h8]
    rw [e, e]
    exact lay_other B pw sv X Y ov n m c xa w k ⟨h1, h2, h3, h4, h5, h6, h8⟩ hw ho ha hB

end Go.Proofs.Ytejhdafipjajnaa
