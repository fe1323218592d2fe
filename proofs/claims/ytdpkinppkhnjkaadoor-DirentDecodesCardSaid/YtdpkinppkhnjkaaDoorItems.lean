/- Lists of items that come in; gabionlaw01.light. -/
import Derived.Test.YtdpkinppkhnjkaaDoorLay
import Derived.Test.YtdpkinppkhnjkaaDoorFrameInts
import Derived.Deep.Slices
namespace Go.Proofs.YtdpkinppkhnjkaaDoor
open Go.RowKit

/-- The items in memory. -/
def InItems (W : World) (a : Option Addr) (n cap : Nat) (K : Nat → Int) (N : Nat → Nat) (A : Nat → Option Addr) (L C : Nat → Nat) (B : Nat → List Nat) : Prop :=
  n ≤ cap ∧ cap ≤ maxLen ∧ (0 < n → ∃ b off, a = some ⟨b, off, none⟩ ∧ ∀ i, i < n → W.cell? ⟨b, off + i * 3, none⟩ = some (.int .i64 (K i)) ∧ W.cell? ⟨b, off + i * 3 + 1, none⟩ = some (.int .u64 (N i : Int)) ∧ W.cell? ⟨b, off + i * 3 + 2, none⟩ = some (.slice (A i) (L i) (C i))) ∧
  ∀ i, i < n → (-9223372036854775808 ≤ K i ∧ K i ≤ 9223372036854775807) ∧ N i < 18446744073709551616 ∧ InK .u8 256 W (A i) (L i) (C i) (B i)
/-- No more items, and no longer ones, than some. -/
def Light (n : Nat) (L : Nat → Nat) : Prop := n ≤ 40 ∧ ∀ i, i < n → L i ≤ 400

theorem inK_below {K : IntKind} {M : Nat} {w w' : World} {a : Option Addr} {len cap : Nat} {ns : List Nat} (h : InK K M w a len cap ns) (hb : Below w.heap.size w w') : InK K M w' a len cap ns :=
  ⟨rowK_below h.1 hb, h.2.1, h.2.2.1, h.2.2.2.1, fun x hx h0 => Nat.lt_of_lt_of_le (h.2.2.2.2 x hx h0) hb.size⟩
theorem items_keep {w w' : World} {a : Option Addr} {n cap : Nat} {K : Nat → Int} {N : Nat → Nat} {A : Nat → Option Addr} {L C : Nat → Nat} {B : Nat → List Nat} (h : InItems w a n cap K N A L C B) (hb : Below w.heap.size w w') : InItems w' a n cap K N A L C B := by
  obtain ⟨h1, h2, h3, h4⟩ := h
  refine ⟨h1, h2, fun h0 => ?_, fun i hi => ⟨(h4 i hi).1, (h4 i hi).2.1, inK_below (h4 i hi).2.2 hb⟩⟩
  obtain ⟨b, off, e, hc⟩ := h3 h0
  refine ⟨b, off, e, fun i hi => ?_⟩
  obtain ⟨c0, c1, c2⟩ := hc i hi
  exact ⟨below_cell hb c0, below_cell hb c1, below_cell hb c2⟩

theorem padTo_len (X : List Nat) (n : Nat) : (padTo X (n : Int)).length ≤ X.length + n := by
  unfold padTo; rw [List.length_append, List.length_replicate]; omega
theorem layItem_len (k : Int) (n : Nat) (bs X : List Nat) (hb : bs.length ≤ 400) : (layItem k n bs X).length ≤ X.length + 600 := by
  unfold layItem
  split
  · rw [List.length_append, Crc.les_len]; omega
  split
  · rw [List.length_append, Crc.les_len]; omega
  split
  · rw [List.length_append]; omega
  split
  · rw [List.length_append, Crc.les_len]; omega
  split
  · rw [List.length_append]; unfold textOf; rw [List.length_cons, List.length_take]; omega
  split
  · have h1 := padTo_len X (n % 600); have h2 : n % 600 < 600 := Nat.mod_lt _ (by omega); omega
  split
  · rw [List.length_append, Crc.les_len]; omega
  · omega
end Go.Proofs.YtdpkinppkhnjkaaDoor
