/- Rows of numbers; what is laid of them. -/
import Derived.Test.YtallambldbhibaaWriter
import Derived.Test.YtallambldbhibaaRefBytes
namespace Go.Proofs.Ytallambldbhibaa
open Go.RowKit

/-- A slice of numbers in memory. -/
def RowK (K : IntKind) (M : Nat) (w : World) (a : Option Addr) (len : Nat) (ns : List Nat) : Prop :=
  ns.length = len ∧ (∀ x ∈ ns, x < M) ∧ (0 < len → ∃ b off, a = some ⟨b, off, none⟩ ∧ ∀ i, i < len → w.cell? ⟨b, off + i, none⟩ = some (.int K ((ns.getD i 0 : Nat) : Int)))
theorem rowK_cell {K : IntKind} {M : Nat} {w : World} {a : Option Addr} {len k : Nat} {ns : List Nat} (h : RowK K M w a len ns) (hk : k < len) :
    ∃ (b off x : Nat), a = some ⟨b, off, none⟩ ∧ w.cell? ⟨b, off + k, none⟩ = some (.int K (x : Int)) ∧ x < M ∧ Hid (x = ns.getD k 0) := by
  obtain ⟨h1, h2, h3⟩ := h
  obtain ⟨b, off, h4, h5⟩ := h3 (by omega)
  refine ⟨b, off, _, h4, h5 k hk, ?_, rfl⟩
  rw [getD_in _ _ (by omega)]
  exact h2 _ (List.getElem_mem _)
theorem rowK_moved {K : IntKind} {M : Nat} {w w' : World} {pw : Nat} {sv sv' : Value} {a : Option Addr} {len : Nat} {ns : List Nat} (h : RowK K M w a len ns) (hm : Moved w pw sv sv' w') (hfar : 0 < len → ∀ x, a = some x → x.block ≠ pw ∧ some x.block ≠ sv.ownBlock) : RowK K M w' a len ns := by
  obtain ⟨h1, h2, h3⟩ := h
  refine ⟨h1, h2, fun h0 => ?_⟩
  obtain ⟨b, off, h4, h5⟩ := h3 h0
  have hf := hfar h0 _ h4
  refine ⟨b, off, h4, fun i hi => ?_⟩
  have hc := h5 i hi
  rw [World.cell?_of_block (hm.block b (World.block_lt_of_cell? w ⟨b, off + i, none⟩ hc) hf.1 hf.2)]
  exact hc
theorem flat_snoc (s : Nat) (ns : List Nat) (k : Nat) (h : k < ns.length) : (ns.take (k + 1)).flatMap (Crc.les s) = (ns.take k).flatMap (Crc.les s) ++ Crc.les s (ns.getD k 0) := by
  rw [take_snoc_getD ns k h, List.flatMap_append]
  simp
theorem flat_les_len (s : Nat) (l : List Nat) : (l.flatMap (Crc.les s)).length = s * l.length := by
  induction l with
  | nil => rfl
  | cons x l ih => rw [List.flatMap_cons, List.length_append, ih, Crc.les_len, List.length_cons, Nat.mul_succ]; omega
theorem lay_len (s : Nat) (bs ns : List Nat) (k : Nat) (hs : s ≤ 8) : (bs ++ (ns.take k).flatMap (Crc.les s)).length ≤ bs.length + 8 * k := by
  rw [List.length_append, flat_les_len]
  have h1 : (ns.take k).length ≤ k := List.length_take_le _ _
  have h2 : s * (ns.take k).length ≤ 8 * k := Nat.mul_le_mul hs h1
  omega

theorem mul8_wrap {j : Nat} (h : j < 8) : IntKind.i64.wrap (8 * (j : Int)) = ((8 * j : Nat) : Int) := by rw [IntKind.wrap_i64]; omega
theorem byte_lt (n j : Nat) : n / 256 ^ j % 256 < 256 := Nat.mod_lt _ (by omega)
theorem byte_at (n j : Nat) : IntKind.u8.wrap ((n : Int) / 2 ^ (8 * j)) = ((n / 256 ^ j % 256 : Nat) : Int) := by
  have e : (256 : Nat) ^ j = 2 ^ (8 * j) := by rw [Nat.pow_mul]
  rw [IntKind.wrap_u8, e]
  have e2 : ((n : Int) / 2 ^ (8 * j)) = ((n / 2 ^ (8 * j) : Nat) : Int) := by simp
  rw [e2]
  generalize n / 2 ^ (8 * j) = q
  omega
theorem les_byte (j n : Nat) : Crc.les (j + 1) n = Crc.les j n ++ [n / 256 ^ j % 256] := les_snoc j n

theorem cell_alloc_drew {w : World} {a : Addr} {v : Value} (h : w.cell? a = some v) (o : Obj) : (w.alloc o).drew.cell? a = some v := by
  have hlt := World.block_lt_of_cell? w a h
  rw [← h]
  exact World.cell?_of_block (w := w) (Below.heap_alloc w o a.block hlt)
theorem frozen_alloc_drew {w : World} {b off : Nat} (hlt : b < w.heap.size) (h : w.frozen? ⟨b, off, none⟩ = false) (o : Obj) : (w.alloc o).drew.frozen? ⟨b, off, none⟩ = false := by
  rw [← h]
  exact World.frozen?_of_block (w := w) (a := ⟨b, off, none⟩) (Below.heap_alloc w o b hlt)

theorem far_cell {w w' : World} {o : Obj} {row : Option Nat} {b off : Nat} {v : Value} (hg : (w.alloc o).drew.grownBy w' row) (hlt : b < w.heap.size) (hne : row ≠ some b) (h : (w.alloc o).drew.cell? ⟨b, off, none⟩ = some v) : w'.cell? ⟨b, off, none⟩ = some v := by
  rw [World.cell?_of_block (a := ⟨b, off, none⟩) (hg.block b (by simp; omega) (fun e => hne e.symm))]; exact h
theorem far_frozen {w w' : World} {o : Obj} {row : Option Nat} {b off : Nat} (hg : (w.alloc o).drew.grownBy w' row) (hlt : b < w.heap.size) (hne : row ≠ some b) (h : (w.alloc o).drew.frozen? ⟨b, off, none⟩ = false) : w'.frozen? ⟨b, off, none⟩ = false := by
  rw [World.frozen?_of_block (a := ⟨b, off, none⟩) (hg.block b (by simp; omega) (fun e => hne e.symm))]; exact h

theorem apd_lies {B : Nat} {w0 w2 : World} {gg gcap L y : Nat} {sv2 : Value} {bs1 : List Nat} (ho : Own B w0 sv2 bs1) (h : w2.ownsRow B 5 1 (.slice (some ⟨gg, 0, none⟩) (L + 1) gcap) (L + 1) (bs1.map u8v ++ [.int .u8 (y : Int)])) (hL : L = bs1.length) (hy : y < 256)
    (hg : w0.grownBy w2 sv2.ownBlock) (hat : sv2.ownBlock = some gg ∨ gg = w0.heap.size) (hB : B ≤ w0.heap.size) : Apd B w0 sv2 (bs1 ++ [y]) (.slice (some ⟨gg, 0, none⟩) (L + 1) gcap) w2 := by
  subst hL
  refine ⟨⟨?_, fun z hz => ?_⟩, hg, ?_, (Below.refl B w0).grown hg hB (fun k hk => (own_base ho k hk).1)⟩
  · simpa [u8v] using h
  · rw [List.mem_append] at hz
    rcases hz with hz | hz
    · exact ho.2 z hz
    · simp at hz; omega
  · rcases hat with h1 | h1
    · exact .inl h1.symm
    · exact .inr (by rw [← h1]; rfl)
/-- Behind one byte's append onto the writer's own bytes (laid in a block of its own first), and the store of what it gave. -/
theorem wr_lies {B : Nat} {w w2 : World} {pw gg gcap L y : Nat} {sv2 : Value} {bs1 : List Nat} {o : Obj} (hw : WR B w pw sv2 bs1) (h : w2.ownsRow B 5 1 (.slice (some ⟨gg, 0, none⟩) (L + 1) gcap) (L + 1) (bs1.map u8v ++ [.int .u8 (y : Int)])) (hL : L = bs1.length) (hy : y < 256)
    (hg : (w.alloc o).drew.grownBy w2 sv2.ownBlock) (hat : sv2.ownBlock = some gg ∨ gg = w.heap.size + 1) (hB : B ≤ w.heap.size) :
    WR B (w2.setCell ⟨pw, 0, none⟩ (.slice (some ⟨gg, 0, none⟩) (L + 1) gcap)) pw (.slice (some ⟨gg, 0, none⟩) (L + 1) gcap) (bs1 ++ [y]) ∧ Moved w pw sv2 (.slice (some ⟨gg, 0, none⟩) (L + 1) gcap) (w2.setCell ⟨pw, 0, none⟩ (.slice (some ⟨gg, 0, none⟩) (L + 1) gcap)) := by
  have hb : Below w.heap.size w (w.alloc o).drew := ((Below.refl _ w).alloc (Nat.le_refl _) o).drew
  have hw' := wr_keep hw hb
  have ha := apd_lies hw'.2.2.1 h hL hy hg (by rcases hat with h1 | h1; exact .inl h1; exact .inr (by rw [h1]; simp)) (Nat.le_trans hB hb.size)
  have hs := wr_stored hw' ha
  exact ⟨hs.1, (moved_of_below hb pw sv2).trans hs.2⟩

end Go.Proofs.Ytallambldbhibaa
