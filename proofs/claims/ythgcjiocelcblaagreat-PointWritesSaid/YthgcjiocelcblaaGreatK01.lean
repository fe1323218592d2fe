/- The writer in memory; what its calls leave; Raw, Same, Clone, Bytes. -/
import Derived.Test.YthgcjiocelcblaaGreatK00
import Derived.Deep.RegionLaw
import Derived.Deep.AppendLies
import Derived.Lib.SliceRun
namespace Go.Proofs.YthgcjiocelcblaaGreat
open Go.RowKit

/-- A writer: its one field holds bytes of the call's own. -/
def WR (B : Nat) (w : World) (pw : Nat) (sv : Value) (bs : List Nat) : Prop :=
  B ≤ pw ∧ w.heap[pw]? = some (.cells #[sv] 72 (0, 0)) ∧ Own B w sv bs ∧ sv.ownBlock ≠ some pw
/-- What a call of the writer leaves of all other memory. -/
structure Moved (w : World) (pw : Nat) (sv sv' : Value) (w' : World) : Prop where
  os : w'.os = w.os
  tape : w'.tape = w.tape
  output : w'.output = w.output
  size : w.heap.size ≤ w'.heap.size
  block : ∀ k, k < w.heap.size → k ≠ pw → some k ≠ sv.ownBlock → w'.heap[k]? = w.heap[k]?
  where_ : sv'.ownBlock = sv.ownBlock ∨ sv'.ownBlock = none ∨ ∃ k, sv'.ownBlock = some k ∧ w.heap.size ≤ k
theorem Moved.refl (w : World) (pw : Nat) (sv : Value) : Moved w pw sv sv w := ⟨rfl, rfl, rfl, Nat.le_refl _, fun _ _ _ _ => rfl, .inl rfl⟩
theorem Moved.trans {w w1 w2 : World} {pw : Nat} {sv sv1 sv2 : Value} (h : Moved w pw sv sv1 w1) (k : Moved w1 pw sv1 sv2 w2) : Moved w pw sv sv2 w2 := by
  refine ⟨k.os.trans h.os, k.tape.trans h.tape, k.output.trans h.output, Nat.le_trans h.size k.size, fun j hj hp ho => ?_, ?_⟩
  · rw [k.block j (Nat.lt_of_lt_of_le hj h.size) hp ?_, h.block j hj hp ho]
    intro e
    rcases h.where_ with h1 | h1 | ⟨i, h1, h2⟩
    · exact ho (by rw [e, h1])
    · rw [h1] at e; cases e
    · rw [h1] at e; cases e; omega
  · rcases k.where_ with h1 | h1 | ⟨i, h1, h2⟩
    · rw [h1]; exact h.where_
    · exact .inr (.inl h1)
    · exact .inr (.inr ⟨i, h1, Nat.le_trans h.size h2⟩)
theorem Moved.below {B : Nat} {w w' : World} {pw : Nat} {sv sv' : Value} {bs : List Nat} (h : Moved w pw sv sv' w') (hw : WR B w pw sv bs) (hB : B ≤ w.heap.size) : Below B w w' :=
  ⟨h.os, h.tape, h.output, h.size, fun k hk => h.block k (by omega) (by have := hw.1; omega) (fun e => by have := own_base hw.2.2.1 k e.symm; omega)⟩
/-- Memory is made: the writer is as it was. -/
theorem moved_of_below {w w' : World} (hb : Below w.heap.size w w') (pw : Nat) (sv : Value) : Moved w pw sv sv w' :=
  ⟨hb.os, hb.tape, hb.output, hb.size, fun k hk _ _ => hb.block k hk, .inl rfl⟩
theorem wr_keep {B : Nat} {w w' : World} {pw : Nat} {sv : Value} {bs : List Nat} (h : WR B w pw sv bs) (hb : Below w.heap.size w w') : WR B w' pw sv bs := by
  obtain ⟨h1, h2, h3, h4⟩ := h
  have hlt : pw < w.heap.size := by
    rcases Nat.lt_or_ge pw w.heap.size with h | h
    · exact h
    · rw [Array.getElem?_eq_none h] at h2; cases h2
  refine ⟨h1, by rw [hb.block pw hlt]; exact h2, ⟨⟨h3.1.1, ?_⟩, h3.2⟩, h4⟩
  rcases h3.1.2 with h0 | ⟨g, cap, cur, e1, e2, e3, e4⟩
  · exact .inl h0
  · refine .inr ⟨g, cap, cur, e1, e2, ?_, e4⟩
    have hg := own_base h3 g (by rw [e1]; rfl)
    rw [hb.block g hg.2]; exact e3
theorem wr_lt {B : Nat} {w : World} {pw : Nat} {sv : Value} {bs : List Nat} (h : WR B w pw sv bs) : pw < w.heap.size := by
  rcases Nat.lt_or_ge pw w.heap.size with h0 | h0
  · exact h0
  · have := h.2.1; rw [Array.getElem?_eq_none h0] at this; cases this
theorem wr_cell {B : Nat} {w : World} {pw : Nat} {sv : Value} {bs : List Nat} (h : WR B w pw sv bs) : w.cell? ⟨pw, 0, none⟩ = some sv := by
  simp [World.cell?, h.2.1]
theorem wr_frozen {B : Nat} {w : World} {pw : Nat} {sv : Value} {bs : List Nat} (h : WR B w pw sv bs) : w.frozen? ⟨pw, 0, none⟩ = false := by
  simp [World.frozen?, h.2.1]
theorem wr_shape {B : Nat} {w : World} {pw : Nat} {sv : Value} {bs : List Nat} (h : WR B w pw sv bs) : ∃ a c, sv = .slice a bs.length c ∧ Row w a bs.length bs ∧ (a = none → c = 0) ∧ bs.length ≤ maxLen := by
  obtain ⟨a, c, h1, h2, h3⟩ := row_of_own h.2.2.1
  refine ⟨a, c, h1, h2, fun ha => ?_, h3⟩
  rcases h.2.2.1.1.2 with ⟨e, _⟩ | ⟨g, cap, cur, e, _⟩
  · rw [h1] at e
    simp only [Value.slice.injEq] at e
    exact e.2.2
  · rw [h1] at e
    simp only [Value.slice.injEq] at e
    rw [ha] at e
    cases e.1
/-- What a call of the writer ends with. -/
def WRet (w : World) (pw B : Nat) (sv : Value) (bs : List Nat) (e : Ending) (w' : World) : Prop :=
  e = .returned (.pointer (some ⟨pw, 0, none⟩)) ∧ ∃ sv', WR B w' pw sv' bs ∧ Moved w pw sv sv' w'

/-- Behind an append onto the writer's own bytes, and the store of what it gave. -/
theorem wr_stored {B : Nat} {w w1 : World} {pw : Nat} {sv sv1 : Value} {bs bs1 : List Nat} (h : WR B w pw sv bs) (ha : Apd B w sv bs1 sv1 w1) :
    WR B (w1.setCell ⟨pw, 0, none⟩ sv1) pw sv1 bs1 ∧ Moved w pw sv sv1 (w1.setCell ⟨pw, 0, none⟩ sv1) := by
  have hlt := wr_lt h
  have h1 : w1.heap[pw]? = some (.cells #[sv] 72 (0, 0)) := by rw [ha.grown.block pw hlt (fun e => h.2.2.2 e.symm)]; exact h.2.1
  have hne : sv1.ownBlock ≠ some pw := by
    rcases ha.where_ with e | e
    · rw [e]; exact h.2.2.2
    · rw [e]; intro e2; cases e2; omega
  have hs : (w1.setCell ⟨pw, 0, none⟩ sv1).heap[pw]? = some (.cells #[sv1] 72 (0, 0)) := by
    have := heap_setCell_same w1 pw 0 #[sv] 72 sv1 h1
    simpa using this
  refine ⟨⟨h.1, hs, ⟨⟨ha.own.1.1, ?_⟩, ha.own.2⟩, hne⟩, ⟨ha.grown.os, ha.grown.tape, ha.grown.output, by have := ha.grown.size; simpa using this, fun k hk hp ho => ?_, ?_⟩⟩
  · rcases ha.own.1.2 with h0 | ⟨g, cap, cur, e1, e2, e3, e4⟩
    · exact .inl h0
    · refine .inr ⟨g, cap, cur, e1, e2, ?_, e4⟩
      have hg : g ≠ pw := fun e => hne (by rw [e1, e]; rfl)
      rw [Below.heap_setCell w1 ⟨pw, 0, none⟩ sv1 g hg]; exact e3
  · rw [Below.heap_setCell w1 ⟨pw, 0, none⟩ sv1 k hp]
    exact ha.grown.block k hk ho
  · rcases ha.where_ with e | e
    · exact .inl e
    · exact .inr (.inr ⟨_, e, Nat.le_refl _⟩)

set_option maxHeartbeats 400000 in
theorem raw_any (pw B : Nat) (sv : Value) (bs : List Nat) (w : World) (hw : WR B w pw sv bs) (hB : B ≤ w.heap.size) (xa : Option Addr) (m c : Nat) (cs : List Nat) (hr : Row w xa m cs) (hc : xa = none → c = 0) (hlen : bs.length + m ≤ 140737488355328) :
    Calls Tryz.prog 51 #[.pointer (some ⟨pw, 0, none⟩), .slice xa m c] w (WRet w pw B sv (bs ++ cs)) := by
  have hcell := wr_cell hw
  have hfr := wr_frozen hw
  go_enter Tryz.func51, Tryz.ntmps51
  go_wp2_with (at_builtin; refine wpList_app rfl _ _ rfl B sv bs rfl hw.2.2.1 _ _ _ cs rfl hr hc hB hlen ?_)
  intro v1 w1 hap
  obtain ⟨a1, c1, hv1, _⟩ := row_of_own hap.own
  rw [List.length_append] at hv1
  have hst := wr_stored hw hap
  subst hv1
  have hcell1 : w1.cell? ⟨pw, 0, none⟩ = some sv := by rw [World.cell?_of_block (hap.grown.block pw (wr_lt hw) (fun e => hw.2.2.2 e.symm))]; exact hcell
  have hfr1 : w1.frozen? ⟨pw, 0, none⟩ = false := by rw [World.frozen?_of_block (hap.grown.block pw (wr_lt hw) (fun e => hw.2.2.2 e.symm))]; exact hfr
  clear hcell hfr
  go_wp2
  go_ret
  exact ⟨rfl, _, hst.1, hst.2⟩

end Go.Proofs.YthgcjiocelcblaaGreat

namespace Go.Proofs.YthgcjiocelcblaaGreat
open Go.RowKit

/-- A slice of numbers in memory. -/
def RowK (K : IntKind) (M : Nat) (w : World) (a : Option Addr) (len : Nat) (ns : List Nat) : Prop :=
  ns.length = len ∧ (∀ x ∈ ns, x < M) ∧ (0 < len → ∃ b off, a = some ⟨b, off, none⟩ ∧ ∀ i, i < len → w.cell? ⟨b, off + i, none⟩ = some (.int K ((ns.getD i 0 : Nat) : Int)))
theorem rowK_cell {K : IntKind} {M : Nat} {w : World} {a : Option Addr} {len k : Nat} {ns : List Nat} (h : RowK K M w a len ns) (hk : k < len) :
    ∃ (b off x : Nat), a = some ⟨b, off, none⟩ ∧ w.cell? ⟨b, off + k, none⟩ = some (.int K (x : Int)) ∧ x < M ∧ Hid (x = ns.getD k 0) := by
  obtain ⟨h1, h2, h3⟩ := h
  obtain ⟨b, off, h4, h5⟩ := h3 (by omega)
  refine ⟨b, off, _, h4, h5 k hk, ?_, rfl⟩
  rw [getD_in _ _ (by omega)]
  exact h2 _ (List.getElem_mem _)
theorem rowK_moved {K : IntKind} {M : Nat} {w w' : World} {pw : Nat} {sv sv' : Value} {a : Option Addr} {len : Nat} {ns : List Nat} (h : RowK K M w a len ns) (hm : Moved w pw sv sv' w') (hfar : 0 < len → ∀ x, a = some x → x.block ≠ pw ∧ some x.block ≠ sv.ownBlock) : RowK K M w' a len ns := by
  obtain ⟨h1, h2, h3⟩ := h
  refine ⟨h1, h2, fun h0 => ?_⟩
  obtain ⟨b, off, h4, h5⟩ := h3 h0
  have hf := hfar h0 _ h4
  refine ⟨b, off, h4, fun i hi => ?_⟩
  have hc := h5 i hi
  rw [World.cell?_of_block (hm.block b (World.block_lt_of_cell? w ⟨b, off + i, none⟩ hc) hf.1 hf.2)]
  exact hc
theorem flat_snoc (s : Nat) (ns : List Nat) (k : Nat) (h : k < ns.length) : (ns.take (k + 1)).flatMap (Crc.les s) = (ns.take k).flatMap (Crc.les s) ++ Crc.les s (ns.getD k 0) := by
  rw [take_snoc_getD ns k h, List.flatMap_append]
  simp
theorem flat_les_len (s : Nat) (l : List Nat) : (l.flatMap (Crc.les s)).length = s * l.length := by
  induction l with
  | nil => rfl
  | cons x l ih => rw [List.flatMap_cons, List.length_append, ih, Crc.les_len, List.length_cons, Nat.mul_succ]; omega
theorem lay_len (s : Nat) (bs ns : List Nat) (k : Nat) (hs : s ≤ 8) : (bs ++ (ns.take k).flatMap (Crc.les s)).length ≤ bs.length + 8 * k := by
  rw [List.length_append, flat_les_len]
  have h1 : (ns.take k).length ≤ k := List.length_take_le _ _
  have h2 : s * (ns.take k).length ≤ 8 * k := Nat.mul_le_mul hs h1
  omega

theorem mul8_wrap {j : Nat} (h : j < 8) : IntKind.i64.wrap (8 * (j : Int)) = ((8 * j : Nat) : Int) := by rw [IntKind.wrap_i64]; omega
theorem byte_lt (n j : Nat) : n / 256 ^ j % 256 < 256 := Nat.mod_lt _ (by omega)
theorem byte_at (n j : Nat) : IntKind.u8.wrap ((n : Int) / 2 ^ (8 * j)) = ((n / 256 ^ j % 256 : Nat) : Int) := by
  have e : (256 : Nat) ^ j = 2 ^ (8 * j) := by rw [Nat.pow_mul]
  rw [IntKind.wrap_u8, e]
  have e2 : ((n : Int) / 2 ^ (8 * j)) = ((n / 2 ^ (8 * j) : Nat) : Int) := by simp
  rw [e2]
  generalize n / 2 ^ (8 * j) = q
  omega
theorem les_byte (j n : Nat) : Crc.les (j + 1) n = Crc.les j n ++ [n / 256 ^ j % 256] := les_snoc j n

theorem cell_alloc_drew {w : World} {a : Addr} {v : Value} (h : w.cell? a = some v) (o : Obj) : (w.alloc o).drew.cell? a = some v := by
  have hlt := World.block_lt_of_cell? w a h
  rw [← h]
  exact World.cell?_of_block (w := w) (Below.heap_alloc w o a.block hlt)
theorem frozen_alloc_drew {w : World} {b off : Nat} (hlt : b < w.heap.size) (h : w.frozen? ⟨b, off, none⟩ = false) (o : Obj) : (w.alloc o).drew.frozen? ⟨b, off, none⟩ = false := by
  rw [← h]
  exact World.frozen?_of_block (w := w) (a := ⟨b, off, none⟩) (Below.heap_alloc w o b hlt)

theorem far_cell {w w' : World} {o : Obj} {row : Option Nat} {b off : Nat} {v : Value} (hg : (w.alloc o).drew.grownBy w' row) (hlt : b < w.heap.size) (hne : row ≠ some b) (h : (w.alloc o).drew.cell? ⟨b, off, none⟩ = some v) : w'.cell? ⟨b, off, none⟩ = some v := by
  rw [World.cell?_of_block (a := ⟨b, off, none⟩) (hg.block b (by simp; omega) (fun e => hne e.symm))]; exact h
theorem far_frozen {w w' : World} {o : Obj} {row : Option Nat} {b off : Nat} (hg : (w.alloc o).drew.grownBy w' row) (hlt : b < w.heap.size) (hne : row ≠ some b) (h : (w.alloc o).drew.frozen? ⟨b, off, none⟩ = false) : w'.frozen? ⟨b, off, none⟩ = false := by
  rw [World.frozen?_of_block (a := ⟨b, off, none⟩) (hg.block b (by simp; omega) (fun e => hne e.symm))]; exact h

theorem apd_lies {B : Nat} {w0 w2 : World} {gg gcap L y : Nat} {sv2 : Value} {bs1 : List Nat} (ho : Own B w0 sv2 bs1) (h : w2.ownsRow B 5 1 (.slice (some ⟨gg, 0, none⟩) (L + 1) gcap) (L + 1) (bs1.map u8v ++ [.int .u8 (y : Int)])) (hL : L = bs1.length) (hy : y < 256)
    (hg : w0.grownBy w2 sv2.ownBlock) (hat : sv2.ownBlock = some gg ∨ gg = w0.heap.size) (hB : B ≤ w0.heap.size) : Apd B w0 sv2 (bs1 ++ [y]) (.slice (some ⟨gg, 0, none⟩) (L + 1) gcap) w2 := by
  subst hL
  refine ⟨⟨?_, fun z hz => ?_⟩, hg, ?_, (Below.refl B w0).grown hg hB (fun k hk => (own_base ho k hk).1)⟩
  · simpa [u8v] using h
  · rw [List.mem_append] at hz
    rcases hz with hz | hz
    · exact ho.2 z hz
    · simp at hz; omega
  · rcases hat with h1 | h1
    · exact .inl h1.symm
    · exact .inr (by rw [← h1]; rfl)
/-- Behind one byte's append onto the writer's own bytes (laid in a block of its own first), and the store of what it gave. -/
theorem wr_lies {B : Nat} {w w2 : World} {pw gg gcap L y : Nat} {sv2 : Value} {bs1 : List Nat} {o : Obj} (hw : WR B w pw sv2 bs1) (h : w2.ownsRow B 5 1 (.slice (some ⟨gg, 0, none⟩) (L + 1) gcap) (L + 1) (bs1.map u8v ++ [.int .u8 (y : Int)])) (hL : L = bs1.length) (hy : y < 256)
    (hg : (w.alloc o).drew.grownBy w2 sv2.ownBlock) (hat : sv2.ownBlock = some gg ∨ gg = w.heap.size + 1) (hB : B ≤ w.heap.size) :
    WR B (w2.setCell ⟨pw, 0, none⟩ (.slice (some ⟨gg, 0, none⟩) (L + 1) gcap)) pw (.slice (some ⟨gg, 0, none⟩) (L + 1) gcap) (bs1 ++ [y]) ∧ Moved w pw sv2 (.slice (some ⟨gg, 0, none⟩) (L + 1) gcap) (w2.setCell ⟨pw, 0, none⟩ (.slice (some ⟨gg, 0, none⟩) (L + 1) gcap)) := by
  have hb : Below w.heap.size w (w.alloc o).drew := ((Below.refl _ w).alloc (Nat.le_refl _) o).drew
  have hw' := wr_keep hw hb
  have ha := apd_lies hw'.2.2.1 h hL hy hg (by rcases hat with h1 | h1; exact .inl h1; exact .inr (by rw [h1]; simp)) (Nat.le_trans hB hb.size)
  have hs := wr_stored hw' ha
  exact ⟨hs.1, (moved_of_below hb pw sv2).trans hs.2⟩

end Go.Proofs.YthgcjiocelcblaaGreat

namespace Go.Proofs.YthgcjiocelcblaaGreat
open Go.RowKit

set_option maxRecDepth 100000 in
set_option maxHeartbeats 800000 in
theorem lay16_any (pw B : Nat) (sv : Value) (bs : List Nat) (w : World) (hw : WR B w pw sv bs) (hB : B ≤ w.heap.size) (xa : Option Addr) (m c : Nat) (ns : List Nat)
    (hr : RowK .u16 65536 w xa m ns) (hfar : 0 < m → ∀ x, xa = some x → x.block ≠ pw ∧ some x.block ≠ sv.ownBlock) (hm : m ≤ 100000) (hlen : bs.length ≤ 1000000) :
    Calls Tryz.prog 106 #[.pointer (some ⟨pw, 0, none⟩), .int .i64 2, .slice xa m c] w (WRet w pw B sv (bs ++ ns.flatMap (Crc.les 2))) := by
  obtain ⟨i0, hi, hz0, hz1, hz2⟩ := info_parts info_u8
  go_enter Tryz.func106, Tryz.ntmps106
  go_wp2
  go_loopw [14] (fun i wr => ∃ (k : Nat) (sv1 : Value), k ≤ m ∧ i = .int .i64 k ∧ WR B wr pw sv1 (bs ++ (ns.take k).flatMap (Crc.les 2)) ∧ Moved w pw sv sv1 wr) (fun i _ => m - (intOf i).toNat)
  case atStart => exact ⟨0, sv, by omega, rfl, by simpa using hw, Moved.refl _ _ _⟩
  case round =>
    obtain ⟨k, sv1, hk, rfl, hw1, hmv⟩ := hrel
    by_cases hlt : k < m
    · obtain ⟨b, off, n, ha, hcn, hn, HN⟩ := rowK_cell (rowK_moved hr hmv hfar) hlt
      have HT := Lib.hid (flat_snoc 2 ns k (by have := hr.1; omega))
      have HL := Lib.hid (lay_len 2 bs ns k (by omega))
      have HA := Lib.hid ha
      clear ha
      rw [HA.out]
      go_wp2
      obtain ⟨wo, hwo⟩ : ∃ wo : World, wo = wr := ⟨_, rfl⟩
      rw [← hwo] at hw1 hmv hcn ⊢
      clear hwo
      obtain ⟨X, hX⟩ : ∃ X, X = bs ++ (ns.take k).flatMap (Crc.les 2) := ⟨_, rfl⟩
      rw [← hX] at hw1 HL
      have HX := Lib.hid hX
      clear hX
      go_loopw [19] (fun i wr => ∃ (j : Nat) (sv2 : Value), j ≤ 2 ∧ i = .int .i64 j ∧ WR B wr pw sv2 (X ++ Crc.les j n) ∧ Moved w pw sv sv2 wr) (fun i _ => 2 - (intOf i).toNat)
      case atStart => exact ⟨0, sv1, by omega, rfl, by simpa [Crc.les] using hw1, hmv⟩
      case round =>
        obtain ⟨j, sv2, hj, rfl, hw2, hmv2⟩ := hrel
        clear hw1 hmv hcn
        by_cases hlj : j < 2
        · obtain ⟨a1, c1, hv1, _, hnil1, hm1⟩ := wr_shape hw2
          have hrow := hw2.2.2.1.1
          have hcell := wr_cell hw2
          have hfr := wr_frozen hw2
          have hlt2 := wr_lt hw2
          have hob := hw2.2.2.2
          have hBw : B ≤ wr.heap.size := Nat.le_trans hB hmv2.size
          have hll := HL.out
          have hle : (X ++ Crc.les j n).length ≤ 2000000 := by rw [List.length_append, Crc.les_len]; omega
          obtain ⟨L, hL⟩ : ∃ L, L = (X ++ Crc.les j n).length := ⟨_, rfl⟩
          rw [← hL] at hle hv1 hm1 hrow
          have HLL := Lib.hid hL
          clear hL hll
          subst hv1
          have e1 := mul8_wrap (show j < 8 by omega)
          have hy := byte_lt n j
          have e3 := byte_at n j
          have HY := Lib.hid (les_byte j n)
          obtain ⟨s, hs⟩ : ∃ s, s = 8 * j := ⟨_, rfl⟩
          obtain ⟨y, hyy⟩ : ∃ y, y = n / 256 ^ j % 256 := ⟨_, rfl⟩
          rw [← hs] at e1 e3
          rw [← hyy] at e3 hy HY
          have hs0 : (0 : Int) ≤ (s : Int) := by omega
          have e2 : min s 16 = s := by omega
          clear hs hyy
          go_wp2
          have hcA := cell_alloc_drew hcell (.cells #[.int .u8 (y : Int)] 5)
          have hfA := frozen_alloc_drew hlt2 hfr (.cells #[.int .u8 (y : Int)] 5)
          go_region_law (first
            | (refine step_append_lies _ (by rfl) _ _ _ (by rfl) B 5 i0 _ 1 1 Tryz.underlying28 hi hz0 hz1 hz2 rfl (by omega) (.slice a1 L c1) L _ (by rfl) ((hrow.alloc _).drew) ⟨wr.heap.size, 0, none⟩ 1 1 [.int .u8 (y : Int)] (by rfl) (by rfl) (World.news_of_block (cs := #[.int .u8 (y : Int)]) (t := 5) (fr := (0, 0)) (heap_alloc_new wr _)) (by simp [Value.oneCell']) (by omega) (by unfold maxLen; omega) (by omega) (by simp; omega) (wr.heap.size + 1) (by simp) ?_; intro gg gcap w2 hown1 hgrow hat hlt3; have hc2 := far_cell hgrow hlt2 hob hcA; have hf2 := far_frozen hgrow hlt2 hob hfA))
          all_goals
            have hst := wr_lies hw2 hown1 HLL.out hy hgrow hat hBw
            rw [List.append_assoc, ← HY.out] at hst
            clear hown1 hgrow hat hlt3 hc2 hf2 hrow hcell hfr hcA hfA hw2 hob e1 e2 e3
            go_wp2
            go_roundw
            case rel => exact ⟨j + 1, _, by omega, by go_num, hst.1, hmv2.trans hst.2⟩
            case measure => simp [intOf]; omega
        · obtain rfl : j = 2 := by omega
          have HF : Hid (bs ++ (ns.take (k + 1)).flatMap (Crc.les 2) = X ++ Crc.les 2 n) := by
            unfold Hid
            rw [HT.out, HX.out, HN.out, List.append_assoc]
          go_wp2
          go_roundw
          case rel => exact ⟨k + 1, sv2, by omega, by go_num, by rw [HF.out]; exact hw2, hmv2⟩
          case measure => simp [intOf]; omega
    · obtain rfl : k = m := by omega
      have hk2 : ns.take k = ns := by rw [← hr.1, List.take_length]
      rw [hk2] at hw1
      clear hk2
      go_wp2
      go_ret
      exact ⟨rfl, sv1, hw1, hmv⟩

end Go.Proofs.YthgcjiocelcblaaGreat

namespace Go.Proofs.YthgcjiocelcblaaGreat
open Go.RowKit

set_option maxRecDepth 100000 in
set_option maxHeartbeats 800000 in
theorem lay32_any (pw B : Nat) (sv : Value) (bs : List Nat) (w : World) (hw : WR B w pw sv bs) (hB : B ≤ w.heap.size) (xa : Option Addr) (m c : Nat) (ns : List Nat)
    (hr : RowK .u32 4294967296 w xa m ns) (hfar : 0 < m → ∀ x, xa = some x → x.block ≠ pw ∧ some x.block ≠ sv.ownBlock) (hm : m ≤ 100000) (hlen : bs.length ≤ 1000000) :
    Calls Tryz.prog 45 #[.pointer (some ⟨pw, 0, none⟩), .int .i64 4, .slice xa m c] w (WRet w pw B sv (bs ++ ns.flatMap (Crc.les 4))) := by
  obtain ⟨i0, hi, hz0, hz1, hz2⟩ := info_parts info_u8
  go_enter Tryz.func45, Tryz.ntmps45
  go_wp2
  go_loopw [14] (fun i wr => ∃ (k : Nat) (sv1 : Value), k ≤ m ∧ i = .int .i64 k ∧ WR B wr pw sv1 (bs ++ (ns.take k).flatMap (Crc.les 4)) ∧ Moved w pw sv sv1 wr) (fun i _ => m - (intOf i).toNat)
  case atStart => exact ⟨0, sv, by omega, rfl, by simpa using hw, Moved.refl _ _ _⟩
  case round =>
    obtain ⟨k, sv1, hk, rfl, hw1, hmv⟩ := hrel
    by_cases hlt : k < m
    · obtain ⟨b, off, n, ha, hcn, hn, HN⟩ := rowK_cell (rowK_moved hr hmv hfar) hlt
      have HT := Lib.hid (flat_snoc 4 ns k (by have := hr.1; omega))
      have HL := Lib.hid (lay_len 4 bs ns k (by omega))
      have HA := Lib.hid ha
      clear ha
      rw [HA.out]
      go_wp2
      obtain ⟨wo, hwo⟩ : ∃ wo : World, wo = wr := ⟨_, rfl⟩
      rw [← hwo] at hw1 hmv hcn ⊢
      clear hwo
      obtain ⟨X, hX⟩ : ∃ X, X = bs ++ (ns.take k).flatMap (Crc.les 4) := ⟨_, rfl⟩
      rw [← hX] at hw1 HL
      have HX := Lib.hid hX
      clear hX
      go_loopw [19] (fun i wr => ∃ (j : Nat) (sv2 : Value), j ≤ 4 ∧ i = .int .i64 j ∧ WR B wr pw sv2 (X ++ Crc.les j n) ∧ Moved w pw sv sv2 wr) (fun i _ => 4 - (intOf i).toNat)
      case atStart => exact ⟨0, sv1, by omega, rfl, by simpa [Crc.les] using hw1, hmv⟩
      case round =>
        obtain ⟨j, sv2, hj, rfl, hw2, hmv2⟩ := hrel
        clear hw1 hmv hcn
        by_cases hlj : j < 4
        · obtain ⟨a1, c1, hv1, _, hnil1, hm1⟩ := wr_shape hw2
          have hrow := hw2.2.2.1.1
          have hcell := wr_cell hw2
          have hfr := wr_frozen hw2
          have hlt2 := wr_lt hw2
          have hob := hw2.2.2.2
          have hBw : B ≤ wr.heap.size := Nat.le_trans hB hmv2.size
          have hll := HL.out
          have hle : (X ++ Crc.les j n).length ≤ 2000000 := by rw [List.length_append, Crc.les_len]; omega
          obtain ⟨L, hL⟩ : ∃ L, L = (X ++ Crc.les j n).length := ⟨_, rfl⟩
          rw [← hL] at hle hv1 hm1 hrow
          have HLL := Lib.hid hL
          clear hL hll
          subst hv1
          have e1 := mul8_wrap (show j < 8 by omega)
          have hy := byte_lt n j
          have e3 := byte_at n j
          have HY := Lib.hid (les_byte j n)
          obtain ⟨s, hs⟩ : ∃ s, s = 8 * j := ⟨_, rfl⟩
          obtain ⟨y, hyy⟩ : ∃ y, y = n / 256 ^ j % 256 := ⟨_, rfl⟩
          rw [← hs] at e1 e3
          rw [← hyy] at e3 hy HY
          have hs0 : (0 : Int) ≤ (s : Int) := by omega
          have e2 : min s 32 = s := by omega
          clear hs hyy
          go_wp2
          have hcA := cell_alloc_drew hcell (.cells #[.int .u8 (y : Int)] 5)
          have hfA := frozen_alloc_drew hlt2 hfr (.cells #[.int .u8 (y : Int)] 5)
          go_region_law (first
            | (refine step_append_lies _ (by rfl) _ _ _ (by rfl) B 5 i0 _ 1 1 Tryz.underlying28 hi hz0 hz1 hz2 rfl (by omega) (.slice a1 L c1) L _ (by rfl) ((hrow.alloc _).drew) ⟨wr.heap.size, 0, none⟩ 1 1 [.int .u8 (y : Int)] (by rfl) (by rfl) (World.news_of_block (cs := #[.int .u8 (y : Int)]) (t := 5) (fr := (0, 0)) (heap_alloc_new wr _)) (by simp [Value.oneCell']) (by omega) (by unfold maxLen; omega) (by omega) (by simp; omega) (wr.heap.size + 1) (by simp) ?_; intro gg gcap w2 hown1 hgrow hat hlt3; have hc2 := far_cell hgrow hlt2 hob hcA; have hf2 := far_frozen hgrow hlt2 hob hfA))
          all_goals
            have hst := wr_lies hw2 hown1 HLL.out hy hgrow hat hBw
            rw [List.append_assoc, ← HY.out] at hst
            clear hown1 hgrow hat hlt3 hc2 hf2 hrow hcell hfr hcA hfA hw2 hob e1 e2 e3
            go_wp2
            go_roundw
            case rel => exact ⟨j + 1, _, by omega, by go_num, hst.1, hmv2.trans hst.2⟩
            case measure => simp [intOf]; omega
        · obtain rfl : j = 4 := by omega
          have HF : Hid (bs ++ (ns.take (k + 1)).flatMap (Crc.les 4) = X ++ Crc.les 4 n) := by
            unfold Hid
            rw [HT.out, HX.out, HN.out, List.append_assoc]
          go_wp2
          go_roundw
          case rel => exact ⟨k + 1, sv2, by omega, by go_num, by rw [HF.out]; exact hw2, hmv2⟩
          case measure => simp [intOf]; omega
    · obtain rfl : k = m := by omega
      have hk2 : ns.take k = ns := by rw [← hr.1, List.take_length]
      rw [hk2] at hw1
      clear hk2
      go_wp2
      go_ret
      exact ⟨rfl, sv1, hw1, hmv⟩

end Go.Proofs.YthgcjiocelcblaaGreat

namespace Go.Proofs.YthgcjiocelcblaaGreat
open Go.RowKit

end Go.Proofs.YthgcjiocelcblaaGreat

namespace Go.Proofs.YthgcjiocelcblaaGreat
open Go.RowKit

set_option maxHeartbeats 400000 in
theorem wU8_any (pw B : Nat) (sv : Value) (bs : List Nat) (w : World) (hw : WR B w pw sv bs) (hB : B ≤ w.heap.size) (xa : Option Addr) (m c : Nat) (cs : List Nat) (hr : Row w xa m cs) (hc : xa = none → c = 0) (hlen : bs.length + m ≤ 140737488355328) :
    Calls Tryz.prog 90 #[.pointer (some ⟨pw, 0, none⟩), .slice xa m c] w (WRet w pw B sv (bs ++ cs)) := by
  go_enter Tryz.func90, Tryz.ntmps90
  go_wp2_with fail
  refine (raw_any pw B sv bs w hw hB xa m c cs hr hc hlen).mono ?_
  rintro e w1 ⟨rfl, h⟩
  go_wp2
  go_ret
  exact ⟨rfl, h⟩
set_option maxHeartbeats 400000 in
theorem wU16_any (pw B : Nat) (sv : Value) (bs : List Nat) (w : World) (hw : WR B w pw sv bs) (hB : B ≤ w.heap.size) (xa : Option Addr) (m c : Nat) (ns : List Nat)
    (hr : RowK .u16 65536 w xa m ns) (hfar : 0 < m → ∀ x, xa = some x → x.block ≠ pw ∧ some x.block ≠ sv.ownBlock) (hm : m ≤ 100000) (hlen : bs.length ≤ 1000000) :
    Calls Tryz.prog 89 #[.pointer (some ⟨pw, 0, none⟩), .slice xa m c] w (WRet w pw B sv (bs ++ ns.flatMap (Crc.les 2))) := by
  go_enter Tryz.func89, Tryz.ntmps89
  go_wp2_with fail
  refine (lay16_any pw B sv bs w hw hB xa m c ns hr hfar hm hlen).mono ?_
  rintro e w1 ⟨rfl, h⟩
  go_wp2
  go_ret
  exact ⟨rfl, h⟩
set_option maxHeartbeats 400000 in
theorem wU32_any (pw B : Nat) (sv : Value) (bs : List Nat) (w : World) (hw : WR B w pw sv bs) (hB : B ≤ w.heap.size) (xa : Option Addr) (m c : Nat) (ns : List Nat)
    (hr : RowK .u32 4294967296 w xa m ns) (hfar : 0 < m → ∀ x, xa = some x → x.block ≠ pw ∧ some x.block ≠ sv.ownBlock) (hm : m ≤ 100000) (hlen : bs.length ≤ 1000000) :
    Calls Tryz.prog 26 #[.pointer (some ⟨pw, 0, none⟩), .slice xa m c] w (WRet w pw B sv (bs ++ ns.flatMap (Crc.les 4))) := by
  go_enter Tryz.func26, Tryz.ntmps26
  go_wp2_with fail
  refine (lay32_any pw B sv bs w hw hB xa m c ns hr hfar hm hlen).mono ?_
  rintro e w1 ⟨rfl, h⟩
  go_wp2
  go_ret
  exact ⟨rfl, h⟩
theorem own_empty (w : World) : Own w.heap.size (w.alloc (.cells #[] 5)) (.slice (some ⟨w.heap.size, 0, none⟩) 0 0) [] :=
  ⟨World.ownsRow_made w #[] 0 (Nat.le_refl _) (Nat.zero_le _) rfl, fun x hx => by cases hx⟩
set_option maxHeartbeats 400000 in
theorem clone_any (a : Option Addr) (len cap : Nat) (bs : List Nat) (w : World) (hr : Row w a len bs) (hn : a = none → cap = 0) (hl : len ≤ 100000000) :
    Calls Tryz.prog 46 #[.slice a len cap] w (RetOwn w bs) := by
  have hlen := hr.1
  have hnil := fun wx => Lib.run_eql_slice_nil (P := Tryz.prog) wx 28 5 a len cap 0 0 Tryz.underlying28
  cases a with
  | none =>
    obtain rfl := hn rfl
    have h0 : len = 0 := by
      rcases Nat.eq_zero_or_pos len with h | h
      · exact h
      · obtain ⟨_, _, h1, _⟩ := hr.2.2 h
        cases h1
    subst h0
    obtain rfl : bs = [] := List.eq_nil_of_length_eq_zero hlen
    go_enter Tryz.func46, Tryz.ntmps46
    go_wp2
    go_ret
    exact ⟨_, rfl, own_nil _ _, Below.refl _ _⟩
  | some x =>
    have HLEN := Lib.hid hlen
    clear hlen
    go_enter Tryz.func46, Tryz.ntmps46
    go_wp2_with (at_builtin; refine wpList_app rfl _ _ rfl w.heap.size _ _ rfl (own_empty w) _ _ _ bs rfl (row_alloc hr _) (fun h => by cases h) ?c1 ?c2 ?_)
    case c1 => simp
    case c2 => simp; omega
    intro v1 w1 hap
    go_wp2
    go_ret
    exact ⟨_, rfl, hap.own, ((Below.refl _ w).alloc (Nat.le_refl _) _).trans hap.below⟩
set_option maxHeartbeats 400000 in
theorem wBytes_any (pw B : Nat) (sv : Value) (bs : List Nat) (w : World) (hw : WR B w pw sv bs) (hl : bs.length ≤ 100000000) :
    Calls Tryz.prog 27 #[.pointer (some ⟨pw, 0, none⟩)] w (RetOwn w bs) := by
  obtain ⟨a, c, hsv, hr, hn, _⟩ := wr_shape hw
  subst hsv
  have hcell := wr_cell hw
  obtain ⟨L, hL⟩ : ∃ L, L = bs.length := ⟨_, rfl⟩
  rw [← hL] at hcell hr hl
  clear hL
  go_enter Tryz.func27, Tryz.ntmps27
  go_wp2_with fail
  refine (clone_any a L c bs w hr hn hl).mono ?_
  rintro e w1 ⟨sv1, rfl, h1, h2⟩
  go_wp2
  go_ret
  exact ⟨_, rfl, h1, h2⟩

/-- The text of some bytes. -/
def strOf (bs : List Nat) : ByteArray := ⟨(bs.map UInt8.ofNat).toArray⟩
theorem conv_str (w : World) (a : Option Addr) (len cap : Nat) (bs : List Nat) (hr : Row w a len bs) : (convert 28 9 (.slice a len cap)).run Tryz.prog w = .ok (.string (strOf bs)) w := by
  cases a with
  | none =>
    have h0 : len = 0 := by
      rcases Nat.eq_zero_or_pos len with h | h
      · exact h
      · obtain ⟨_, _, h1, _⟩ := hr.2.2 h
        cases h1
    subst h0
    obtain rfl : bs = [] := List.eq_nil_of_length_eq_zero hr.1
    rw [run_convert_bytes_string w 28 9 5 none 0 cap Tryz.underlying28 Tryz.underlying5 Tryz.underlying9]
    rfl
  | some x =>
    have h := run_convert_bytes_back (P := Tryz.prog) w 28 9 5 x cap (bs.map UInt8.ofNat) Tryz.underlying28 Tryz.underlying5 Tryz.underlying9 (fun j hj => by
      have hjb : j < bs.length := by simpa using hj
      have hj' : j < len := by rw [← hr.1]; exact hjb
      obtain ⟨b, off, h1, h2⟩ := hr.2.2 (by omega)
      cases h1
      have h3 := h2 j hj'
      have h4 : w.cell? ((⟨b, off, none⟩ : Addr).add j) = w.cell? ⟨b, off + j, none⟩ := by
        unfold Addr.add
        split
        · rename_i h0; subst h0; rfl
        · rfl
      rw [h4, h3, getD_in _ _ hjb]
      have h5 := hr.2.1 bs[j] (List.getElem_mem _)
      simp
      omega)
    rw [List.length_map, hr.1] at h
    exact h
set_option maxHeartbeats 400000 in
theorem same_any (a b : Option Addr) (la ca lb cb : Nat) (bs : List Nat) (w : World) (ha : Row w a la bs) (hb : Row w b lb bs) :
    Calls Tryz.prog 13 #[.slice a la ca, .slice b lb cb] w fun e w' => e = .returned (.bool true) ∧ w = w' := by
  have h1 := conv_str w a la ca bs ha
  have h2 := conv_str w b lb cb bs hb
  go_enter Tryz.func13, Tryz.ntmps13
  go_wp2
  go_ret
  exact ⟨rfl, rfl⟩

end Go.Proofs.YthgcjiocelcblaaGreat

namespace Go.Proofs.YthgcjiocelcblaaGreat
open Go.RowKit

/-- A string's bytes. -/
def sbytes (s : ByteArray) : List Nat := s.data.toList.map UInt8.toNat
theorem sbytes_len (s : ByteArray) : (sbytes s).length = s.size := by unfold sbytes; simp
theorem sbytes_lt (s : ByteArray) : ∀ x ∈ sbytes s, x < 256 := by
  intro x hx
  unfold sbytes at hx
  rw [List.mem_map] at hx
  obtain ⟨y, _, rfl⟩ := hx
  exact y.toNat_lt
/-- What Text lays: how many bytes, and these. -/
def textOf (bs : List Nat) : List Nat := (bs.take 255).length :: bs.take 255
theorem row_str (w : World) (s : ByteArray) (fr : Nat × Nat) (cap : Nat) : Row (w.drew.alloc (.cells (bytesRow s cap) 5 fr)) (some ⟨w.heap.size, 0, none⟩) s.size (sbytes s) := by
  refine ⟨sbytes_len s, sbytes_lt s, fun _ => ⟨_, 0, rfl, fun i hi => ?_⟩⟩
  have h1 := World.cell?_alloc_mark w.drew (bytesRow s cap) 5 fr (0 + i)
  have h2 : (bytesRow s cap)[0 + i]? = some (.int .u8 (((sbytes s).getD i 0 : Nat) : Int)) := by
    rw [Nat.zero_add, getD_in _ _ (by rw [sbytes_len]; exact hi)]
    unfold bytesRow sbytes
    have hi' : i < s.data.size := hi
    rw [Array.getElem?_append_left (by simpa using hi')]
    rw [Array.getElem?_map, Array.getElem?_eq_getElem hi']
    simp
  rw [h2] at h1
  exact h1

theorem sbytes_cut (s : ByteArray) : sbytes (s.extract 0 255) = (sbytes s).take 255 := by
  unfold sbytes
  rw [← List.map_take]
  congr 1
  simp [ByteArray.data_extract]
theorem bel_str (w : World) (o : Obj) : Below w.heap.size w (w.drew.alloc o) := ((Below.refl _ w).drew).alloc (Nat.le_refl _) o
theorem textOf_short {bs : List Nat} (h : bs.length ≤ 255) : textOf bs = [bs.length] ++ bs := by
  unfold textOf; rw [List.take_of_length_le h]; rfl

end Go.Proofs.YthgcjiocelcblaaGreat
