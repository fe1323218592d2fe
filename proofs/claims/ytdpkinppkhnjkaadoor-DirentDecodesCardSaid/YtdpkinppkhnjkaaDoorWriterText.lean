/- The writer in memory; what its calls leave; Raw, Same, Clone, Bytes. -/
import Derived.Test.YtdpkinppkhnjkaaDoorAppend
import Derived.Test.YtdpkinppkhnjkaaDoorRefPart
import Derived.Deep.RegionLaw
import Derived.Deep.AppendLies
import Derived.Lib.SliceRun
namespace Go.Proofs.YtdpkinppkhnjkaaDoor
open Go.RowKit

/-- What a call of the writer leaves of all other memory. -/
structure Moved (w : World) (pw : Nat) (sv sv' : Value) (w' : World) : Prop where
  os : w'.os = w.os
  tape : w'.tape = w.tape
  output : w'.output = w.output
  size : w.heap.size ≤ w'.heap.size
  block : ∀ k, k < w.heap.size → k ≠ pw → some k ≠ sv.ownBlock → w'.heap[k]? = w.heap[k]?
  where_ : sv'.ownBlock = sv.ownBlock ∨ sv'.ownBlock = none ∨ ∃ k, sv'.ownBlock = some k ∧ w.heap.size ≤ k
theorem Moved.refl (w : World) (pw : Nat) (sv : Value) : Moved w pw sv sv w := ⟨rfl, rfl, rfl, Nat.le_refl _, fun _ _ _ _ => rfl, .inl rfl⟩
theorem Moved.trans {w w1 w2 : World} {pw : Nat} {sv sv1 sv2 : Value} (h : Moved w pw sv sv1 w1) (k : Moved w1 pw sv1 sv2 w2) : Moved w pw sv sv2 w2 := by
  refine ⟨k.os.trans h.os, k.tape.trans h.tape, k.output.trans h.output, Nat.le_trans h.size k.size, fun j hj hp ho => ?_, ?_⟩
  · rw [k.block j (Nat.lt_of_lt_of_le hj h.size) hp ?_, h.block j hj hp ho]
    intro e
    rcases h.where_ with h1 | h1 | ⟨i, h1, h2⟩
    · exact ho (by rw [e, h1])
    · rw [h1] at e; cases e
    · rw [h1] at e; cases e; omega
  · rcases k.where_ with h1 | h1 | ⟨i, h1, h2⟩
    · rw [h1]; exact h.where_
    · exact .inr (.inl h1)
    · exact .inr (.inr ⟨i, h1, Nat.le_trans h.size h2⟩)
/-- Memory is made: the writer is as it was. -/
theorem moved_of_below {w w' : World} (hb : Below w.heap.size w w') (pw : Nat) (sv : Value) : Moved w pw sv sv w' :=
  ⟨hb.os, hb.tape, hb.output, hb.size, fun k hk _ _ => hb.block k hk, .inl rfl⟩
end Go.Proofs.YtdpkinppkhnjkaaDoor

namespace Go.Proofs.YtdpkinppkhnjkaaDoor
open Go.RowKit

/-- A slice of numbers in memory. -/
def RowK (K : IntKind) (M : Nat) (w : World) (a : Option Addr) (len : Nat) (ns : List Nat) : Prop :=
  ns.length = len ∧ (∀ x ∈ ns, x < M) ∧ (0 < len → ∃ b off, a = some ⟨b, off, none⟩ ∧ ∀ i, i < len → w.cell? ⟨b, off + i, none⟩ = some (.int K ((ns.getD i 0 : Nat) : Int)))
theorem rowK_cell {K : IntKind} {M : Nat} {w : World} {a : Option Addr} {len k : Nat} {ns : List Nat} (h : RowK K M w a len ns) (hk : k < len) :
    ∃ (b off x : Nat), a = some ⟨b, off, none⟩ ∧ w.cell? ⟨b, off + k, none⟩ = some (.int K (x : Int)) ∧ x < M ∧ Hid (x = ns.getD k 0) := by
  obtain ⟨h1, h2, h3⟩ := h
  obtain ⟨b, off, h4, h5⟩ := h3 (by omega)
  refine ⟨b, off, _, h4, h5 k hk, ?_, rfl⟩
  rw [getD_in _ _ (by omega)]
  exact h2 _ (List.getElem_mem _)
theorem rowK_moved {K : IntKind} {M : Nat} {w w' : World} {pw : Nat} {sv sv' : Value} {a : Option Addr} {len : Nat} {ns : List Nat} (h : RowK K M w a len ns) (hm : Moved w pw sv sv' w') (hfar : 0 < len → ∀ x, a = some x → x.block ≠ pw ∧ some x.block ≠ sv.ownBlock) : RowK K M w' a len ns := by
  obtain ⟨h1, h2, h3⟩ := h
  refine ⟨h1, h2, fun h0 => ?_⟩
  obtain ⟨b, off, h4, h5⟩ := h3 h0
  have hf := hfar h0 _ h4
  refine ⟨b, off, h4, fun i hi => ?_⟩
  have hc := h5 i hi
  rw [World.cell?_of_block (hm.block b (World.block_lt_of_cell? w ⟨b, off + i, none⟩ hc) hf.1 hf.2)]
  exact hc
theorem flat_snoc (s : Nat) (ns : List Nat) (k : Nat) (h : k < ns.length) : (ns.take (k + 1)).flatMap (Crc.les s) = (ns.take k).flatMap (Crc.les s) ++ Crc.les s (ns.getD k 0) := by
  rw [take_snoc_getD ns k h, List.flatMap_append]
  simp
theorem flat_les_len (s : Nat) (l : List Nat) : (l.flatMap (Crc.les s)).length = s * l.length := by
  induction l with
  | nil => rfl
  | cons x l ih => rw [List.flatMap_cons, List.length_append, ih, Crc.les_len, List.length_cons, Nat.mul_succ]; omega
theorem lay_len (s : Nat) (bs ns : List Nat) (k : Nat) (hs : s ≤ 8) : (bs ++ (ns.take k).flatMap (Crc.les s)).length ≤ bs.length + 8 * k := by
  rw [List.length_append, flat_les_len]
  have h1 : (ns.take k).length ≤ k := List.length_take_le _ _
  have h2 : s * (ns.take k).length ≤ 8 * k := Nat.mul_le_mul hs h1
  omega

theorem mul8_wrap {j : Nat} (h : j < 8) : IntKind.i64.wrap (8 * (j : Int)) = ((8 * j : Nat) : Int) := by rw [IntKind.wrap_i64]; omega
theorem byte_lt (n j : Nat) : n / 256 ^ j % 256 < 256 := Nat.mod_lt _ (by omega)
theorem byte_at (n j : Nat) : IntKind.u8.wrap ((n : Int) / 2 ^ (8 * j)) = ((n / 256 ^ j % 256 : Nat) : Int) := by
  have e : (256 : Nat) ^ j = 2 ^ (8 * j) := by rw [Nat.pow_mul]
  rw [IntKind.wrap_u8, e]
  have e2 : ((n : Int) / 2 ^ (8 * j)) = ((n / 2 ^ (8 * j) : Nat) : Int) := by simp
  rw [e2]
  generalize n / 2 ^ (8 * j) = q
  omega
theorem les_byte (j n : Nat) : Crc.les (j + 1) n = Crc.les j n ++ [n / 256 ^ j % 256] := les_snoc j n

theorem cell_alloc_drew {w : World} {a : Addr} {v : Value} (h : w.cell? a = some v) (o : Obj) : (w.alloc o).drew.cell? a = some v := by
  have hlt := World.block_lt_of_cell? w a h
  rw [← h]
  exact World.cell?_of_block (w := w) (Below.heap_alloc w o a.block hlt)
theorem frozen_alloc_drew {w : World} {b off : Nat} (hlt : b < w.heap.size) (h : w.frozen? ⟨b, off, none⟩ = false) (o : Obj) : (w.alloc o).drew.frozen? ⟨b, off, none⟩ = false := by
  rw [← h]
  exact World.frozen?_of_block (w := w) (a := ⟨b, off, none⟩) (Below.heap_alloc w o b hlt)

theorem far_cell {w w' : World} {o : Obj} {row : Option Nat} {b off : Nat} {v : Value} (hg : (w.alloc o).drew.grownBy w' row) (hlt : b < w.heap.size) (hne : row ≠ some b) (h : (w.alloc o).drew.cell? ⟨b, off, none⟩ = some v) : w'.cell? ⟨b, off, none⟩ = some v := by
  rw [World.cell?_of_block (a := ⟨b, off, none⟩) (hg.block b (by simp; omega) (fun e => hne e.symm))]; exact h
theorem far_frozen {w w' : World} {o : Obj} {row : Option Nat} {b off : Nat} (hg : (w.alloc o).drew.grownBy w' row) (hlt : b < w.heap.size) (hne : row ≠ some b) (h : (w.alloc o).drew.frozen? ⟨b, off, none⟩ = false) : w'.frozen? ⟨b, off, none⟩ = false := by
  rw [World.frozen?_of_block (a := ⟨b, off, none⟩) (hg.block b (by simp; omega) (fun e => hne e.symm))]; exact h

theorem apd_lies {B : Nat} {w0 w2 : World} {gg gcap L y : Nat} {sv2 : Value} {bs1 : List Nat} (ho : Own B w0 sv2 bs1) (h : w2.ownsRow B 5 1 (.slice (some ⟨gg, 0, none⟩) (L + 1) gcap) (L + 1) (bs1.map u8v ++ [.int .u8 (y : Int)])) (hL : L = bs1.length) (hy : y < 256)
    (hg : w0.grownBy w2 sv2.ownBlock) (hat : sv2.ownBlock = some gg ∨ gg = w0.heap.size) (hB : B ≤ w0.heap.size) : Apd B w0 sv2 (bs1 ++ [y]) (.slice (some ⟨gg, 0, none⟩) (L + 1) gcap) w2 := by
  subst hL
  refine ⟨⟨?_, fun z hz => ?_⟩, hg, ?_, (Below.refl B w0).grown hg hB (fun k hk => (own_base ho k hk).1)⟩
  · simpa [u8v] using h
  · rw [List.mem_append] at hz
    rcases hz with hz | hz
    · exact ho.2 z hz
    · simp at hz; omega
  · rcases hat with h1 | h1
    · exact .inl h1.symm
    · exact .inr (by rw [← h1]; rfl)
end Go.Proofs.YtdpkinppkhnjkaaDoor

namespace Go.Proofs.YtdpkinppkhnjkaaDoor
open Go.RowKit

end Go.Proofs.YtdpkinppkhnjkaaDoor

namespace Go.Proofs.YtdpkinppkhnjkaaDoor
open Go.RowKit

end Go.Proofs.YtdpkinppkhnjkaaDoor

namespace Go.Proofs.YtdpkinppkhnjkaaDoor
open Go.RowKit

end Go.Proofs.YtdpkinppkhnjkaaDoor

namespace Go.Proofs.YtdpkinppkhnjkaaDoor
open Go.RowKit

theorem own_empty (w : World) : Own w.heap.size (w.alloc (.cells #[] 5)) (.slice (some ⟨w.heap.size, 0, none⟩) 0 0) [] :=
  ⟨World.ownsRow_made w #[] 0 (Nat.le_refl _) (Nat.zero_le _) rfl, fun x hx => by cases hx⟩
set_option maxHeartbeats 400000 in
theorem clone_any (a : Option Addr) (len cap : Nat) (bs : List Nat) (w : World) (hr : Row w a len bs) (hn : a = none → cap = 0) (hl : len ≤ 100000000) :
    Calls Tryd.prog 22 #[.slice a len cap] w (RetOwn w bs) := by
  have hlen := hr.1
  have hnil := fun wx => Lib.run_eql_slice_nil (P := Tryd.prog) wx 22 5 a len cap 0 0 Tryd.underlying22
  cases a with
  | none =>
    obtain rfl := hn rfl
    have h0 : len = 0 := by
      rcases Nat.eq_zero_or_pos len with h | h
      · exact h
      · obtain ⟨_, _, h1, _⟩ := hr.2.2 h
        cases h1
    subst h0
    obtain rfl : bs = [] := List.eq_nil_of_length_eq_zero hlen
    go_enter Tryd.func22, Tryd.ntmps22
    go_wp2
    go_ret
    exact ⟨_, rfl, own_nil _ _, Below.refl _ _⟩
  | some x =>
    have HLEN := Lib.hid hlen
    clear hlen
    go_enter Tryd.func22, Tryd.ntmps22
    go_wp2_with (at_builtin; refine wpList_app rfl _ _ rfl w.heap.size _ _ rfl (own_empty w) _ _ _ bs rfl (row_alloc hr _) (fun h => by cases h) ?c1 ?c2 ?_)
    case c1 => simp
    case c2 => simp; omega
    intro v1 w1 hap
    go_wp2
    go_ret
    exact ⟨_, rfl, hap.own, ((Below.refl _ w).alloc (Nat.le_refl _) _).trans hap.below⟩
/-- The text of some bytes. -/
def strOf (bs : List Nat) : ByteArray := ⟨(bs.map UInt8.ofNat).toArray⟩
theorem conv_str (w : World) (a : Option Addr) (len cap : Nat) (bs : List Nat) (hr : Row w a len bs) : (convert 22 9 (.slice a len cap)).run Tryd.prog w = .ok (.string (strOf bs)) w := by
  cases a with
  | none =>
    have h0 : len = 0 := by
      rcases Nat.eq_zero_or_pos len with h | h
      · exact h
      · obtain ⟨_, _, h1, _⟩ := hr.2.2 h
        cases h1
    subst h0
    obtain rfl : bs = [] := List.eq_nil_of_length_eq_zero hr.1
    rw [run_convert_bytes_string w 22 9 5 none 0 cap Tryd.underlying22 Tryd.underlying5 Tryd.underlying9]
    rfl
  | some x =>
    have h := run_convert_bytes_back (P := Tryd.prog) w 22 9 5 x cap (bs.map UInt8.ofNat) Tryd.underlying22 Tryd.underlying5 Tryd.underlying9 (fun j hj => by
      have hjb : j < bs.length := by simpa using hj
      have hj' : j < len := by rw [← hr.1]; exact hjb
      obtain ⟨b, off, h1, h2⟩ := hr.2.2 (by omega)
      cases h1
      have h3 := h2 j hj'
      have h4 : w.cell? ((⟨b, off, none⟩ : Addr).add j) = w.cell? ⟨b, off + j, none⟩ := by
        unfold Addr.add
        split
        · rename_i h0; subst h0; rfl
        · rfl
      rw [h4, h3, getD_in _ _ hjb]
      have h5 := hr.2.1 bs[j] (List.getElem_mem _)
      simp
      omega)
    rw [List.length_map, hr.1] at h
    exact h
end Go.Proofs.YtdpkinppkhnjkaaDoor

namespace Go.Proofs.YtdpkinppkhnjkaaDoor
open Go.RowKit

/-- A string's bytes. -/
def sbytes (s : ByteArray) : List Nat := s.data.toList.map UInt8.toNat
theorem sbytes_len (s : ByteArray) : (sbytes s).length = s.size := by unfold sbytes; simp
theorem sbytes_lt (s : ByteArray) : ∀ x ∈ sbytes s, x < 256 := by
  intro x hx
  unfold sbytes at hx
  rw [List.mem_map] at hx
  obtain ⟨y, _, rfl⟩ := hx
  exact y.toNat_lt
/-- What Text lays: how many bytes, and these. -/
def textOf (bs : List Nat) : List Nat := (bs.take 255).length :: bs.take 255
theorem row_str (w : World) (s : ByteArray) (fr : Nat × Nat) (cap : Nat) : Row (w.drew.alloc (.cells (bytesRow s cap) 5 fr)) (some ⟨w.heap.size, 0, none⟩) s.size (sbytes s) := by
  refine ⟨sbytes_len s, sbytes_lt s, fun _ => ⟨_, 0, rfl, fun i hi => ?_⟩⟩
  have h1 := World.cell?_alloc_mark w.drew (bytesRow s cap) 5 fr (0 + i)
  have h2 : (bytesRow s cap)[0 + i]? = some (.int .u8 (((sbytes s).getD i 0 : Nat) : Int)) := by
    rw [Nat.zero_add, getD_in _ _ (by rw [sbytes_len]; exact hi)]
    unfold bytesRow sbytes
    have hi' : i < s.data.size := hi
    rw [Array.getElem?_append_left (by simpa using hi')]
    rw [Array.getElem?_map, Array.getElem?_eq_getElem hi']
    simp
  rw [h2] at h1
  exact h1

theorem sbytes_cut (s : ByteArray) : sbytes (s.extract 0 255) = (sbytes s).take 255 := by
  unfold sbytes
  rw [← List.map_take]
  congr 1
  simp [ByteArray.data_extract]
theorem bel_str (w : World) (o : Obj) : Below w.heap.size w (w.drew.alloc o) := ((Below.refl _ w).drew).alloc (Nat.le_refl _) o
theorem textOf_short {bs : List Nat} (h : bs.length ≤ 255) : textOf bs = [bs.length] ++ bs := by
  unfold textOf; rw [List.take_of_length_le h]; rfl

end Go.Proofs.YtdpkinppkhnjkaaDoor
