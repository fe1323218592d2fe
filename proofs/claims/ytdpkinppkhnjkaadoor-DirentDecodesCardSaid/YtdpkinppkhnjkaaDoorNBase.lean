/- Small lemmas that the walks of names use; slices of letters and of texts in memory. -/
import Derived.Test.YtdpkinppkhnjkaaDoorProg
import Derived.WalkKit
import Derived.WalkSpells
import Derived.WalkLawsBesides
import Derived.Lib.Hide
import Derived.IntWalk
import Derived.Deep.QuietTactic
import Derived.BigQuiet
import Derived.RegionTactic
import Derived.ChangeAlike
import Derived.Below
import Derived.Lib.TrimU
import Derived.Shelf.Unicode.DecodeSlow
namespace Go.Proofs.YtdpkinppkhnjkaaDoor
open Go.RowKit

theorem ret_int {k : IntKind} {a b : Int} (h : a = b) : Ending.returned (.int k a) = .returned (.int k b) := by rw [h]
theorem ret_bool {a b : Bool} (h : a = b) : Ending.returned (.bool a) = .returned (.bool b) := by rw [h]
theorem nbelow_cell {w w' : World} {b off : Nat} {v : Value} (hb : Below w.heap.size w w') (h : w.cell? ⟨b, off, none⟩ = some v) : w'.cell? ⟨b, off, none⟩ = some v := by
  rw [hb.cell (p := ⟨b, off, none⟩) (World.block_lt_of_cell? w ⟨b, off, none⟩ h)]; exact h
theorem nbel_trans {w a b : World} (h : Below w.heap.size w a) (k : Below a.heap.size a b) : Below w.heap.size w b := h.trans (k.mono h.size)
theorem nbel_alloc {w a : World} (h : Below w.heap.size w a) (o : Obj) : Below w.heap.size w (a.alloc o) := h.alloc h.size o
theorem cell_new1 (w : World) (v : Value) (t : TypeId) : (w.alloc (.cells #[v] t)).cell? ⟨w.heap.size, 0, none⟩ = some v := by
  rw [World.cell?_alloc_mark w #[v] t (0, 0) 0]; rfl

/-- What the walks ask of the world: the library's tables and its one variable. -/
def NOk (w : World) : Prop := Lib.Utf8Tabs 0 1 w ∧ ∃ m : Int, w.cell? ⟨2, 0, none⟩ = some (.int .i64 m)
theorem nok_below {w w' : World} (h : NOk w) (hb : Below w.heap.size w w') : NOk w' := by
  obtain ⟨⟨h1, h2⟩, m, h3⟩ := h
  exact ⟨⟨fun c hc => nbelow_cell hb (h1 c hc), fun i hi => ⟨nbelow_cell hb (h2 i hi).1, nbelow_cell hb (h2 i hi).2⟩⟩, m, nbelow_cell hb h3⟩

/-- A slice of letters that is read. -/
def Row32 (w : World) (a : Option Addr) (len cap : Nat) (ns : List Nat) : Prop :=
  ns.length = len ∧ (∀ x ∈ ns, x ≤ 1114111) ∧ len ≤ cap ∧ cap ≤ maxLen ∧ (0 < len → ∃ b off, a = some ⟨b, off, none⟩ ∧ ∀ i, i < len → w.cell? ⟨b, off + i, none⟩ = some (.int .i32 ((ns.getD i 0 : Nat) : Int)))
theorem row32_below {w w' : World} {a : Option Addr} {len cap : Nat} {ns : List Nat} (h : Row32 w a len cap ns) (hb : Below w.heap.size w w') : Row32 w' a len cap ns := by
  obtain ⟨h1, h2, h3, h4, h5⟩ := h
  refine ⟨h1, h2, h3, h4, fun h0 => ?_⟩
  obtain ⟨b, off, e, hc⟩ := h5 h0
  exact ⟨b, off, e, fun i hi => nbelow_cell hb (hc i hi)⟩
/-- Where a slice begins whose first k elements are cut off. -/
def cutA (b off c k : Nat) : Addr := if c = k then ⟨b, off, none⟩ else ⟨b, off + k, none⟩
theorem row32_cut {w : World} {b off n c k : Nat} {ns : List Nat} (h : Row32 w (some ⟨b, off, none⟩) n c ns) (hk : k ≤ n) : Row32 w (some (cutA b off c k)) (n - k) (c - k) (ns.drop k) := by
  obtain ⟨h1, h2, h3, h4, h5⟩ := h
  refine ⟨by simp [h1], fun x hx => h2 x (List.mem_of_mem_drop hx), by omega, by omega, fun h0 => ?_⟩
  obtain ⟨b', off', e, hc⟩ := h5 (by omega)
  cases e
  refine ⟨b, off + k, by unfold cutA; rw [if_neg (by omega)], fun i hi => ?_⟩
  rw [Nat.add_assoc, hc (k + i) (by omega)]
  simp [List.getD_eq_getElem?_getD, List.getElem?_drop]
theorem run_cut (w : World) (b off n c k : Nat) (hk : k ≤ n) : (Instr.slice 74 (.slice (some ⟨b, off, none⟩) n c) (some (.int .i64 (k : Int))) none none).run Tryd.prog w = .ok (.slice (some (cutA b off c k)) (n - k) (c - k)) w := by
  have hz : (sizeOf (Tryd.prog.elem 74)).run Tryd.prog w = .ok 1 w := by kernel_rfl
  rw [run_slice_l (P := Tryd.prog) w 74 (some ⟨b, off, none⟩) n c Tryd.underlying74 .i64 (k : Int) (by omega) (by omega), hz]
  simp only [Result.andThen, sliced, Int.toNat_natCast, Option.map_some, Nat.mul_one]
  unfold cutA
  split
  · rfl
  · congr 2
    unfold Addr.add
    split
    · rename_i h0; subst h0; rfl
    · rfl
theorem getD_in (bs : List Nat) (i : Nat) (h : i < bs.length) : bs.getD i 0 = bs[i] := by
  simp [List.getD, h]

end Go.Proofs.YtdpkinppkhnjkaaDoor
