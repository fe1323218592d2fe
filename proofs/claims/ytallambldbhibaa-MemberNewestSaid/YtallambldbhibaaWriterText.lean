/- The writer's Text and Pad. -/
import Derived.Test.YtallambldbhibaaWriterCalls
namespace Go.Proofs.Ytallambldbhibaa
open Go.RowKit

/-- A string's bytes. -/
def sbytes (s : ByteArray) : List Nat := s.data.toList.map UInt8.toNat
theorem sbytes_len (s : ByteArray) : (sbytes s).length = s.size := by unfold sbytes; simp
theorem sbytes_lt (s : ByteArray) : ∀ x ∈ sbytes s, x < 256 := by
  intro x hx
  unfold sbytes at hx
  rw [List.mem_map] at hx
  obtain ⟨y, _, rfl⟩ := hx
  exact y.toNat_lt
/-- What Text lays: how many bytes, and these. -/
def textOf (bs : List Nat) : List Nat := (bs.take 255).length :: bs.take 255
theorem row_str (w : World) (s : ByteArray) (fr : Nat × Nat) (cap : Nat) : Row (w.drew.alloc (.cells (bytesRow s cap) 5 fr)) (some ⟨w.heap.size, 0, none⟩) s.size (sbytes s) := by
  refine ⟨sbytes_len s, sbytes_lt s, fun _ => ⟨_, 0, rfl, fun i hi => ?_⟩⟩
  have h1 := World.cell?_alloc_mark w.drew (bytesRow s cap) 5 fr (0 + i)
  have h2 : (bytesRow s cap)[0 + i]? = some (.int .u8 (((sbytes s).getD i 0 : Nat) : Int)) := by
    rw [Nat.zero_add, getD_in _ _ (by rw [sbytes_len]; exact hi)]
    unfold bytesRow sbytes
    have hi' : i < s.data.size := hi
    rw [Array.getElem?_append_left (by simpa using hi')]
    rw [Array.getElem?_map, Array.getElem?_eq_getElem hi']
    simp
  rw [h2] at h1
  exact h1

theorem sbytes_cut (s : ByteArray) : sbytes (s.extract 0 255) = (sbytes s).take 255 := by
  unfold sbytes
  rw [← List.map_take]
  congr 1
  simp [ByteArray.data_extract]
theorem bel_str (w : World) (o : Obj) : Below w.heap.size w (w.drew.alloc o) := ((Below.refl _ w).drew).alloc (Nat.le_refl _) o
theorem textOf_short {bs : List Nat} (h : bs.length ≤ 255) : textOf bs = [bs.length] ++ bs := by
  unfold textOf; rw [List.take_of_length_le h]; rfl

end Go.Proofs.Ytallambldbhibaa
