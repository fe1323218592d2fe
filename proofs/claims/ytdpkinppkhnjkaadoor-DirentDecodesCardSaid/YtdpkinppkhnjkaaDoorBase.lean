/- Small lemmas that every walk here uses. -/
import Derived.Test.YtdpkinppkhnjkaaDoorProg
import Derived.WalkKit
import Derived.WalkSpells
import Derived.WalkLawsBesides
import Derived.Laws.BitsAllLaws
import Derived.Lib.Hide
import Derived.IntWalk
import Derived.Deep.QuietTactic
import Derived.BigQuiet
namespace Go.Proofs.YtdpkinppkhnjkaaDoor
open Go.RowKit

theorem ret_int {k : IntKind} {a b : Int} (h : a = b) : Ending.returned (.int k a) = .returned (.int k b) := by rw [h]
theorem ret_bool {a b : Bool} (h : a = b) : Ending.returned (.bool a) = .returned (.bool b) := by rw [h]
theorem ret_val {a b : Value} (h : a = b) : Ending.returned a = .returned b := by rw [h]

theorem cell_new1 (w : World) (v : Value) (t : TypeId) : (w.alloc (.cells #[v] t)).cell? ⟨w.heap.size, 0, none⟩ = some v := by
  rw [World.cell?_alloc_mark w #[v] t (0, 0) 0]; rfl

theorem cell_new1_at {w : World} {v : Value} {t : TypeId} {n : Nat} (h : w.heap.size = n) : (w.alloc (.cells #[v] t)).cell? ⟨n, 0, none⟩ = some v := by
  subst h; exact cell_new1 w v t
theorem cell_new2 (w : World) (v0 v1 : Value) (t : TypeId) : (w.alloc (.cells #[v0, v1] t)).cell? ⟨w.heap.size, 0, none⟩ = some v0 ∧ (w.alloc (.cells #[v0, v1] t)).cell? ⟨w.heap.size, 1, none⟩ = some v1 := by
  constructor
  · rw [World.cell?_alloc_mark w #[v0, v1] t (0, 0) 0]; rfl
  · rw [World.cell?_alloc_mark w #[v0, v1] t (0, 0) 1]; rfl

/-- A slice of bytes in memory: 'bs' are its elements. -/
def Row (w : World) (a : Option Addr) (len : Nat) (bs : List Nat) : Prop :=
  bs.length = len ∧ (∀ x ∈ bs, x < 256) ∧ (0 < len → ∃ b off, a = some ⟨b, off, none⟩ ∧ ∀ i, i < len → w.cell? ⟨b, off + i, none⟩ = some (.int .u8 ((bs.getD i 0 : Nat) : Int)))
def u8v (x : Nat) : Value := .int .u8 (x : Int)
/-- A slice of bytes of the call's own: nil, or a row in a block from B on. -/
def Own (B : Nat) (w : World) (sv : Value) (bs : List Nat) : Prop := w.ownsRow B 5 1 sv bs.length (bs.map u8v) ∧ ∀ x ∈ bs, x < 256
/-- What a function ends with that answers bytes of its own. -/
def RetOwn (w : World) (bs : List Nat) (e : Ending) (w' : World) : Prop := ∃ sv, e = .returned sv ∧ Own w.heap.size w' sv bs ∧ Below w.heap.size w w'
theorem info_u8 : (Tryd.prog.info? 5).map (fun i => (i.zero, i.size, i.bytes)) = some (some (.int .u8 0), 1, 1) := by kernel_rfl
theorem getD_in (bs : List Nat) (i : Nat) (h : i < bs.length) : bs.getD i 0 = bs[i] := by
  simp [List.getD, h]
theorem getD_lt {bs : List Nat} (h : ∀ x ∈ bs, x < 256) (i : Nat) : bs.getD i 0 < 256 := by
  by_cases hi : i < bs.length
  · rw [getD_in _ _ hi]; exact h _ (List.getElem_mem _)
  · simp [List.getD, List.getElem?_eq_none (Nat.le_of_not_lt hi)]
theorem row_of_own {B : Nat} {w : World} {sv : Value} {bs : List Nat} (h : Own B w sv bs) : ∃ a cap, sv = .slice a bs.length cap ∧ Row w a bs.length bs ∧ bs.length ≤ maxLen := by
  obtain ⟨⟨_, h⟩, hb⟩ := h
  rcases h with ⟨rfl, h0⟩ | ⟨g, cap, cur, rfl, _, hg, hc, hm, hs, ht⟩
  · exact ⟨none, 0, by rw [h0], ⟨rfl, hb, fun h => by omega⟩, by omega⟩
  · refine ⟨_, cap, rfl, ⟨rfl, hb, fun _ => ⟨g, 0, rfl, fun i hi => ?_⟩⟩, by omega⟩
    have h1 : w.cell? ⟨g, 0 + i, none⟩ = cur[i]? := by simp [World.cell?, hg]
    have h2 : cur[i]? = (cur.toList.take (bs.length * 1))[i]? := by
      rw [List.getElem?_take_of_lt (by omega), Array.getElem?_toList]
    rw [h1, h2, ht, List.getElem?_map, List.getElem?_eq_getElem hi, getD_in _ _ hi]
    rfl
theorem own_nil (B : Nat) (w : World) : Own B w (.slice none 0 0) [] := ⟨World.ownsRow_nil w B _ 1, fun x hx => by cases hx⟩
theorem take_snoc_getD (bs : List Nat) (i : Nat) (h : i < bs.length) : bs.take (i + 1) = bs.take i ++ [bs.getD i 0] := by
  rw [List.take_succ_eq_append_getElem h, getD_in _ _ h]

end Go.Proofs.YtdpkinppkhnjkaaDoor
