/- Letters, plain; names.Letters. -/
import Derived.Test.YtdpkinppkhnjkaaDoorNHead
import Derived.Test.YtdpkinppkhnjkaaDoorNStepWalk
import Derived.Lib.ValidLaws
import Derived.WalkSmall
namespace Go.Proofs.YtdpkinppkhnjkaaDoor
open Go.RowKit

def placesOf (s : ByteArray) : List Nat := (lets s).map (·.1)
def okLetter (x : Nat × Nat × Nat) : Bool := decide (¬ (x.2.1 = 65533 ∧ x.2.2 = 1))
def allOk (s : ByteArray) : Bool := (lets s).all okLetter
theorem scan_valid (s : ByteArray) : ∀ f pos, s.size ≤ pos + f → (scan s f pos).all okLetter = Lib.validD (s.data.toList.drop pos)
  | 0, pos, h => by
    have hd : s.data.toList.drop pos = [] := List.drop_of_length_le (by simpa using h)
    rw [hd]; rfl
  | f + 1, pos, h => by
    by_cases hp : pos < s.size
    · have hne : s.data.toList.drop pos ≠ [] := fun e => by
        have := congrArg List.length e
        simp at this
        have h2 : s.data.size = s.size := rfl
        omega
      have hw := Lib.decode_width_pos s pos hp
      rw [scan, if_pos hp, List.all_cons, Lib.validD_step _ hne, Lib.decodeL_drop, List.drop_drop, scan_valid s f _ (by omega)]
      by_cases hb : (Utf8.decode s pos).1 = 65533 ∧ (Utf8.decode s pos).2 = 1
      · rw [if_pos hb]; unfold okLetter; simp [hb]
      · rw [if_neg hb]; unfold okLetter; simp [hb]
    · have hd : s.data.toList.drop pos = [] := List.drop_of_length_le (by have h2 : s.data.size = s.size := rfl
                                                                          simp; omega)
      rw [scan_end s _ _ hp, hd]; rfl
theorem allOk_valid (s : ByteArray) : allOk s = Lib.validD s.data.toList := by
  unfold allOk lets
  rw [scan_valid s s.size 0 (by omega)]
  rfl

def intV (x : Nat) : Value := .int .i64 (x : Int)
/-- A slice of numbers of the call's own. -/
def IntsOwn (B : Nat) (w : World) (sv : Value) (l : List Nat) : Prop := w.ownsRow B 3 1 sv l.length (l.map intV)
theorem ints_nil (B : Nat) (w : World) : IntsOwn B w (.slice none 0 0) [] := World.ownsRow_nil _ _ _ _
theorem info_int : (Tryd.prog.info? 3).map (fun i => (i.zero, i.size, i.bytes)) = some (some (.int .i64 0), 1, 8) := by kernel_rfl
theorem places_len (s : ByteArray) : (placesOf s).length = (runesOf s).length := by unfold placesOf runesOf; simp
def LettersRet (w : World) (s : ByteArray) (e : Ending) (w' : World) : Prop := ∃ sv, e = .returned (.tuple #[.int .i64 ((runesOf s).length : Int), sv]) ∧ IntsOwn w.heap.size w' sv (placesOf s) ∧ Below w.heap.size w w'
end Go.Proofs.YtdpkinppkhnjkaaDoor
