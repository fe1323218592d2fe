/- The reader's Text. -/
import Derived.Test.YtejhdafipjajnaaReaderNum
namespace Go.Proofs.Ytejhdafipjajnaa
open Go.RowKit

/-- What the reader's Text ends with: the reader goes on behind the text. -/
def TextRet (w : World) (pr pg : Nat) (c : Nat) (bs : List Nat) (k : Nat) (e : Ending) (w' : World) : Prop :=
  ∃ a2, e = .returned (.string (strOf ((bs.drop 1).take k))) ∧ RD w' pr pg a2 (c - 1 - k) ((bs.drop 1).drop k) ∧ w'.heap.size = w.heap.size ∧ w'.os = w.os ∧ w'.tape = w.tape ∧ w'.output = w.output ∧ ∀ j, j ≠ pr → w'.heap[j]? = w.heap[j]?
set_option maxHeartbeats 400000 in
theorem rText_ok {w : World} {pr pg c : Nat} {a : Option Addr} {bs : List Nat} (k : Nat) (h : RD w pr pg a c bs) (h1 : 1 ≤ bs.length) (hk : bs.getD 0 0 = k) (hn : 1 + k ≤ bs.length) :
    Calls Try.prog 19 #[.pointer (some ⟨pr, 0, none⟩)] w (TextRet w pr pg c bs k) := by
  have hk8 : k < 256 := by rw [← hk, getD_in _ _ (by omega)]; exact h.2.1.2.1 _ (List.getElem_mem _)
  have HH := Lib.hid h
  have HK := Lib.hid hk
  clear h hk
  go_enter Try.func19, Try.ntmps19
  go_wp2_with fail
  refine (rU8_ok HH.out h1).mono ?_
  rintro e w1 ⟨a2, rfl, hw1, hrd⟩
  rw [HK.out]
  have HW := Lib.hid hw1
  clear hw1
  go_wp2_with fail
  refine (take_ok k hrd (by rw [List.length_drop]; omega)).mono ?_
  rintro e w2 ⟨a3, rfl, hw2, hrd2, hrow2⟩
  have HW2 := Lib.hid hw2
  clear hw2
  have hcs := conv_str w2 a2 k (c - 1) ((bs.drop 1).take k) hrow2
  go_wp2
  go_ret
  refine ⟨a3, by simp, hrd2, ?_, ?_, ?_, ?_, fun j hj => ?_⟩
  · rw [HW2.out, HW.out]; simp [World.setCell]
  · rw [HW2.out, HW.out]; rfl
  · rw [HW2.out, HW.out]; rfl
  · rw [HW2.out, HW.out]; rfl
  · rw [HW2.out, Below.heap_setCell _ _ _ _ hj, HW.out, Below.heap_setCell _ _ _ _ hj]

end Go.Proofs.Ytejhdafipjajnaa
