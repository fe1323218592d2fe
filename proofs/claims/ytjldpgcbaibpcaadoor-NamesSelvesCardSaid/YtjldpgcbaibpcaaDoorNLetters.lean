/- Letters, plain; names.Letters. -/
import Derived.Test.YtjldpgcbaibpcaaDoorNHead
import Derived.Test.YtjldpgcbaibpcaaDoorNStepWalk
import Derived.Lib.ValidLaws
import Derived.WalkSmall
namespace Go.Proofs.YtjldpgcbaibpcaaDoor
open Go.RowKit

def placesOf (s : ByteArray) : List Nat := (lets s).map (·.1)
def okLetter (x : Nat × Nat × Nat) : Bool := decide (¬ (x.2.1 = 65533 ∧ x.2.2 = 1))
def allOk (s : ByteArray) : Bool := (lets s).all okLetter
theorem scan_valid (s : ByteArray) : ∀ f pos, s.size ≤ pos + f → (scan s f pos).all okLetter = Lib.validD (s.data.toList.drop pos)
  | 0, pos, h => by
    have hd : s.data.toList.drop pos = [] := List.drop_of_length_le (by simpa using h)
    rw [hd]; rfl
  | f + 1, pos, h => by
    by_cases hp : pos < s.size
    · have hne : s.data.toList.drop pos ≠ [] := fun e => by
        have := congrArg List.length e
        simp at this
        have h2 : s.data.size = s.size := rfl
        omega
      have hw := Lib.decode_width_pos s pos hp
      rw [scan, if_pos hp, List.all_cons, Lib.validD_step _ hne, Lib.decodeL_drop, List.drop_drop, scan_valid s f _ (by omega)]
      by_cases hb : (Utf8.decode s pos).1 = 65533 ∧ (Utf8.decode s pos).2 = 1
      · rw [if_pos hb]; unfold okLetter; simp [hb]
      · rw [if_neg hb]; unfold okLetter; simp [hb]
    · have hd : s.data.toList.drop pos = [] := List.drop_of_length_le (by have h2 : s.data.size = s.size := rfl
                                                                          simp; omega)
      rw [scan_end s _ _ hp, hd]; rfl
theorem allOk_valid (s : ByteArray) : allOk s = Lib.validD s.data.toList := by
  unfold allOk lets
  rw [scan_valid s s.size 0 (by omega)]
  rfl

def intV (x : Nat) : Value := .int .i64 (x : Int)
/-- A slice of numbers of the call's own. -/
def IntsOwn (B : Nat) (w : World) (sv : Value) (l : List Nat) : Prop := w.ownsRow B 3 1 sv l.length (l.map intV)
theorem ints_nil (B : Nat) (w : World) : IntsOwn B w (.slice none 0 0) [] := World.ownsRow_nil _ _ _ _
theorem info_int : (Tryd.prog.info? 3).map (fun i => (i.zero, i.size, i.bytes)) = some (some (.int .i64 0), 1, 8) := by kernel_rfl
theorem places_len (s : ByteArray) : (placesOf s).length = (runesOf s).length := by unfold placesOf runesOf; simp
def LettersRet (w : World) (s : ByteArray) (e : Ending) (w' : World) : Prop := ∃ sv, e = .returned (.tuple #[.int .i64 ((runesOf s).length : Int), sv]) ∧ IntsOwn w.heap.size w' sv (placesOf s) ∧ Below w.heap.size w w'
set_option maxRecDepth 100000 in
set_option maxHeartbeats 1000000 in
theorem letters_any (s : ByteArray) (w : World) (hs : s.size ≤ 1000) :
    Calls Tryd.prog 22 #[.string s] w (LettersRet w s) := by
  obtain ⟨ans, hans⟩ : ∃ ans, lets s = ans := ⟨_, rfl⟩
  have HANS := Lib.hid hans
  obtain ⟨i0, hi, hz0, hz1, hz2⟩ := info_parts info_int
  unfold lets at hans
  have HA0 := Lib.hid hans
  clear hans
  go_enter Tryd.func22, Tryd.ntmps22
  go_wp2_with fail
  go_loopw [4] (fun lv wr => ∃ (pos f : Nat) (acc : List (Nat × Nat × Nat)), wr.heap[w.heap.size]? = some (.stringIter s pos) ∧ IntsOwn (w.heap.size + 1) wr lv (acc.map (·.1)) ∧ Below w.heap.size w wr ∧ Hid (acc ++ scan s f pos = ans) ∧ s.size ≤ pos + f ∧ acc.length ≤ pos) (fun _ wr => s.size - wr.iterPos w.heap.size)
  case atStart => exact ⟨0, s.size, [], World.iter_heap w s 0, ints_nil _ _, iter_below w s 0, Lib.hid HA0.out, by omega, by simp⟩
  case round =>
    obtain ⟨pos, f, acc, hit, hown, hbw, HS, hb, hlen⟩ := hrel
    have hpos0 := iterPos_of hit
    by_cases hp : pos < s.size
    · have hnx : ∀ ty, (Instr.next (.pointer (some ⟨w.heap.size, 0, none⟩)) true ty).run Tryd.prog wr = _ := fun ty => Lib.run_next_any_at wr w.heap.size s pos ty hit hp
      have hwd := Lib.decode_width_pos s pos hp
      obtain ⟨f, rfl⟩ : ∃ f', f = f' + 1 := ⟨f - 1, by omega⟩
      have hit2 := Lib.iterAt_heap wr w.heap.size s pos (pos + (Utf8.decode s pos).2) hit
      have hbw2 := Lib.below_iterAt hbw (k := w.heap.size) (Nat.le_refl _) s (pos + (Utf8.decode s pos).2)
      have hown2 : IntsOwn _ _ _ _ := ownsRow_iterAt hown (k := w.heap.size) (by omega) s (pos + (Utf8.decode s pos).2)
      have hst := HS.out
      rw [scan_cons hp] at hst
      generalize Utf8.decode s pos = dc at *
      obtain ⟨c, k⟩ := dc
      simp only at hnx hit2 hbw2 hown2 hst hwd
      obtain ⟨W1, hW1⟩ : ∃ W1, W1 = wr.iterAt w.heap.size s (pos + k) := ⟨_, rfl⟩
      rw [← hW1] at hnx hit2 hbw2 hown2
      have hBlt := Lib.hid (show w.heap.size < W1.heap.size from by
        rcases Nat.lt_or_ge w.heap.size W1.heap.size with h | h
        · exact h
        · rw [Array.getElem?_eq_none h] at hit2; cases hit2)
      have HST := Lib.hid hst
      have HIT := Lib.hid hit2
      have HBW := Lib.hid hbw2
      have HIP := Lib.hid hpos0
      have hal : (acc.map (fun x : Nat × Nat × Nat => x.1)).length = acc.length := by simp
      unfold IntsOwn at hown2
      rw [hal] at hown2
      clear hW1 hit hown hbw hst hit2 hbw2 hpos0 hal
      go_wp2_with (at_builtin; refine wpList_append_own_at _ rfl _ _ 38 rfl (w.heap.size + 1) 3 i0 (.int .i64 0) 1 8 Tryd.underlying38 hi hz0 hz1 hz2 rfl (by decide) _ _ _ rfl (hown2.alloc _) ⟨W1.heap.size, 0, none⟩ 1 1 [intV pos] rfl rfl ?c1 ?c2 ?c3 ?c4 ?c5 ?_)
      case c1 => exact news_one W1 _ _
      case c2 => intro u hu; simp at hu; subst hu; rfl
      case c3 => unfold maxLen; omega
      case c4 => omega
      case c5 => have := hBlt.out; simp; omega
      intro v' w3 hown3 hg3 _ _
      have hit3 : w3.heap[w.heap.size]? = some (.stringIter s (pos + k)) := by
        rw [hg3.block w.heap.size (by have := hBlt.out; simp; omega) (fun h => by have := (hown2.lt _ h.symm).1; omega), Below.heap_alloc _ _ _ hBlt.out]; exact HIT.out
      have hbw3 : Below w.heap.size w w3 := Below.grown (HBW.out.alloc (by have := hBlt.out; omega) _) hg3 (by have := hBlt.out; simp; omega) (fun j hj => by have := (hown2.lt _ hj).1; omega)
      have hown4 : IntsOwn (w.heap.size + 1) w3 v' ((acc ++ [(pos, c, k)]).map (·.1)) := by
        unfold IntsOwn
        simp only [List.map_append, List.map_cons, List.map_nil, List.length_append, List.length_map, List.length_cons, List.length_nil, Nat.zero_add, List.map_map]
        exact hown3
      have HIT3 := Lib.hid hit3
      have HBW3 := Lib.hid hbw3
      have HOWN4 := Lib.hid hown4
      clear hown3 hg3 hit3 hbw3 hown4 hown2
      go_wp2
      go_roundw
      case rel => exact ⟨pos + k, f, acc ++ [(pos, c, k)], HIT3.out, HOWN4.out, HBW3.out, by have := HST.out; rw [← this, List.append_assoc]; exact Lib.hid rfl, by omega, by simp; omega⟩
      case measure => rw [iterPos_of HIT3.out, HIP.out]; omega
    · have hnx : ∀ ty, (Instr.next (.pointer (some ⟨w.heap.size, 0, none⟩)) true ty).run Tryd.prog wr = _ := fun ty => Lib.run_next_end_at wr w.heap.size s pos ty hit hp
      have hst := HS.out
      rw [scan_end s f pos hp, List.append_nil] at hst
      have HST := Lib.hid (hst.trans HANS.out.symm)
      obtain ⟨la, lc, hlv⟩ := owns_shape hown
      subst hlv
      have HOWN := Lib.hid hown
      have HBW := Lib.hid hbw
      clear hst hown hbw
      go_wp2
      go_ret2
      refine ⟨.slice la (acc.map (·.1)).length lc, by unfold runesOf; rw [← HST.out]; simp, ?_, HBW.out⟩
      unfold placesOf
      rw [← HST.out]
      exact owns_mono HOWN.out (by omega)
end Go.Proofs.YtjldpgcbaibpcaaDoor
