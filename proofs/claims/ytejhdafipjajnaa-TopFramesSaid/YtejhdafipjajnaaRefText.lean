/- gabionref01's Text. -/
import Derived.Test.YtejhdafipjajnaaPad
import Derived.Lib.AppendStr
namespace Go.Proofs.Ytejhdafipjajnaa
open Go.RowKit

theorem strCells_eq (s : ByteArray) : Lib.strCells s = (sbytes s).map u8v := by
  unfold Lib.strCells sbytes u8v
  simp
theorem own_lit1 (w : World) (x : Int) : (w.alloc (.cells #[.int .u8 x] 5)).ownsRow w.heap.size 5 1 (.slice (some ⟨w.heap.size, 0, none⟩) 1 1) 1 [.int .u8 x] :=
  World.ownsRow_lit w #[.int .u8 x] 1 (Nat.le_refl _) (by unfold maxLen; omega) rfl
theorem own_text {w w' : World} {v : Value} {s : ByteArray} {n : Nat} (h : w'.ownsRow w.heap.size 5 1 v (1 + s.size) (Value.int .u8 (n : Int) :: Lib.strCells s)) (hn : n < 256) : Own w.heap.size w' v (n :: sbytes s) := by
  refine ⟨?_, fun x hx => ?_⟩
  · rw [strCells_eq] at h
    rw [List.length_cons, sbytes_len, Nat.add_comm]
    exact h
  · rw [List.mem_cons] at hx
    rcases hx with rfl | hx
    · exact hn
    · exact sbytes_lt s x hx
theorem bel_text {w w' : World} {o : Obj} (hg : (w.alloc o).grownBy w' (Value.slice (some ⟨w.heap.size, 0, none⟩) 1 1).ownBlock) : Below w.heap.size w w' :=
  ((Below.refl _ w).alloc (Nat.le_refl _) o).grown hg (by simp) (fun k hk => by cases hk; exact Nat.le_refl _)
set_option maxHeartbeats 400000 in
theorem refText_any (s : ByteArray) (w : World) (hs : s.size ≤ maxLen) :
    Calls Try.prog 18 #[.string s] w (RetOwn w (textOf (sbytes s))) := by
  obtain ⟨i0, hi, hz0, hz1, hz2⟩ := info_parts info_u8
  unfold maxLen at hs
  by_cases h255 : s.size ≤ 255
  · have HT := Lib.hid (textOf_short (bs := sbytes s) (by rw [sbytes_len]; exact h255))
    have HS := Lib.hid (sbytes_len s)
    rw [HT.out, HS.out]
    go_enter Try.func18, Try.ntmps18
    go_wp2_with (at_builtin; refine Lib.wpList_append_own_string _ rfl _ _ 26 9 rfl w.heap.size 5 i0 Try.underlying26 Try.underlying9 hi hz0 hz1 hz2 _ 1 [.int .u8 (s.size : Int)] rfl ?c1 s rfl ?c2 ?c3 ?c4 ?_)
    case c1 => exact own_lit1 w _
    case c2 => unfold maxLen; omega
    case c3 => omega
    case c4 => simp
    intro v' w' h1 h2 _
    go_wp2
    go_ret
    exact ⟨_, rfl, own_text h1 (by omega), bel_text h2⟩
  · have HC := Lib.hid (sbytes_cut s)
    have hmin : min 255 s.size = 255 := by omega
    obtain ⟨t, ht⟩ : ∃ t, t = s.extract 0 255 := ⟨_, rfl⟩
    have hts : t.size = 255 := by rw [ht]; simp; omega
    have HT : Hid (textOf (sbytes s) = 255 :: sbytes t) := by
      unfold Hid textOf
      rw [ht, HC.out]
      have h1 : ((sbytes s).take 255).length = 255 := by rw [List.length_take, sbytes_len]; omega
      rw [h1]
    have HTS := Lib.hid hts
    have HTT := Lib.hid ht
    clear hts ht
    rw [HT.out]
    go_enter Try.func18, Try.ntmps18
    go_wp2_with (at_builtin; refine Lib.wpList_append_own_string _ rfl _ _ 26 9 rfl w.heap.size 5 i0 Try.underlying26 Try.underlying9 hi hz0 hz1 hz2 _ 1 [.int .u8 255] rfl ?c1 _ rfl ?c2 ?c3 ?c4 ?_)
    case c1 => exact own_lit1 w _
    case c2 => rw [← HTT.out, HTS.out]; unfold maxLen; omega
    case c3 => rw [← HTT.out, HTS.out]; omega
    case c4 => simp
    rw [← HTT.out]
    intro v' w' h1 h2 _
    have h1' : w'.ownsRow w.heap.size 5 1 v' (1 + t.size) (Value.int .u8 ((255 : Nat) : Int) :: Lib.strCells t) := by rw [HTS.out]; exact h1
    have ho := own_text h1' (by omega)
    clear h1 h1'
    go_wp2
    go_ret
    exact ⟨_, rfl, ho, bel_text h2⟩

end Go.Proofs.Ytejhdafipjajnaa
