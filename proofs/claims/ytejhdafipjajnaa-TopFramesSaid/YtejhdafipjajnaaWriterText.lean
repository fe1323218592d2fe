/- The writer's Text and Pad. -/
import Derived.Test.YtejhdafipjajnaaWriterCalls
namespace Go.Proofs.Ytejhdafipjajnaa
open Go.RowKit

/-- A string's bytes. -/
def sbytes (s : ByteArray) : List Nat := s.data.toList.map UInt8.toNat
theorem sbytes_len (s : ByteArray) : (sbytes s).length = s.size := by unfold sbytes; simp
theorem sbytes_lt (s : ByteArray) : ∀ x ∈ sbytes s, x < 256 := by
  intro x hx
  unfold sbytes at hx
  rw [List.mem_map] at hx
  obtain ⟨y, _, rfl⟩ := hx
  exact y.toNat_lt
/-- What Text lays: how many bytes, and these. -/
def textOf (bs : List Nat) : List Nat := (bs.take 255).length :: bs.take 255
theorem row_str (w : World) (s : ByteArray) (fr : Nat × Nat) (cap : Nat) : Row (w.drew.alloc (.cells (bytesRow s cap) 5 fr)) (some ⟨w.heap.size, 0, none⟩) s.size (sbytes s) := by
  refine ⟨sbytes_len s, sbytes_lt s, fun _ => ⟨_, 0, rfl, fun i hi => ?_⟩⟩
  have h1 := World.cell?_alloc_mark w.drew (bytesRow s cap) 5 fr (0 + i)
  have h2 : (bytesRow s cap)[0 + i]? = some (.int .u8 (((sbytes s).getD i 0 : Nat) : Int)) := by
    rw [Nat.zero_add, getD_in _ _ (by rw [sbytes_len]; exact hi)]
    unfold bytesRow sbytes
    have hi' : i < s.data.size := hi
    rw [Array.getElem?_append_left (by simpa using hi')]
    rw [Array.getElem?_map, Array.getElem?_eq_getElem hi']
    simp
  rw [h2] at h1
  exact h1

theorem sbytes_cut (s : ByteArray) : sbytes (s.extract 0 255) = (sbytes s).take 255 := by
  unfold sbytes
  rw [← List.map_take]
  congr 1
  simp [ByteArray.data_extract]
theorem bel_str (w : World) (o : Obj) : Below w.heap.size w (w.drew.alloc o) := ((Below.refl _ w).drew).alloc (Nat.le_refl _) o
theorem textOf_short {bs : List Nat} (h : bs.length ≤ 255) : textOf bs = [bs.length] ++ bs := by
  unfold textOf; rw [List.take_of_length_le h]; rfl

set_option maxHeartbeats 400000 in
theorem wText_any (pw B : Nat) (sv : Value) (bs : List Nat) (w : World) (hw : WR B w pw sv bs) (hB : B ≤ w.heap.size) (s : ByteArray) (hs : s.size ≤ maxLen) (hlen : bs.length ≤ 1000000) :
    Calls Try.prog 30 #[.pointer (some ⟨pw, 0, none⟩), .string s] w (WRet w pw B sv (bs ++ textOf (sbytes s))) := by
  unfold maxLen at hs
  by_cases h255 : s.size ≤ 255
  · have HT := Lib.hid (textOf_short (bs := sbytes s) (by rw [sbytes_len]; exact h255))
    have HS := Lib.hid (sbytes_len s)
    rw [HT.out, HS.out, ← List.append_assoc]
    have hcv := fun wx => run_bytes_of_string (P := Try.prog) wx 9 26 5 s Try.underlying9 Try.underlying26 Try.underlying5
    go_enter Try.func30, Try.ntmps30
    go_wp2_with fail
    refine (wU8_any pw B sv bs _ (wr_keep hw ((Below.refl _ w).alloc (Nat.le_refl _) _)) (by simp; omega) _ 1 1 [s.size] (row_one _ _ (by omega)) (fun h => by cases h) (by omega)).mono ?_
    rintro e w1 ⟨rfl, sv1, hw1, hm1⟩
    have hB1 : B ≤ w1.heap.size := by have := hm1.size; simp at this; omega
    go_wp2_with fail
    refine (raw_any pw B sv1 _ _ (wr_keep hw1 (bel_str w1 _)) (by simp; omega) _ _ _ (sbytes s) (row_str w1 s _ _) (fun h => by cases h) (by simp; omega)).mono ?_
    rintro e w2 ⟨rfl, sv2, hw2, hm2⟩
    go_wp2
    go_ret
    exact ⟨rfl, sv2, hw2, ((moved_of_below ((Below.refl _ w).alloc (Nat.le_refl _) _) pw sv).trans hm1).trans ((moved_of_below (bel_str w1 _) pw sv1).trans hm2)⟩
  · have HC := Lib.hid (sbytes_cut s)
    have hmin : min 255 s.size = 255 := by omega
    obtain ⟨t, ht⟩ : ∃ t, t = s.extract 0 255 := ⟨_, rfl⟩
    have hts : t.size = 255 := by rw [ht]; simp; omega
    have HT : Hid (textOf (sbytes s) = [255] ++ sbytes t) := by
      unfold Hid textOf
      rw [ht, HC.out]
      have h1 : ((sbytes s).take 255).length = 255 := by rw [List.length_take, sbytes_len]; omega
      rw [h1]; rfl
    have HTS := Lib.hid hts
    have HTT := Lib.hid ht
    clear hts ht
    rw [HT.out, ← List.append_assoc]
    have hcv := fun wx => run_bytes_of_string (P := Try.prog) wx 9 26 5 t Try.underlying9 Try.underlying26 Try.underlying5
    go_enter Try.func30, Try.ntmps30
    go_wp2_with fail
    rw [← HTT.out]
    refine (wU8_any pw B sv bs _ (wr_keep hw ((Below.refl _ w).alloc (Nat.le_refl _) _)) (by simp; omega) _ 1 1 [255] (row_one _ _ (by omega)) (fun h => by cases h) (by omega)).mono ?_
    rintro e w1 ⟨rfl, sv1, hw1, hm1⟩
    have hB1 : B ≤ w1.heap.size := by have := hm1.size; simp at this; omega
    go_wp2_with fail
    refine (raw_any pw B sv1 _ _ (wr_keep hw1 (bel_str w1 _)) (by simp; omega) _ _ _ (sbytes t) (row_str w1 t _ _) (fun h => by cases h) (by have := HTS.out; simp; omega)).mono ?_
    rintro e w2 ⟨rfl, sv2, hw2, hm2⟩
    go_wp2
    go_ret
    exact ⟨rfl, sv2, hw2, ((moved_of_below ((Below.refl _ w).alloc (Nat.le_refl _) _) pw sv).trans hm1).trans ((moved_of_below (bel_str w1 _) pw sv1).trans hm2)⟩

end Go.Proofs.Ytejhdafipjajnaa
