/- gabionref03.Step: the letter at a byte of a text. -/
import Derived.Test.YtdpkinppkhnjkaaDoorNRunes
namespace Go.Proofs.YtdpkinppkhnjkaaDoor
open Go.RowKit

/-- The bytes behind the first one. -/
def contF (s : ByteArray) : Nat → Nat → Nat → Option Nat
  | 0, _, v => some v
  | f + 1, i, v => if (s.get! i).toNat < 128 ∨ 191 < (s.get! i).toNat then none else contF s f (i + 1) (v * 64 + (s.get! i).toNat - 128)
def endF (low n : Nat) : Option Nat → Nat × Nat × Bool
  | none => (65533, 1, false)
  | some v => if v < low ∨ 1114111 < v ∨ (55296 ≤ v ∧ v ≤ 57343) then (65533, 1, false) else (v, n, true)
def tailF (s : ByteArray) (p n low v : Nat) : Nat × Nat × Bool := if s.size < p + n then (65533, 1, false) else endF low n (contF s (n - 1) (p + 1) v)
/-- What the letter at a place is: itself, its bytes, whether it is one. -/
def stepOf (s : ByteArray) (p : Nat) : Nat × Nat × Bool :=
  ((Utf8.decode s p).1, (Utf8.decode s p).2, decide (¬ ((Utf8.decode s p).1 = 65533 ∧ (Utf8.decode s p).2 = 1)))
def okN (d : Nat × Nat) : Nat × Nat × Bool := (d.1, d.2, decide (¬ (d.1 = 65533 ∧ d.2 = 1)))
theorem stepOf_eq (s : ByteArray) (p : Nat) : stepOf s p = okN (Lib.decodeN (s.size - p) (s.get! p).toNat (s.get! (p + 1)).toNat (s.get! (p + 2)).toNat (s.get! (p + 3)).toNat) := by
  rw [← Lib.decode_at]; rfl
theorem stepOf_low {s : ByteArray} {p : Nat} (h : (s.get! p).toNat < 128) : stepOf s p = ((s.get! p).toNat, 1, true) := by
  rw [stepOf_eq]
  unfold Lib.decodeN okN
  rw [if_pos h]
  simp; omega
theorem stepOf_none {s : ByteArray} {p : Nat} (h0 : 128 ≤ (s.get! p).toNat) (h : (s.get! p).toNat < 194 ∨ 245 ≤ (s.get! p).toNat) (hp : p < s.size) : stepOf s p = (65533, 1, false) := by
  rw [stepOf_eq]
  have h1 := (s.get! (p + 1)).toNat_lt
  have h2 := (s.get! (p + 2)).toNat_lt
  have h3 := (s.get! (p + 3)).toNat_lt
  have hb := (s.get! p).toNat_lt
  generalize (s.get! p).toNat = b0 at *
  generalize (s.get! (p + 1)).toNat = b1 at *
  generalize (s.get! (p + 2)).toNat = b2 at *
  generalize (s.get! (p + 3)).toNat = b3 at *
  have : Lib.decodeN (s.size - p) b0 b1 b2 b3 = (65533, 1) := by
    unfold Lib.decodeN
    repeat' split
    all_goals first | rfl | (exfalso; omega)
  rw [this]; rfl
theorem okN_of {d : Nat × Nat} {r : Nat × Nat × Bool} (h1 : d.1 = r.1) (h2 : d.2 = r.2.1) (h3 : r.2.2 = true ↔ ¬ (d.1 = 65533 ∧ d.2 = 1)) : okN d = r := by
  obtain ⟨a, b⟩ := d
  obtain ⟨x, y, z⟩ := r
  simp only at h1 h2 h3
  subst h1 h2
  unfold okN
  simp only [Prod.mk.injEq, true_and]
  cases z with
  | true => exact decide_eq_true (h3.1 rfl)
  | false => exact decide_eq_false fun h => by simpa using h3.2 h
theorem endF_if (low n : Nat) (c : Prop) [Decidable c] (x : Option Nat) : endF low n (if c then none else x) = if c then (65533, 1, false) else endF low n x := by split <;> rfl
theorem endF_some (low n v : Nat) : endF low n (some v) = if v < low ∨ 1114111 < v ∨ (55296 ≤ v ∧ v ≤ 57343) then (65533, 1, false) else (v, n, true) := rfl
set_option maxRecDepth 100000 in
set_option maxHeartbeats 4000000 in
theorem stepOf_two {s : ByteArray} {p : Nat} (h0 : 194 ≤ (s.get! p).toNat) (h : (s.get! p).toNat < 224) (hp : p < s.size) : stepOf s p = tailF s p 2 128 ((s.get! p).toNat - 192) := by
  rw [stepOf_eq]
  unfold tailF
  simp only [contF, Nat.add_one_sub_one, endF_if, endF_some]
  have h1 := (s.get! (p + 1)).toNat_lt
  have h2 := (s.get! (p + 2)).toNat_lt
  have h3 := (s.get! (p + 3)).toNat_lt
  have hb := (s.get! p).toNat_lt
  have hz : s.size - p + p = s.size := by omega
  generalize (s.get! p).toNat = b0 at *
  generalize (s.get! (p + 1)).toNat = b1 at *
  generalize (s.get! (p + 2)).toNat = b2 at *
  generalize (s.get! (p + 3)).toNat = b3 at *
  generalize s.size - p = n at *
  apply okN_of
  all_goals
    unfold Lib.decodeN
    repeat' split
    all_goals first | (exfalso; omega) | rfl | (simp only <;> omega) | (simp; done) | (simp; omega)
set_option maxRecDepth 100000 in
set_option maxHeartbeats 4000000 in
theorem stepOf_three {s : ByteArray} {p : Nat} (h0 : 224 ≤ (s.get! p).toNat) (h : (s.get! p).toNat < 240) (hp : p < s.size) : stepOf s p = tailF s p 3 2048 ((s.get! p).toNat - 224) := by
  rw [stepOf_eq]
  unfold tailF
  simp only [contF, Nat.add_one_sub_one, endF_if, endF_some, Nat.add_assoc, Nat.reduceAdd]
  have h1 := (s.get! (p + 1)).toNat_lt
  have h2 := (s.get! (p + 2)).toNat_lt
  have h3 := (s.get! (p + 3)).toNat_lt
  have hb := (s.get! p).toNat_lt
  have hz : s.size - p + p = s.size := by omega
  generalize (s.get! p).toNat = b0 at *
  generalize (s.get! (p + 1)).toNat = b1 at *
  generalize (s.get! (p + 2)).toNat = b2 at *
  generalize (s.get! (p + 3)).toNat = b3 at *
  generalize s.size - p = n at *
  apply okN_of
  all_goals
    unfold Lib.decodeN
    repeat' split
    all_goals first | (exfalso; omega) | rfl | (simp only <;> omega) | (simp; done) | (simp; omega)
set_option maxRecDepth 100000 in
set_option maxHeartbeats 4000000 in
theorem stepOf_four {s : ByteArray} {p : Nat} (h0 : 240 ≤ (s.get! p).toNat) (h : (s.get! p).toNat < 245) (hp : p < s.size) : stepOf s p = tailF s p 4 65536 ((s.get! p).toNat - 240) := by
  rw [stepOf_eq]
  unfold tailF
  simp only [contF, Nat.add_one_sub_one, endF_if, endF_some, Nat.add_assoc, Nat.reduceAdd]
  have h1 := (s.get! (p + 1)).toNat_lt
  have h2 := (s.get! (p + 2)).toNat_lt
  have h3 := (s.get! (p + 3)).toNat_lt
  have hb := (s.get! p).toNat_lt
  have hz : s.size - p + p = s.size := by omega
  generalize (s.get! p).toNat = b0 at *
  generalize (s.get! (p + 1)).toNat = b1 at *
  generalize (s.get! (p + 2)).toNat = b2 at *
  generalize (s.get! (p + 3)).toNat = b3 at *
  generalize s.size - p = n at *
  apply okN_of
  all_goals
    unfold Lib.decodeN
    repeat' split
    all_goals first | (exfalso; omega) | rfl | (simp only <;> omega) | (simp; done) | (simp; omega)

theorem idx_str (s : ByteArray) (p : Nat) (hp : p < s.size) (w : World) : (Instr.index 9 (.string s) (.int .i64 (p : Int))).run Tryd.prog w = .ok (.int .u8 ((s.get! p).toNat : Int)) w := by
  rw [run_index_string (P := Tryd.prog) w 9 s .i64 (p : Int) Tryd.underlying9, dif_pos (by omega)]
  simp only [Int.toNat_natCast]
  rw [← Utf8W.get!_of_lt s p hp]
end Go.Proofs.YtdpkinppkhnjkaaDoor
