/- gabionlaw01.lay: an item is laid by both. -/
import Derived.Test.YtdpkinppkhnjkaaDoorRefText
import Derived.Test.YtdpkinppkhnjkaaDoorTwoRows
import Derived.Test.YtdpkinppkhnjkaaDoorLaid
namespace Go.Proofs.YtdpkinppkhnjkaaDoor
open Go.RowKit

/-- What an item lays behind some bytes. -/
def layItem (k : Int) (n : Nat) (bs X : List Nat) : List Nat :=
  if k = 1 then X ++ Crc.les 1 n else if k = 2 then X ++ Crc.les 2 n else if k = 3 then X ++ bs else if k = 4 then X ++ Crc.les 4 n else if k = 5 then X ++ textOf bs else if k = 6 then padTo X ((n % 600 : Nat) : Int) else if k = 8 then X ++ Crc.les 8 n else X
theorem les_mod (k v : Nat) : Crc.les k (v % 256 ^ k) = Crc.les k v := by
  induction k generalizing v with
  | zero => rfl
  | succ k ih =>
    simp only [Crc.les]
    have h1 : v % 256 ^ (k + 1) % 256 = v % 256 := by
      rw [Nat.pow_succ, Nat.mul_comm, Nat.mod_mul_right_mod]
    have h2 : v % 256 ^ (k + 1) / 256 = (v / 256) % 256 ^ k := by
      rw [Nat.pow_succ, Nat.mul_comm, Nat.mod_mul_right_div_self]
    rw [h1, h2, ih]
theorem sbytes_strOf {bs : List Nat} (h : ∀ x ∈ bs, x < 256) : sbytes (strOf bs) = bs := by
  unfold sbytes strOf
  simp only [List.map_map]
  apply List.ext_getElem
  · simp
  · intro i h1 h2
    have := h bs[i] (List.getElem_mem _)
    simp
    omega
theorem strOf_size (bs : List Nat) : (strOf bs).size = bs.length := by
  unfold strOf
  show (bs.map UInt8.ofNat).toArray.size = bs.length
  simp
theorem moved_cell {w w' : World} {pw b off : Nat} {sv sv' v : Value} (hm : Moved w pw sv sv' w') (h : w.cell? ⟨b, off, none⟩ = some v) (hne : b ≠ pw ∧ some b ≠ sv.ownBlock) : w'.cell? ⟨b, off, none⟩ = some v := by
  rw [World.cell?_of_block (a := ⟨b, off, none⟩) (hm.block b (World.block_lt_of_cell? w ⟨b, off, none⟩ h) hne.1 hne.2)]; exact h
theorem below_cell {w w' : World} {b off : Nat} {v : Value} (hb : Below w.heap.size w w') (h : w.cell? ⟨b, off, none⟩ = some v) : w'.cell? ⟨b, off, none⟩ = some v := by
  rw [hb.cell (p := ⟨b, off, none⟩) (World.block_lt_of_cell? w ⟨b, off, none⟩ h)]; exact h
theorem cell_new3 (w : World) (v0 v1 v2 : Value) (t : TypeId) : (w.alloc (.cells #[v0, v1, v2] t)).cell? ⟨w.heap.size, 1, none⟩ = some v1 ∧ (w.alloc (.cells #[v0, v1, v2] t)).cell? ⟨w.heap.size, 2, none⟩ = some v2 := by
  constructor
  · rw [World.cell?_alloc_mark w #[v0, v1, v2] t (0, 0) 1]; rfl
  · rw [World.cell?_alloc_mark w #[v0, v1, v2] t (0, 0) 2]; rfl
theorem row_b {B : Nat} {w w' : World} {a : Option Addr} {len : Nat} {bs : List Nat} (h : Row w a len bs) (hb : Below B w w') (hlt : 0 < len → ∀ x, a = some x → x.block < B) : Row w' a len bs := by
  rcases Nat.eq_zero_or_pos len with h0 | h0
  · exact ⟨h.1, h.2.1, fun h1 => by omega⟩
  · exact row_below h hb (hlt h0)
theorem own_cap {B : Nat} {w : World} {bs : List Nat} {a : Option Addr} {n c : Nat} (h : Own B w (.slice a n c) bs) : n ≤ c ∧ c ≤ maxLen := by
  rcases h.1.2 with ⟨e, _⟩ | ⟨g, cap, cur, e, _, _, h1, h2, _⟩
  · simp only [Value.slice.injEq] at e
    obtain ⟨_, rfl, rfl⟩ := e
    exact ⟨Nat.le_refl _, Nat.zero_le _⟩
  · simp only [Value.slice.injEq] at e
    obtain ⟨_, rfl, rfl⟩ := e
    exact ⟨h1, h2⟩
theorem row_one_at {w : World} {x : Nat} {b : Nat} (hx : x < 256) (hb : w.heap.size = b) : Row (w.alloc (.cells #[.int .u8 (x : Int)] 5)) (some ⟨b, 0, none⟩) 1 [x] := by
  subst hb; exact row_one w x hx
theorem les_one (n : Nat) : Crc.les 1 n = [n % 256] := rfl
section
variable (B pw : Nat) (sv : Value) (X Y : List Nat) (ov : Value) (n m c : Nat) (xa : Option Addr) (bs : List Nat) (w : World)

end

end Go.Proofs.YtdpkinppkhnjkaaDoor
