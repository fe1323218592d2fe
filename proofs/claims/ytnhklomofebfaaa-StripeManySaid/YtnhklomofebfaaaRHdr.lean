/- A header, and what stands beside a page, as lists of bytes. -/
import Derived.Test.YtnhklomofebfaaaPad
import Derived.Test.YtnhklomofebfaaaSumOf
import Derived.Test.YtnhklomofebfaaaReaderMore
namespace Go.Proofs.Ytnhklomofebfaaa
open Go.RowKit

/-- A header's seven numbers. -/
structure RH where
  ki : Nat
  ep : Nat
  ba : Nat
  ix : Nat
  ct : Nat
  bl : Nat
  mo : Nat
/-- They fit. -/
structure RH.Fits (h : RH) : Prop where
  ki : h.ki < 256
  ep : h.ep < 4294967296
  ba : h.ba < 4294967296
  ix : h.ix < 65536
  ct : h.ct < 65536
  bl : h.bl < 4294967296
  mo : h.mo < 4294967296
def RH.cells (h : RH) : Array Value := #[.int .u8 (h.ki : Int), .int .u32 (h.ep : Int), .int .u32 (h.ba : Int), .int .u16 (h.ix : Int), .int .u16 (h.ct : Int), .int .u32 (h.bl : Int), .int .u32 (h.mo : Int)]
/-- The first 24 bytes. -/
def headB (h : RH) : List Nat := (((([] ++ [22356].flatMap (Crc.les 2)) ++ [h.ki, 0]) ++ [h.ep, h.ba].flatMap (Crc.les 4)) ++ [h.ix, h.ct].flatMap (Crc.les 2)) ++ [h.bl, h.mo].flatMap (Crc.les 4)
/-- The last 32. -/
def tailB (b : List Nat) : List Nat := padTo (b.take 32) 32
def sumB (h : RH) (d b : List Nat) : Nat := Crc.of (headB h ++ d ++ tailB b)
def sealB (h : RH) (d b : List Nat) : List Nat := (headB h ++ [sumB h d b, 0].flatMap (Crc.les 4)) ++ tailB b
theorem headB_len (h : RH) : (headB h).length = 24 := by simp [headB, Crc.les_len]
theorem tailB_len (b : List Nat) : (tailB b).length = 32 := by
  unfold tailB padTo
  rw [List.length_append, List.length_replicate, List.length_take]
  have : (32 : Int).toNat = 32 := rfl
  omega
theorem sealB_len (h : RH) (d b : List Nat) : (sealB h d b).length = 64 := by
  unfold sealB
  rw [List.length_append, List.length_append, headB_len, tailB_len]
  simp [Crc.les_len]
theorem les_lt (k v : Nat) : ∀ x ∈ Crc.les k v, x < 256 := by
  induction k generalizing v with
  | zero => simp [Crc.les]
  | succ k ih =>
    intro x hx
    simp only [Crc.les, List.mem_cons] at hx
    rcases hx with rfl | hx
    · omega
    · exact ih _ x hx
theorem headB_lt {h : RH} (hf : h.Fits) : ∀ x ∈ headB h, x < 256 := by
  intro x hx
  simp only [headB, List.nil_append, List.mem_append, List.mem_flatMap, List.mem_cons, List.not_mem_nil, or_false] at hx
  have := hf.ki
  rcases hx with ((((⟨_, _, hx⟩) | hx) | ⟨_, _, hx⟩) | ⟨_, _, hx⟩) | ⟨_, _, hx⟩
  · exact les_lt _ _ x hx
  · omega
  · exact les_lt _ _ x hx
  · exact les_lt _ _ x hx
  · exact les_lt _ _ x hx
theorem tailB_lt {b : List Nat} (hb : ∀ x ∈ b, x < 256) : ∀ x ∈ tailB b, x < 256 := by
  intro x hx
  unfold tailB padTo at hx
  rw [List.mem_append] at hx
  rcases hx with hx | hx
  · exact hb x (List.mem_of_mem_take hx)
  · rw [List.eq_of_mem_replicate hx]; omega
theorem tailB_id {b : List Nat} (h : b.length = 32) : tailB b = b := by
  unfold tailB
  rw [List.take_of_length_le (by omega), padTo_le (by omega)]
theorem tailB_twice (b : List Nat) : tailB (tailB b) = tailB b := tailB_id (tailB_len b)
/-- The header in what stands beside a page. -/
def takeH (o : List Nat) : RH := ⟨o.getD 2 0, leVal ((o.drop 4).take 4), leVal ((o.drop 8).take 4), leVal ((o.drop 12).take 2), leVal ((o.drop 14).take 2), leVal ((o.drop 16).take 4), leVal ((o.drop 20).take 4)⟩
theorem leVal_take_lt {o : List Nat} (ho : ∀ x ∈ o, x < 256) (i k : Nat) (h : i + k ≤ o.length) : leVal ((o.drop i).take k) < 256 ^ k := by
  have h1 := leVal_lt ((o.drop i).take k) (fun y hy => ho y (List.mem_of_mem_drop (List.mem_of_mem_take hy)))
  rw [List.length_take, List.length_drop, Nat.min_eq_left (by omega)] at h1
  exact h1
theorem takeH_fits {o : List Nat} (ho : ∀ x ∈ o, x < 256) (hl : 24 ≤ o.length) : (takeH o).Fits := by
  refine ⟨getD_lt ho 2, ?_, ?_, ?_, ?_, ?_, ?_⟩
  · exact leVal_take_lt ho 4 4 (by omega)
  · exact leVal_take_lt ho 8 4 (by omega)
  · exact leVal_take_lt ho 12 2 (by omega)
  · exact leVal_take_lt ho 14 2 (by omega)
  · exact leVal_take_lt ho 16 4 (by omega)
  · exact leVal_take_lt ho 20 4 (by omega)
theorem leVal_les4 {v : Nat} (h : v < 4294967296) : leVal [v % 256, v / 256 % 256, v / 256 / 256 % 256, v / 256 / 256 / 256 % 256] = v := by
  simp only [leVal]; omega
theorem leVal_les2 {v : Nat} (h : v < 65536) : leVal [v % 256, v / 256 % 256] = v := by
  simp only [leVal]; omega
theorem takeH_seal {h : RH} (hf : h.Fits) (d b : List Nat) : takeH (sealB h d b) = h := by
  obtain ⟨h1, h2, h3, h4, h5, h6, h7⟩ := hf
  obtain ⟨ki, ep, ba, ix, ct, bl, mo⟩ := h
  simp only at h1 h2 h3 h4 h5 h6 h7
  unfold takeH sealB
  generalize sumB _ d b = s
  generalize tailB b = t
  simp only [headB, Crc.les, List.flatMap_cons, List.flatMap_nil, List.append_nil, List.nil_append, List.cons_append, List.drop_succ_cons, List.drop_zero, List.take_succ_cons, List.take_zero, List.getD_cons_succ, List.getD_cons_zero]
  rw [leVal_les4 h2, leVal_les4 h3, leVal_les2 h4, leVal_les2 h5, leVal_les4 h6, leVal_les4 h7]
theorem drop_seal (h : RH) (d b : List Nat) : (sealB h d b).drop 32 = tailB b := by
  unfold sealB
  rw [List.drop_append_of_le_length (by simp [headB_len, Crc.les_len]), List.drop_of_length_le (by simp [headB_len, Crc.les_len])]
  simp
theorem seal_tail (h : RH) (d b : List Nat) : sealB h d (tailB b) = sealB h d b := by
  unfold sealB sumB
  rw [tailB_twice]
def RH.zero : RH := ⟨0, 0, 0, 0, 0, 0, 0⟩
/-- What Open answers. -/
def OpenOk (d o : List Nat) : Prop := o.length = 64 ∧ 1 ≤ (takeH o).ki ∧ (takeH o).ki ≤ 6 ∧ o = sealB (takeH o) d (o.drop 32)
instance (d o : List Nat) : Decidable (OpenOk d o) := by unfold OpenOk; infer_instance
def openH (d o : List Nat) : RH := if OpenOk d o then takeH o else RH.zero
theorem openOk_seal {h : RH} (hf : h.Fits) (d b : List Nat) : OpenOk d (sealB h d b) ↔ (1 ≤ h.ki ∧ h.ki ≤ 6) := by
  unfold OpenOk
  rw [takeH_seal hf, drop_seal, seal_tail]
  simp [sealB_len]
theorem openH_seal {h : RH} (hf : h.Fits) (d b : List Nat) (hk : 1 ≤ h.ki ∧ h.ki ≤ 6) : openH d (sealB h d b) = h := by
  unfold openH
  rw [if_pos ((openOk_seal hf d b).2 hk), takeH_seal hf]

end Go.Proofs.Ytnhklomofebfaaa
