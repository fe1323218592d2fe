/- Parts of the proof: SumOf, RHdr, PageParts. -/
import Derived.Test.YthgcjiocelcblaaGreatK00
import Derived.Test.YthgcjiocelcblaaGreatK02
import Derived.Test.YthgcjiocelcblaaGreatK03
import Derived.Test.YthgcjiocelcblaaGreatK11
import Derived.Deep.DeepCutAuto
namespace Go.Proofs.YthgcjiocelcblaaGreat
open Go.RowKit

theorem odd_test (m : Nat) (hm : m < 4294967296) : (bits BinOp.and IntKind.u32 (m : Int) 1 == 1) = decide (m % 2 = 1) := by
  have h := u32_and_nat m 1 hm (by omega)
  rw [nat_mask1] at h
  have h' : bits BinOp.and IntKind.u32 (m : Int) 1 = ((m % 2 : Nat) : Int) := h
  rw [h', Bool.eq_iff_iff]; simp; omega
theorem xor_poly (m : Nat) (hm : m < 4294967296) : bits BinOp.xor IntKind.u32 ((m : Int) / 2) 2197175160 = ((m / 2 ^^^ 2197175160 : Nat) : Int) :=
  u32_xor_nat (m / 2) 2197175160 (by omega) (by omega)
theorem step_odd {k m n : Nat} (hk : (k : Int) < 8) (hm : m < 4294967296) (hs : Crc.stps (8 - k) m = Crc.stps 8 n) (ht : (bits BinOp.and IntKind.u32 (m : Int) 1 == 1) = true) :
    Crc.stps (8 - (k + 1)) (m / 2 ^^^ 2197175160) = Crc.stps 8 n ∧ m / 2 ^^^ 2197175160 < 4294967296 := by
  rw [odd_test m hm] at ht
  have h1 : m % 2 = 1 := of_decide_eq_true ht
  have h2 : Crc.stp m = m / 2 ^^^ 2197175160 := by unfold Crc.stp; rw [if_pos h1]
  rw [show 8 - k = (8 - (k + 1)) + 1 by omega] at hs
  exact ⟨by rw [← h2]; exact hs, by rw [← h2]; exact Crc.stp_lt hm⟩
theorem step_even {k m n : Nat} (hk : (k : Int) < 8) (hm : m < 4294967296) (hs : Crc.stps (8 - k) m = Crc.stps 8 n) (ht : (bits BinOp.and IntKind.u32 (m : Int) 1 == 1) = false) :
    Crc.stps (8 - (k + 1)) (m / 2) = Crc.stps 8 n ∧ m / 2 < 4294967296 := by
  rw [odd_test m hm] at ht
  have h1 : ¬ m % 2 = 1 := of_decide_eq_false ht
  have h2 : Crc.stp m = m / 2 := by unfold Crc.stp; rw [if_neg h1]
  rw [show 8 - k = (8 - (k + 1)) + 1 by omega] at hs
  exact ⟨by rw [← h2]; exact hs, by omega⟩

set_option maxHeartbeats 400000 in
theorem halve_any (n : Nat) (w : World) (hn : n < 4294967296) :
    Calls Tryz.prog 107 #[.int .u32 (n : Int)] w fun e w' => e = .returned (.int .u32 ((Crc.stps 8 n : Nat) : Int)) ∧ w = w' := by
  go_enter Tryz.func107, Tryz.ntmps107
  go_wp2
  go_loop [0, 3, 4] (fun a b i => ∃ k m : Nat, k ≤ 8 ∧ m < 4294967296 ∧ Crc.stps (8 - k) m = Crc.stps 8 n ∧ i = .int .i64 k ∧ a = .int .u32 (m : Int)) (fun _ _ i => 8 - (intOf i).toNat)
  case atStart => exact ⟨0, n, by omega, hn, rfl, rfl, rfl⟩
  case round =>
    obtain ⟨k, m, hk, hm, hs, rfl, rfl⟩ := hrel
    go_wp2
    · have hlt : (k : Int) < 8 := by assumption
      have ht : (bits BinOp.and IntKind.u32 (m : Int) 1 == 1) = true := by assumption
      have hx := step_odd hlt hm hs ht
      go_round
      case rel => exact ⟨k + 1, m / 2 ^^^ 2197175160, by omega, hx.2, hx.1, by go_num, by rw [xor_poly m hm]⟩
      case measure => simp [intOf]; omega
    · have hlt : (k : Int) < 8 := by assumption
      have ht : (bits BinOp.and IntKind.u32 (m : Int) 1 == 1) = false := by assumption
      have hx := step_even hlt hm hs ht
      go_round
      case rel => exact ⟨k + 1, m / 2, by omega, hx.2, hx.1, by go_num, by go_num⟩
      case measure => simp [intOf]; omega
    · have hge : (8 : Int) ≤ k := by assumption
      obtain rfl : k = 8 := by omega
      go_ret
      have hs' : m = Crc.stps 8 n := hs
      exact ⟨ret_int (by rw [hs']), rfl⟩

end Go.Proofs.YthgcjiocelcblaaGreat

namespace Go.Proofs.YthgcjiocelcblaaGreat
open Go.RowKit

/-- The first n of some parts, one behind the other. -/
def flat (B : Nat → List Nat) : Nat → List Nat
  | 0 => []
  | n + 1 => flat B n ++ B n

theorem u8_to_u32 (x : Nat) (hx : x < 256) : IntKind.u32.wrap (x : Int) = (x : Int) := by rw [IntKind.wrap_u32]; omega
theorem xor_byte (s x : Nat) (hs : s < 4294967296) (hx : x < 256) : bits BinOp.xor IntKind.u32 (s : Int) (x : Int) = ((s ^^^ x : Nat) : Int) :=
  u32_xor_nat s x hs (by omega)
theorem xor_byte_lt (s x : Nat) (hs : s < 4294967296) (hx : x < 256) : s ^^^ x < 4294967296 := Nat.xor_lt_two_pow (n := 32) hs (by omega)

theorem not_u32 (s : Nat) (hs : s < 4294967296) : bits BinOp.xor IntKind.u32 4294967295 (s : Int) = ((4294967295 - s : Nat) : Int) := by
  rw [Crc.ones_sub s hs]; exact u32_xor_nat 4294967295 s (by omega) hs
theorem flat_lt (B : Nat → List Nat) (n : Nat) (h : ∀ i, i < n → ∀ x ∈ B i, x < 256) (k : Nat) (hk : k ≤ n) : ∀ x ∈ flat B k, x < 256 := by
  induction k with
  | zero => intro x hx; cases hx
  | succ k ih =>
    intro x hx
    simp only [flat, List.mem_append] at hx
    rcases hx with hx | hx
    · exact ih (by omega) x hx
    · exact h k (by omega) x hx
theorem flat_lt2 (B : Nat → List Nat) (k j n : Nat) (hk : k < n) (h : ∀ i, i < n → ∀ x ∈ B i, x < 256) : ∀ x ∈ flat B k ++ (B k).take j, x < 256 := by
  intro x hx
  rw [List.mem_append] at hx
  rcases hx with hx | hx
  · exact flat_lt B n h k (by omega) x hx
  · exact h k hk x (List.mem_of_mem_take hx)

set_option maxHeartbeats 400000 in
theorem of_any (n : Nat) (a0 : Option Addr) (cap : Nat) (A : Nat → Option Addr) (L C : Nat → Nat) (B : Nat → List Nat) (w : World) (hn : n ≤ maxLen)
    (hp : 0 < n → ∃ b off, a0 = some ⟨b, off, none⟩ ∧ ∀ i, i < n → w.cell? ⟨b, off + i, none⟩ = some (.slice (A i) (L i) (C i)))
    (hr : ∀ i, i < n → L i ≤ maxLen ∧ Row w (A i) (L i) (B i)) :
    Calls Tryz.prog 91 #[.slice a0 n cap] w fun e w' => e = .returned (.int .u32 ((Crc.of (flat B n) : Nat) : Int)) ∧ w = w' := by
  unfold maxLen at hn hr
  go_enter Tryz.func91, Tryz.ntmps91
  go_wp2
  go_loop [3, 10] (fun s i => ∃ k : Nat, k ≤ n ∧ i = .int .i64 k ∧ s = .int .u32 ((Crc.run 4294967295 (flat B k) : Nat) : Int)) (fun _ i => n - (intOf i).toNat)
  case atStart => exact ⟨0, by omega, rfl, rfl⟩
  case round =>
    obtain ⟨k, hk, rfl, rfl⟩ := hrel
    by_cases hlt : k < n
    · obtain ⟨b, off, ha0, hcell⟩ := hp (by omega)
      subst ha0
      have hck := hcell k hlt
      obtain ⟨hLk, hlen, hby, hrow⟩ := hr k hlt
      go_wp2
      go_loop [3, 16] (fun s i => ∃ j : Nat, j ≤ L k ∧ i = .int .i64 j ∧ s = .int .u32 ((Crc.run 4294967295 (flat B k ++ (B k).take j) : Nat) : Int)) (fun _ i => L k - (intOf i).toNat)
      case atStart => exact ⟨0, by omega, rfl, by simp⟩
      case round =>
        obtain ⟨j, hj, rfl, rfl⟩ := hrel
        by_cases hlj : j < L k
        · obtain ⟨b1, off1, ha1, hc1⟩ := hrow (by omega)
          have hcj := hc1 j hlj
          have hbl := getD_lt hby j
          have hsl := Crc.run_lt (s := 4294967295) (flat B k ++ (B k).take j) (by omega) (flat_lt2 B k j n hlt (fun i hi => (hr i hi).2.2.1))
          have HT := Lib.hid (take_snoc_getD (B k) j (by omega))
          obtain ⟨x, hx⟩ : ∃ x, x = (B k).getD j 0 := ⟨_, rfl⟩
          rw [← hx] at hcj hbl
          have HX := Lib.hid hx
          have HA := Lib.hid ha1
          clear hx ha1 hc1 hck hcell hrow
          rw [HA.out]
          go_wp2_with fail
          rw [xor_byte _ _ hsl hbl]
          refine (halve_any _ _ (xor_byte_lt _ _ hsl hbl)).mono ?_
          rintro e w' ⟨rfl, rfl⟩
          go_wp2
          go_round
          case rel => exact ⟨j + 1, by omega, by go_num, by rw [HT.out, ← HX.out, ← List.append_assoc, Crc.run_append _ (flat B k ++ List.take j (B k))]; rfl⟩
          case measure => simp [intOf]; omega
        · obtain rfl : j = L k := by omega
          have HF := Lib.hid (show flat B k ++ (B k).take (L k) = flat B (k + 1) by rw [← hlen, List.take_length]; rfl)
          go_wp2
          go_round
          case rel => exact ⟨k + 1, by omega, by go_num, by rw [HF.out]⟩
          case measure => simp [intOf]; omega
    · obtain rfl : k = n := by omega
      have hsl := Crc.run_lt (s := 4294967295) (flat B k) (by omega) (flat_lt B k (fun i hi => (hr i hi).2.2.1) k (by omega))
      have HE := Lib.hid (not_u32 _ hsl)
      go_wp2
      go_ret
      exact ⟨ret_int HE.out, rfl⟩

end Go.Proofs.YthgcjiocelcblaaGreat

namespace Go.Proofs.YthgcjiocelcblaaGreat
open Go.RowKit

/-- A header's seven numbers. -/
structure RH where
  ki : Nat
  ep : Nat
  ba : Nat
  ix : Nat
  ct : Nat
  bl : Nat
  mo : Nat
/-- They fit. -/
structure RH.Fits (h : RH) : Prop where
  ki : h.ki < 256
  ep : h.ep < 4294967296
  ba : h.ba < 4294967296
  ix : h.ix < 65536
  ct : h.ct < 65536
  bl : h.bl < 4294967296
  mo : h.mo < 4294967296
def RH.cells (h : RH) : Array Value := #[.int .u8 (h.ki : Int), .int .u32 (h.ep : Int), .int .u32 (h.ba : Int), .int .u16 (h.ix : Int), .int .u16 (h.ct : Int), .int .u32 (h.bl : Int), .int .u32 (h.mo : Int)]
/-- The first 24 bytes. -/
def headB (h : RH) : List Nat := (((([] ++ [22356].flatMap (Crc.les 2)) ++ [h.ki, 0]) ++ [h.ep, h.ba].flatMap (Crc.les 4)) ++ [h.ix, h.ct].flatMap (Crc.les 2)) ++ [h.bl, h.mo].flatMap (Crc.les 4)
/-- The last 32. -/
def tailB (b : List Nat) : List Nat := padTo (b.take 32) 32
def sumB (h : RH) (d b : List Nat) : Nat := Crc.of (headB h ++ d ++ tailB b)
def sealB (h : RH) (d b : List Nat) : List Nat := (headB h ++ [sumB h d b, 0].flatMap (Crc.les 4)) ++ tailB b
theorem headB_len (h : RH) : (headB h).length = 24 := by simp [headB, Crc.les_len]
theorem tailB_len (b : List Nat) : (tailB b).length = 32 := by
  unfold tailB padTo
  rw [List.length_append, List.length_replicate, List.length_take]
  have : (32 : Int).toNat = 32 := rfl
  omega
theorem sealB_len (h : RH) (d b : List Nat) : (sealB h d b).length = 64 := by
  unfold sealB
  rw [List.length_append, List.length_append, headB_len, tailB_len]
  simp [Crc.les_len]
theorem les_lt (k v : Nat) : ∀ x ∈ Crc.les k v, x < 256 := by
  induction k generalizing v with
  | zero => simp [Crc.les]
  | succ k ih =>
    intro x hx
    simp only [Crc.les, List.mem_cons] at hx
    rcases hx with rfl | hx
    · omega
    · exact ih _ x hx
theorem headB_lt {h : RH} (hf : h.Fits) : ∀ x ∈ headB h, x < 256 := by
  intro x hx
  simp only [headB, List.nil_append, List.mem_append, List.mem_flatMap, List.mem_cons, List.not_mem_nil, or_false] at hx
  have := hf.ki
  rcases hx with ((((⟨_, _, hx⟩) | hx) | ⟨_, _, hx⟩) | ⟨_, _, hx⟩) | ⟨_, _, hx⟩
  · exact les_lt _ _ x hx
  · omega
  · exact les_lt _ _ x hx
  · exact les_lt _ _ x hx
  · exact les_lt _ _ x hx
theorem tailB_lt {b : List Nat} (hb : ∀ x ∈ b, x < 256) : ∀ x ∈ tailB b, x < 256 := by
  intro x hx
  unfold tailB padTo at hx
  rw [List.mem_append] at hx
  rcases hx with hx | hx
  · exact hb x (List.mem_of_mem_take hx)
  · rw [List.eq_of_mem_replicate hx]; omega
theorem tailB_id {b : List Nat} (h : b.length = 32) : tailB b = b := by
  unfold tailB
  rw [List.take_of_length_le (by omega), padTo_le (by omega)]
theorem tailB_twice (b : List Nat) : tailB (tailB b) = tailB b := tailB_id (tailB_len b)
/-- The header in what stands beside a page. -/
def takeH (o : List Nat) : RH := ⟨o.getD 2 0, leVal ((o.drop 4).take 4), leVal ((o.drop 8).take 4), leVal ((o.drop 12).take 2), leVal ((o.drop 14).take 2), leVal ((o.drop 16).take 4), leVal ((o.drop 20).take 4)⟩
theorem leVal_take_lt {o : List Nat} (ho : ∀ x ∈ o, x < 256) (i k : Nat) (h : i + k ≤ o.length) : leVal ((o.drop i).take k) < 256 ^ k := by
  have h1 := leVal_lt ((o.drop i).take k) (fun y hy => ho y (List.mem_of_mem_drop (List.mem_of_mem_take hy)))
  rw [List.length_take, List.length_drop, Nat.min_eq_left (by omega)] at h1
  exact h1
theorem takeH_fits {o : List Nat} (ho : ∀ x ∈ o, x < 256) (hl : 24 ≤ o.length) : (takeH o).Fits := by
  refine ⟨getD_lt ho 2, ?_, ?_, ?_, ?_, ?_, ?_⟩
  · exact leVal_take_lt ho 4 4 (by omega)
  · exact leVal_take_lt ho 8 4 (by omega)
  · exact leVal_take_lt ho 12 2 (by omega)
  · exact leVal_take_lt ho 14 2 (by omega)
  · exact leVal_take_lt ho 16 4 (by omega)
  · exact leVal_take_lt ho 20 4 (by omega)
theorem leVal_les4 {v : Nat} (h : v < 4294967296) : leVal [v % 256, v / 256 % 256, v / 256 / 256 % 256, v / 256 / 256 / 256 % 256] = v := by
  simp only [leVal]; omega
theorem leVal_les2 {v : Nat} (h : v < 65536) : leVal [v % 256, v / 256 % 256] = v := by
  simp only [leVal]; omega
theorem takeH_seal {h : RH} (hf : h.Fits) (d b : List Nat) : takeH (sealB h d b) = h := by
  obtain ⟨h1, h2, h3, h4, h5, h6, h7⟩ := hf
  obtain ⟨ki, ep, ba, ix, ct, bl, mo⟩ := h
  simp only at h1 h2 h3 h4 h5 h6 h7
  unfold takeH sealB
  generalize sumB _ d b = s
  generalize tailB b = t
  simp only [headB, Crc.les, List.flatMap_cons, List.flatMap_nil, List.append_nil, List.nil_append, List.cons_append, List.drop_succ_cons, List.drop_zero, List.take_succ_cons, List.take_zero, List.getD_cons_succ, List.getD_cons_zero]
  rw [leVal_les4 h2, leVal_les4 h3, leVal_les2 h4, leVal_les2 h5, leVal_les4 h6, leVal_les4 h7]
theorem drop_seal (h : RH) (d b : List Nat) : (sealB h d b).drop 32 = tailB b := by
  unfold sealB
  rw [List.drop_append_of_le_length (by simp [headB_len, Crc.les_len]), List.drop_of_length_le (by simp [headB_len, Crc.les_len])]
  simp
theorem seal_tail (h : RH) (d b : List Nat) : sealB h d (tailB b) = sealB h d b := by
  unfold sealB sumB
  rw [tailB_twice]
def RH.zero : RH := ⟨0, 0, 0, 0, 0, 0, 0⟩
/-- What Open answers. -/
def OpenOk (d o : List Nat) : Prop := o.length = 64 ∧ 1 ≤ (takeH o).ki ∧ (takeH o).ki ≤ 6 ∧ o = sealB (takeH o) d (o.drop 32)
instance (d o : List Nat) : Decidable (OpenOk d o) := by unfold OpenOk; infer_instance
def openH (d o : List Nat) : RH := if OpenOk d o then takeH o else RH.zero
theorem openOk_seal {h : RH} (hf : h.Fits) (d b : List Nat) : OpenOk d (sealB h d b) ↔ (1 ≤ h.ki ∧ h.ki ≤ 6) := by
  unfold OpenOk
  rw [takeH_seal hf, drop_seal, seal_tail]
  simp [sealB_len]
theorem openH_seal {h : RH} (hf : h.Fits) (d b : List Nat) (hk : 1 ≤ h.ki ∧ h.ki ≤ 6) : openH d (sealB h d b) = h := by
  unfold openH
  rw [if_pos ((openOk_seal hf d b).2 hk), takeH_seal hf]

end Go.Proofs.YthgcjiocelcblaaGreat

namespace Go.Proofs.YthgcjiocelcblaaGreat
open Go.RowKit

theorem cell_st {x y : World} {B o : Nat} {v : Value} (h : x.cell? ⟨B, o, none⟩ = some v) (hb : Below x.heap.size x y) : y.cell? ⟨B, o, none⟩ = some v :=
  (hb.cell (p := ⟨B, o, none⟩) (World.block_lt_of_cell? x _ h)).trans h
/-- A page: its bytes, and those beside it. -/
structure PG where
  d : PS
  o : PS
def PG.nil : PG := ⟨PS.nil, PS.nil⟩
def PG.cells (g : PG) : List Value := [g.d.v, g.o.v]
def PageOk (W : World) (g : PG) : Prop := PartOk W g.d ∧ PartOk W g.o
/-- Cells that are pages. -/
def CellsG (w : World) (a : Option Addr) (G : List PG) : Prop := 0 < G.length → ∃ b off, a = some ⟨b, off, none⟩ ∧ ∀ i, i < G.length → w.cell? ⟨b, off + i * 2, none⟩ = some (G.getD i PG.nil).d.v ∧ w.cell? ⟨b, off + i * 2 + 1, none⟩ = some (G.getD i PG.nil).o.v
def PagesL (W : World) (a : Option Addr) (G : List PG) : Prop := CellsG W a G ∧ ∀ g ∈ G, PageOk W g
theorem PageOk.keep {W W' : World} {g : PG} {B : Nat} (h : PageOk W g) (hb : Below B W W') (hB : W.heap.size ≤ B) : PageOk W' g := ⟨h.1.keep hb hB, h.2.keep hb hB⟩
theorem CellsG.keep {W W' : World} {a : Option Addr} {G : List PG} {B : Nat} (h : CellsG W a G) (hb : Below B W W') (hB : W.heap.size ≤ B) : CellsG W' a G := fun h0 => by
  obtain ⟨b, off, e, hc⟩ := h h0
  refine ⟨b, off, e, fun i hi => ?_⟩
  obtain ⟨h1, h2⟩ := hc i hi
  have hlt := Nat.lt_of_lt_of_le (World.block_lt_of_cell? W _ h1) hB
  exact ⟨(hb.cell (p := ⟨b, off + i * 2, none⟩) hlt).trans h1, (hb.cell (p := ⟨b, off + i * 2 + 1, none⟩) hlt).trans h2⟩
theorem PagesL.keep {W W' : World} {a : Option Addr} {G : List PG} {B : Nat} (h : PagesL W a G) (hb : Below B W W') (hB : W.heap.size ≤ B) : PagesL W' a G := ⟨h.1.keep hb hB, fun g hg => (h.2 g hg).keep hb hB⟩
theorem PagesL.step {W W' : World} {a : Option Addr} {G : List PG} (h : PagesL W a G) (hb : Below W.heap.size W W') : PagesL W' a G := h.keep hb (Nat.le_refl _)
theorem PagesL.cell {W : World} {a : Option Addr} {G : List PG} (h : PagesL W a G) {k : Nat} (hk : k < G.length) : ∃ b off, a = some ⟨b, off, none⟩ ∧ W.cell? ⟨b, off + k * 2, none⟩ = some (G.getD k PG.nil).d.v ∧ W.cell? ⟨b, off + k * 2 + 1, none⟩ = some (G.getD k PG.nil).o.v := by
  obtain ⟨b, off, e, hc⟩ := h.1 (by omega)
  exact ⟨b, off, e, hc k hk⟩
theorem PagesL.at {W : World} {a : Option Addr} {G : List PG} (h : PagesL W a G) {k : Nat} (hk : k < G.length) : PageOk W (G.getD k PG.nil) := h.2 _ (by simp [List.getD, hk])
theorem pagesL_nil (w : World) : PagesL w none [] := ⟨fun h => absurd h (Nat.lt_irrefl 0), fun _ h => absurd h List.not_mem_nil⟩
/-- The first 32 bytes. -/
def PS.head (p : PS) : PS := ⟨p.a, min p.n 32, p.c, p.l.take 32⟩
theorem head_ok {W : World} {p : PS} (h : PartOk W p) : PartOk W p.head := by
  obtain ⟨⟨h1, h2, h3⟩, h4, h5, h6⟩ := h
  refine ⟨⟨?_, fun x hx => h2 x (List.mem_of_mem_take hx), fun h0 => ?_⟩, ?_, h5, h6⟩
  · simp only [PS.head, List.length_take, h1]; omega
  · simp only [PS.head] at h0 ⊢
    obtain ⟨b, off, e, hc⟩ := h3 (by omega)
    refine ⟨b, off, e, fun i hi => ?_⟩
    have hi32 : i < 32 := by omega
    rw [hc i (by omega)]
    simp [List.getD, hi32]
  · simp only [PS.head]; omega
/-- A slice of pages of the call's own. -/
def OwnG (T : TypeId) (B : Nat) (w : World) (sv : Value) (G : List PG) : Prop := w.ownsRow B T 2 sv G.length (G.flatMap PG.cells)
theorem ownG_nil (T : TypeId) (B : Nat) (w : World) : OwnG T B w (.slice none 0 0) [] := World.ownsRow_nil w B _ 2
theorem OwnG.below {T : TypeId} {B : Nat} {w w' : World} {sv : Value} {G : List PG} (h : OwnG T B w sv G) (hb : Below w.heap.size w w') : OwnG T B w' sv G :=
  h.kept (row := none) ⟨hb.os, hb.tape, hb.output, hb.size, fun b hb' _ => hb.block b hb'⟩ (by cases hv : sv.ownBlock <;> simp)
theorem OwnG.alloc {T : TypeId} {B : Nat} {w : World} {sv : Value} {G : List PG} (h : OwnG T B w sv G) (o : Obj) : OwnG T B (w.alloc o) sv G := h.below (bel_alloc (Below.refl _ w) o)
theorem flat_len (G : List PG) : (G.flatMap PG.cells).length = G.length * 2 := by
  induction G with
  | nil => rfl
  | cons g G ih => rw [List.flatMap_cons, List.length_append, ih, List.length_cons]; simp [PG.cells]; omega
theorem flat_at (G : List PG) (i : Nat) (hi : i < G.length) : (G.flatMap PG.cells)[i * 2]? = some (G.getD i PG.nil).d.v ∧ (G.flatMap PG.cells)[i * 2 + 1]? = some (G.getD i PG.nil).o.v := by
  induction G generalizing i with
  | nil => simp at hi
  | cons g G ih =>
    cases i with
    | zero => simp [PG.cells]
    | succ i =>
      have hi' : i < G.length := by simpa using hi
      obtain ⟨h1, h2⟩ := ih i hi'
      have e1 : (i + 1) * 2 = i * 2 + 2 := by omega
      rw [List.flatMap_cons, e1]
      simp only [PG.cells, List.cons_append, List.nil_append, List.getElem?_cons_succ]
      exact ⟨by simpa using h1, by simpa using h2⟩
theorem cellsG_own {T : TypeId} {B : Nat} {w : World} {sv : Value} {G : List PG} (h : OwnG T B w sv G) : ∃ a cap, sv = .slice a G.length cap ∧ CellsG w a G ∧ G.length ≤ cap ∧ cap ≤ maxLen ∧ (a = none → cap = 0) := by
  have h' := h
  rcases h.2 with ⟨rfl, h0⟩ | ⟨g, cap, cur, rfl, _, _, hc, hm, _⟩
  · exact ⟨none, 0, by rw [h0], fun h1 => by omega, by omega, Nat.zero_le _, fun _ => rfl⟩
  · refine ⟨_, cap, rfl, fun _ => ⟨g, 0, rfl, fun i hi => ?_⟩, hc, hm, fun h => by cases h⟩
    obtain ⟨h1, h2⟩ := flat_at G i hi
    rw [Nat.zero_add, h'.cellAt (i * 2) (by omega), h'.cellAt (i * 2 + 1) (by omega)]
    exact ⟨h1, h2⟩
/-- What append onto sv leaves. -/
structure ApdG (T : TypeId) (B : Nat) (w : World) (sv : Value) (G : List PG) (sv' : Value) (w' : World) : Prop where
  own : OwnG T B w' sv' G
  grown : w.grownBy w' sv.ownBlock
  where_ : sv'.ownBlock = sv.ownBlock ∨ sv'.ownBlock = some w.heap.size
  below : Below B w w'
/-- One page, laid in a block of its own, is appended. -/
theorem wpList_appG {w : World} {ops : Array Oper} {rest : List Oper} {o : Oper} {a : Act} {Q : Exit → Act → World → Prop} (T TL : TypeId) (hu : Tryz.prog.underlying TL = some (.slice T))
    (hinfo : (Tryz.prog.info? T).map (fun i => (i.zero, i.size, i.bytes)) = some (some (.agg #[.slice none 0 0, .slice none 0 0]), 2, 48)) (hgd : o.guard = none) (s x : Operand)
    (ho : o.op = .call { callee := .builtin .append, args := #[s, x], argTypes := #[TL, TL] })
    (B : Nat) (sv : Value) (G : List PG) (hs : a.eval s = sv) (hown : OwnG T B w sv G) (b : Nat) (c : Nat) (g : PG) (hx : a.eval x = .slice (some ⟨b, 0, none⟩) 1 c)
    (h0 : w.cell? ⟨b, 0, none⟩ = some g.d.v) (h1 : w.cell? ⟨b, 1, none⟩ = some g.o.v) (hB : B ≤ w.heap.size) (hlen : G.length ≤ 1000000)
    (h : ∀ v' w', ApdG T B w sv (G ++ [g]) v' w' → wpList Tryz.prog ops Q rest (a.put o.dst v') w') : wpList Tryz.prog ops Q (o :: rest) a w := by
  obtain ⟨i0, hi, hz0, hz1, hz2⟩ := info_parts hinfo
  refine wpList_append_own_at w hgd s x TL ho B T i0 _ 2 48 hu hi hz0 hz1 hz2 rfl (by decide) sv _ _ hs hown ⟨b, 0, none⟩ 1 c g.cells hx rfl ?_ ?_ (by unfold maxLen; omega) (by omega) hB ?_
  · intro j u hj
    rcases (show j = 0 ∨ j = 1 by
      rcases Nat.lt_or_ge j 2 with h | h
      · omega
      · rw [List.getElem?_eq_none (by simpa [PG.cells] using h)] at hj; cases hj) with rfl | rfl
    · simp only [PG.cells, List.getElem?_cons_zero, Option.some.injEq] at hj
      subst hj
      simpa [Addr.add] using h0
    · simp only [PG.cells, List.getElem?_cons_succ, List.getElem?_cons_zero, Option.some.injEq] at hj
      subst hj
      simpa [Addr.add] using h1
  · intro u hu
    simp only [PG.cells, List.mem_cons, List.not_mem_nil, or_false] at hu
    rcases hu with rfl | rfl <;> rfl
  · intro v' w' h2 h3 _ h5
    refine h v' w' ⟨?_, h3, h5, (Below.refl B w).grown h3 hB (fun k hk => (hown.lt k hk).1)⟩
    unfold OwnG
    rw [List.flatMap_append, List.length_append]
    simpa using h2

end Go.Proofs.YthgcjiocelcblaaGreat

namespace Go.Proofs.YthgcjiocelcblaaGreat
open Go.RowKit

theorem info_pagep : (Tryz.prog.info? 137).map (fun i => (i.zero, i.size, i.bytes)) = some (some (.agg #[.slice none 0 0, .slice none 0 0]), 2, 48) := by kernel_rfl
/-- Two values own no block together. -/
def NoSh (u v : Value) : Prop := ∀ q, u.ownBlock = some q → v.ownBlock ≠ some q
theorem NoSh.ne {u v : Value} (h : NoSh u v) : v.ownBlock = none ∨ v.ownBlock ≠ u.ownBlock := by
  cases hv : v.ownBlock with
  | none => exact .inl rfl
  | some q => exact .inr fun e => h q e.symm hv
theorem NoSh.symm {u v : Value} (h : NoSh u v) : NoSh v u := fun q hq hu => h q hu hq
theorem NoSh.step {u v u' : Value} {w : World} (h : NoSh u v) (hw : u'.ownBlock = u.ownBlock ∨ u'.ownBlock = some w.heap.size) (hv : ∀ q, v.ownBlock = some q → q < w.heap.size) : NoSh u' v := fun q hq hvq => by
  rcases hw with e | e
  · exact h q (e ▸ hq) hvq
  · rw [e] at hq
    cases hq
    exact absurd (hv _ hvq) (Nat.lt_irrefl _)
theorem OwnL.lt' {B : Nat} {w : World} {sv : Value} {L : List PS} (h : OwnL B w sv L) : ∀ q, sv.ownBlock = some q → B ≤ q ∧ q < w.heap.size := h.lt
theorem map_take_succ {α β : Type} (f : α → β) (G : List α) (k : Nat) (dflt : α) (hk : k < G.length) : (G.take k).map f ++ [f (G.getD k dflt)] = (G.take (k + 1)).map f := by
  rw [List.take_succ_eq_append_getElem hk, List.map_append]
  simp [List.getD, hk]
/-- Cells of a page's box. -/
theorem page_box (w : World) (u v : Value) (T : TypeId) : (w.alloc (.cells #[u, v] T)).cell? ⟨w.heap.size, 0, none⟩ = some u ∧ (w.alloc (.cells #[u, v] T)).cell? ⟨w.heap.size, 1, none⟩ = some v := cell_new2 w u v T

/-- What parts hands back. -/
def PartsRet (G : List PG) (w : World) (e : Ending) (w' : World) : Prop :=
  ∃ u v, e = .returned (.tuple #[u, v]) ∧ OwnL w.heap.size w' u (G.map PG.d) ∧ OwnL w.heap.size w' v (G.map fun g => g.o.head) ∧ NoSh u v ∧ Below w.heap.size w w'
set_option maxRecDepth 100000 in
set_option maxHeartbeats 3200000 in
theorem parts_any (a : Option Addr) (n c : Nat) (G : List PG) (w : World) (hn : n = G.length) (hp : PagesL w a G) (hm : n ≤ 100000) (hl : ∀ g ∈ G, g.o.n ≤ 100000) :
    Calls Tryz.prog 92 #[.slice a n c] w (PartsRet G w) := by
  have HP := Lib.hid hp
  have HN := Lib.hid hn
  have HL := Lib.hid hl
  clear hp hn hl
  go_enter Tryz.func92, Tryz.ntmps92
  go_wp2
  go_loopw [2, 3, 8] (fun u v i wr => ∃ k : Nat, k ≤ n ∧ i = .int .i64 (k : Int) ∧ OwnL w.heap.size wr u ((G.take k).map PG.d) ∧ OwnL w.heap.size wr v ((G.take k).map fun g => g.o.head) ∧ NoSh u v ∧ Below w.heap.size w wr) (fun _ _ i _ => n - (intOf i).toNat)
  case atStart => exact ⟨0, Nat.zero_le _, rfl, ownL_nil _ _, ownL_nil _ _, fun q hq => by simp [Value.ownBlock] at hq, Below.refl _ _⟩
  case round =>
    obtain ⟨k, hk, rfl, hu, hv, hns, hbe⟩ := hrel
    have HU := Lib.hid hu
    have HV := Lib.hid hv
    have HNS := Lib.hid hns
    have HB := Lib.hid hbe
    clear hu hv hns hbe
    by_cases hlt : k < n
    · have t1 : decide (k < n) = true := by simpa using hlt
      have hpw := HP.out.keep HB.out (Nat.le_refl _)
      have hkL : k < G.length := by have := HN.out; omega
      obtain ⟨b, off, rfl, hc0, hc1⟩ := hpw.cell hkL
      have hok := hpw.at hkL
      have hT1 := map_take_succ PG.d G k PG.nil hkL
      have hT2 := map_take_succ (fun g : PG => g.o.head) G k PG.nil hkL
      have hle : (G.getD k PG.nil).o.n ≤ 100000 := HL.out _ (by simp [List.getD, hkL])
      have hlen1 : ((G.take k).map PG.d).length ≤ 100000 := by rw [List.length_map, List.length_take]; omega
      have hlen2 : ((G.take k).map fun g : PG => g.o.head).length ≤ 100000 := by rw [List.length_map, List.length_take]; omega
      obtain ⟨g, hg⟩ : ∃ g, g = G.getD k PG.nil := ⟨_, rfl⟩
      rw [← hg] at hc0 hc1 hok hT1 hT2 hle
      obtain ⟨R1, hR1⟩ : ∃ R, R = (G.take k).map PG.d := ⟨_, rfl⟩
      obtain ⟨R2, hR2⟩ : ∃ R, R = (G.take k).map fun g : PG => g.o.head := ⟨_, rfl⟩
      rw [← hR1] at HU hT1 hlen1
      rw [← hR2] at HV hT2 hlen2
      have HT1 := Lib.hid hT1
      have HT2 := Lib.hid hT2
      have HOK := Lib.hid hok
      clear hg hR1 hR2 hT1 hT2 hpw hok
      obtain ⟨d, ⟨oa, on, oc, ol⟩⟩ := g
      simp only at hle
      have hon : on ≤ oc ∧ oc ≤ maxLen := ⟨HOK.out.2.2.1, HOK.out.2.2.2.1⟩
      have hnil : oa = none → oc = 0 := HOK.out.2.2.2.2
      unfold maxLen at hon
      obtain ⟨hon1, hon2⟩ := hon
      unfold PS.v at hc0 hc1
      simp only at hc0 hc1
      have hi0 : (0 : Int) ≤ (k : Int) := by omega
      have hi1 : (k : Int) < (n : Int) := by omega
      obtain ⟨mn, hmn⟩ : ∃ mn, mn = min on 32 := ⟨_, rfl⟩
      have HMN : Hid ((⟨oa, mn, oc, ol.take 32⟩ : PS) = PS.head ⟨oa, on, oc, ol⟩) := Lib.hid (by rw [hmn]; rfl)
      have hif : (if (32 : Int) < (on : Int) then (32 : Int) else (on : Int)) = (mn : Int) := by split <;> omega
      have hif2 : (if 32 < on then (32 : Int) else (on : Int)) = (mn : Int) := by split <;> omega
      have hmn1 : mn ≤ oc := by omega
      have hmn0 : (0 : Int) ≤ (mn : Int) := by omega
      have hmn2 : (mn : Int) ≤ (oc : Int) := by omega
      have HMNL : Hid (mn ≤ on) := Lib.hid (by omega)
      clear hmn
      have HBX := Lib.hid (page_box wr (.slice d.a d.n d.c) (.slice oa on oc) 137)
      have HU1 := Lib.hid (HU.out.alloc (.cells #[.slice d.a d.n d.c, .slice oa on oc] 137))
      have HV1 := Lib.hid (HV.out.alloc (.cells #[.slice d.a d.n d.c, .slice oa on oc] 137))
      have HB1 := Lib.hid (bel_alloc HB.out (.cells #[.slice d.a d.n d.c, .slice oa on oc] 137))
      have HUL : Hid (∀ q, u2.ownBlock = some q → w.heap.size ≤ q ∧ q < wr.heap.size) := Lib.hid HU.out.lt
      have HVL : Hid (∀ q, u3.ownBlock = some q → w.heap.size ≤ q ∧ q < wr.heap.size) := Lib.hid HV.out.lt
      go_upto_region 4 with fail
      obtain ⟨w1, hw1⟩ : ∃ x, x = wr.alloc (.cells #[.slice d.a d.n d.c, .slice oa on oc] 137) := ⟨_, rfl⟩
      obtain ⟨bx, hbx⟩ : ∃ x, x = wr.heap.size := ⟨_, rfl⟩
      have HZ1 : Hid (w1.heap.size = bx + 1) := Lib.hid (by rw [hw1, hbx]; simp)
      have HZ0 : Hid (w.heap.size ≤ bx) := Lib.hid (by rw [hbx]; exact HB.out.size)
      rw [← hbx] at HUL HVL HBX ⊢
      rw [← hw1] at HU1 HV1 HB1 HBX ⊢
      clear hw1 hbx HU HV HB
      obtain ⟨x0, x1⟩ := HBX.out
      go_wp2_with (first | (at_builtin; refine wpList_appL rfl _ _ rfl w.heap.size u2 R1 rfl (HU1.out.alloc _) _ 1 1 [d] rfl rfl (cells_one w1 d) (fun h => by cases h) (by have := HZ1.out; have := HZ0.out; simp; omega) (by omega) ?_; intro u' w3 hap; rw [HT1.out] at hap; have HU3 := Lib.hid hap.own; have HV3 : Hid (OwnL w.heap.size w3 u3 R2) := Lib.hid ((HV1.out.alloc _).kept hap.grown HNS.out.ne); have HB3 := Lib.hid ((bel_alloc HB1.out _).trans hap.below); have HNS3 : Hid (NoSh u' u3) := Lib.hid (HNS.out.step hap.where_ (fun q hq => by have := (HVL.out q hq).2; have := HZ1.out; simp; omega)); have HX3 : Hid (w3.cell? ⟨bx, 1, none⟩ = some (.slice oa on oc)) := Lib.hid (hap.grown.cell (a := ⟨bx, 1, none⟩) (cell_st x1 (bel_alloc (Below.refl _ w1) _)) (fun e => by have := (HUL.out bx e.symm).2; omega)); have HUL3 := Lib.hid HU3.out.lt; have HZ3 : Hid (w.heap.size ≤ w3.heap.size) := Lib.hid HB3.out.size; clear hap x0 x1; have x1 := HX3.out) | (at_builtin; refine wpList_appL rfl _ _ rfl w.heap.size u3 R2 rfl (HV3.out.alloc _) _ 1 1 [⟨oa, mn, oc, ol.take 32⟩] rfl rfl (cells_one w3 ⟨oa, mn, oc, ol.take 32⟩) (fun h => by cases h) (by have := HZ3.out; simp; omega) (by omega) ?_; intro v' w4 hap; rw [HMN.out, HT2.out] at hap; have HV5 := Lib.hid hap.own; have HU5 : Hid (OwnL w.heap.size w4 u' _) := Lib.hid ((HU3.out.alloc _).kept hap.grown HNS3.out.symm.ne); have HB5 := Lib.hid ((bel_alloc HB3.out _).trans hap.below); have HNS5 : Hid (NoSh u' v') := Lib.hid ((HNS3.out.symm.step hap.where_ (fun q hq => by have := (HUL3.out q hq).2; simp; omega)).symm); clear hap x1))
      go_roundw
      case rel => exact ⟨k + 1, by omega, by go_num, HU5.out, HV5.out, HNS5.out, HB5.out⟩
      case measure => simp [intOf]; omega
    · obtain rfl : k = n := by omega
      have t1 : decide (k < k) = false := by simp
      rw [List.take_of_length_le (by have := HN.out; omega)] at HU HV
      go_wp2
      go_ret2
      exact ⟨_, _, rfl, HU.out, HV.out, HNS.out, HB.out⟩

end Go.Proofs.YthgcjiocelcblaaGreat
