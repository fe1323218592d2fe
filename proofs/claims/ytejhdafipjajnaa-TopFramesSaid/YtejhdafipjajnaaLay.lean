/- gabionlaw01.lay: an item is laid by both. -/
import Derived.Test.YtejhdafipjajnaaRefText
import Derived.Test.YtejhdafipjajnaaTwoRows
import Derived.Test.YtejhdafipjajnaaLaid
namespace Go.Proofs.Ytejhdafipjajnaa
open Go.RowKit

/-- What an item lays behind some bytes. -/
def layItem (k : Int) (n : Nat) (bs X : List Nat) : List Nat :=
  if k = 1 then X ++ Crc.les 1 n else if k = 2 then X ++ Crc.les 2 n else if k = 3 then X ++ bs else if k = 4 then X ++ Crc.les 4 n else if k = 5 then X ++ textOf bs else if k = 6 then padTo X ((n % 600 : Nat) : Int) else if k = 8 then X ++ Crc.les 8 n else X
/-- What lay ends with. -/
def LayRet (B : Nat) (w : World) (pw : Nat) (X Y : List Nat) (e : Ending) (w' : World) : Prop :=
  ∃ ov' sv', e = .returned ov' ∧ WR B w' pw sv' X ∧ Own B w' ov' Y ∧ Aside pw sv' ov' ∧ Below B w w'
theorem les_mod (k v : Nat) : Crc.les k (v % 256 ^ k) = Crc.les k v := by
  induction k generalizing v with
  | zero => rfl
  | succ k ih =>
    simp only [Crc.les]
    have h1 : v % 256 ^ (k + 1) % 256 = v % 256 := by
      rw [Nat.pow_succ, Nat.mul_comm, Nat.mod_mul_right_mod]
    have h2 : v % 256 ^ (k + 1) / 256 = (v / 256) % 256 ^ k := by
      rw [Nat.pow_succ, Nat.mul_comm, Nat.mod_mul_right_div_self]
    rw [h1, h2, ih]
theorem sbytes_strOf {bs : List Nat} (h : ∀ x ∈ bs, x < 256) : sbytes (strOf bs) = bs := by
  unfold sbytes strOf
  simp only [List.map_map]
  apply List.ext_getElem
  · simp
  · intro i h1 h2
    have := h bs[i] (List.getElem_mem _)
    simp
    omega
theorem strOf_size (bs : List Nat) : (strOf bs).size = bs.length := by
  unfold strOf
  show (bs.map UInt8.ofNat).toArray.size = bs.length
  simp
theorem wr_own_keep {B : Nat} {w w' : World} {pw : Nat} {sv ov : Value} {X Y : List Nat} (hw : WR B w pw sv X) (ho : Own B w ov Y) (hb : Below w.heap.size w w') : WR B w' pw sv X ∧ Own B w' ov Y := ⟨wr_keep hw hb, own_keep ho hb⟩

theorem moved_cell {w w' : World} {pw b off : Nat} {sv sv' v : Value} (hm : Moved w pw sv sv' w') (h : w.cell? ⟨b, off, none⟩ = some v) (hne : b ≠ pw ∧ some b ≠ sv.ownBlock) : w'.cell? ⟨b, off, none⟩ = some v := by
  rw [World.cell?_of_block (a := ⟨b, off, none⟩) (hm.block b (World.block_lt_of_cell? w ⟨b, off, none⟩ h) hne.1 hne.2)]; exact h
theorem below_cell {w w' : World} {b off : Nat} {v : Value} (hb : Below w.heap.size w w') (h : w.cell? ⟨b, off, none⟩ = some v) : w'.cell? ⟨b, off, none⟩ = some v := by
  rw [hb.cell (p := ⟨b, off, none⟩) (World.block_lt_of_cell? w ⟨b, off, none⟩ h)]; exact h
theorem cell_new3 (w : World) (v0 v1 v2 : Value) (t : TypeId) : (w.alloc (.cells #[v0, v1, v2] t)).cell? ⟨w.heap.size, 1, none⟩ = some v1 ∧ (w.alloc (.cells #[v0, v1, v2] t)).cell? ⟨w.heap.size, 2, none⟩ = some v2 := by
  constructor
  · rw [World.cell?_alloc_mark w #[v0, v1, v2] t (0, 0) 1]; rfl
  · rw [World.cell?_alloc_mark w #[v0, v1, v2] t (0, 0) 2]; rfl
theorem box_far {B : Nat} {w : World} {pw : Nat} {sv : Value} {X : List Nat} (hw : WR B w pw sv X) : w.heap.size ≠ pw ∧ some w.heap.size ≠ sv.ownBlock :=
  ⟨by have := wr_lt hw; omega, fun e => by have := own_base hw.2.2.1 _ e.symm; omega⟩
theorem box_far2 {B : Nat} {w : World} {pw : Nat} {sv : Value} {X : List Nat} (hw : WR B w pw sv X) : w.heap.size + 1 ≠ pw ∧ some (w.heap.size + 1) ≠ sv.ownBlock :=
  ⟨by have := wr_lt hw; omega, fun e => by have := own_base hw.2.2.1 _ e.symm; omega⟩
theorem row_b {B : Nat} {w w' : World} {a : Option Addr} {len : Nat} {bs : List Nat} (h : Row w a len bs) (hb : Below B w w') (hlt : 0 < len → ∀ x, a = some x → x.block < B) : Row w' a len bs := by
  rcases Nat.eq_zero_or_pos len with h0 | h0
  · exact ⟨h.1, h.2.1, fun h1 => by omega⟩
  · exact row_below h hb (hlt h0)
theorem own_cap {B : Nat} {w : World} {bs : List Nat} {a : Option Addr} {n c : Nat} (h : Own B w (.slice a n c) bs) : n ≤ c ∧ c ≤ maxLen := by
  rcases h.1.2 with ⟨e, _⟩ | ⟨g, cap, cur, e, _, _, h1, h2, _⟩
  · simp only [Value.slice.injEq] at e
    obtain ⟨_, rfl, rfl⟩ := e
    exact ⟨Nat.le_refl _, Nat.zero_le _⟩
  · simp only [Value.slice.injEq] at e
    obtain ⟨_, rfl, rfl⟩ := e
    exact ⟨h1, h2⟩
theorem aside_new {B : Nat} {w w' : World} {pw : Nat} {sv ov : Value} {X Y : List Nat} (hw : WR B w pw sv X) (ho : Own w.heap.size w' ov Y) : Aside pw sv ov := by
  intro k hk
  have h1 := (own_base ho k hk).1
  have h2 := wr_lt hw
  exact ⟨by omega, fun e => by have := own_base hw.2.2.1 k e; omega⟩
theorem row_one_at {w : World} {x : Nat} {b : Nat} (hx : x < 256) (hb : w.heap.size = b) : Row (w.alloc (.cells #[.int .u8 (x : Int)] 5)) (some ⟨b, 0, none⟩) 1 [x] := by
  subst hb; exact row_one w x hx
theorem les_one (n : Nat) : Crc.les 1 n = [n % 256] := rfl
theorem lay_fin {B : Nat} {w : World} {pw : Nat} {X Y Z : List Nat} {w2 w3 w4 : World} {sv2 ov ov4 : Value} (hw2 : WR B w2 pw sv2 X) (ha2 : Aside pw sv2 ov) (hb2 : Below B w w2) (hb3 : Below w2.heap.size w2 w3) (hB2 : B ≤ w2.heap.size) (hap : Apd B w3 ov (Y ++ Z) ov4 w4) :
    LayRet B w pw X (Y ++ Z) (.returned ov4) w4 := by
  have h := wr_apd (wr_keep hw2 hb3) hap ha2
  exact ⟨ov4, sv2, rfl, h.1, hap.own, h.2, hb2.trans ((hb3.mono hB2).trans hap.below)⟩

section
variable (B pw : Nat) (sv : Value) (X Y : List Nat) (ov : Value) (n m c : Nat) (xa : Option Addr) (bs : List Nat) (w : World)

set_option maxRecDepth 100000 in
set_option maxHeartbeats 800000 in
theorem lay_1 (hw : WR B w pw sv X) (ho : Own B w ov Y) (ha : Aside pw sv ov) (hB : B ≤ w.heap.size) (hn : n < 18446744073709551616) (hX : X.length ≤ 500000) (hY : Y.length ≤ 500000) :
    Calls Try.prog 9 #[.pointer (some ⟨pw, 0, none⟩), ov, .agg #[.int .i64 1, .int .u64 (n : Int), .slice xa m c]] w (LayRet B w pw (X ++ Crc.les 1 n) (Y ++ Crc.les 1 n)) := by
  have hbx : Below w.heap.size w (w.alloc (.cells #[.int .i64 1, .int .u64 (n : Int), .slice xa m c] 31)) := bel_alloc (Below.refl _ w) _
  have hcx := (cell_new3 w (.int .i64 1) (.int .u64 (n : Int)) (.slice xa m c) 31).1
  have hbf := box_far hw
  have hn1 : n % 256 < 256 := Nat.mod_lt _ (by omega)
  go_enter Try.func9, Try.ntmps9
  go_wp2_with fail
  rw [show ((n : Int) % 256) = ((n % 256 : Nat) : Int) by omega]
  obtain ⟨o1, ho1⟩ : ∃ o1, o1 = Obj.cells #[.int .i64 1, .int .u64 (n : Int), .slice xa m c] 31 := ⟨_, rfl⟩
  have hb1 : ∀ o2, Below w.heap.size w ((w.alloc o1).alloc o2) := fun o2 => bel_alloc (bel_alloc (Below.refl _ w) _) _
  rw [← ho1] at hcx ⊢
  clear ho1 hbx
  refine (wU8_any pw B sv X _ (wr_keep hw (hb1 _)) (by simp; omega) _ 1 1 [n % 256] (row_one_at hn1 (by simp)) (fun h => by cases h) (by omega)).mono ?_
  rintro e w2 ⟨rfl, sv2, hw2, hm2⟩
  rw [← les_one] at hw2
  have hm2' := (moved_of_below (hb1 _) pw sv).trans hm2
  have hcx2 : w2.cell? ⟨w.heap.size, 1, none⟩ = some (.int .u64 (n : Int)) := moved_cell hm2 (below_cell (bel_alloc (Below.refl _ (w.alloc o1)) _) hcx) hbf
  have hoa := own_moved ho hm2' ha
  have hbw2 : Below B w w2 := hm2'.below hw hB
  have hB2 : B ≤ w2.heap.size := Nat.le_trans hB hm2'.size
  clear hm2 hm2' hcx hbf
  go_wp2_with fail
  refine (bytes_any n 1 _ hn (by omega)).mono ?_
  intro e w3 h3
  obtain ⟨a3, c3, rfl, hr3, hn3, _, hb3⟩ := retOwn_len h3
  have hll : (Crc.les 1 n).length = 1 := Crc.les_len 1 n
  rw [hll] at hr3 ⊢
  have ho3 := own_keep hoa.1 hb3
  have hB3 : B ≤ w3.heap.size := Nat.le_trans hB2 hb3.size
  clear h3 hll
  go_wp2_with (at_builtin; refine wpList_app rfl _ _ rfl B _ _ rfl ho3 a3 1 c3 (Crc.les 1 n) rfl hr3 hn3 hB3 (by omega) ?_)
  intro ov4 w4 hap
  have hfin := lay_fin (B := B) (w := w) (pw := pw) (Z := Crc.les 1 n) hw2 hoa.2 hbw2 hb3 hB2 hap
  clear hap
  go_wp2
  go_ret
  exact hfin

set_option maxRecDepth 100000 in
set_option maxHeartbeats 800000 in
theorem lay_2 (hw : WR B w pw sv X) (ho : Own B w ov Y) (ha : Aside pw sv ov) (hB : B ≤ w.heap.size) (hn : n < 18446744073709551616) (hX : X.length ≤ 500000) (hY : Y.length ≤ 500000) :
    Calls Try.prog 9 #[.pointer (some ⟨pw, 0, none⟩), ov, .agg #[.int .i64 2, .int .u64 (n : Int), .slice xa m c]] w (LayRet B w pw (X ++ Crc.les 2 n) (Y ++ Crc.les 2 n)) := by
  have hbx : Below w.heap.size w (w.alloc (.cells #[.int .i64 2, .int .u64 (n : Int), .slice xa m c] 31)) := bel_alloc (Below.refl _ w) _
  have hcx := (cell_new3 w (.int .i64 2) (.int .u64 (n : Int)) (.slice xa m c) 31).1
  have hbf := box_far hw
  have hn1 : n % 65536 < 65536 := Nat.mod_lt _ (by omega)
  go_enter Try.func9, Try.ntmps9
  go_wp2_with fail
  rw [IntKind.wrap_u16, show ((n : Int) % 65536) = ((n % 65536 : Nat) : Int) by omega]
  obtain ⟨o1, ho1⟩ : ∃ o1, o1 = Obj.cells #[.int .i64 2, .int .u64 (n : Int), .slice xa m c] 31 := ⟨_, rfl⟩
  have hb1 : ∀ o2, Below w.heap.size w ((w.alloc o1).alloc o2) := fun o2 => bel_alloc (bel_alloc (Below.refl _ w) _) _
  rw [← ho1] at hcx ⊢
  clear ho1 hbx
  refine (wU16_any pw B sv X _ (wr_keep hw (hb1 _)) (by simp; omega) _ 1 1 [n % 65536] (rowK_new_at 38 hn1 (by simp)) (fun _ x hx => by cases hx; exact box_far2 hw) (by omega) (by omega)).mono ?_
  rintro e w2 ⟨rfl, sv2, hw2, hm2⟩
  have hl2 : [n % 65536].flatMap (Crc.les 2) = Crc.les 2 n := by simp; exact les_mod 2 n
  rw [hl2] at hw2
  clear hl2
  have hm2' := (moved_of_below (hb1 _) pw sv).trans hm2
  have hcx2 : w2.cell? ⟨w.heap.size, 1, none⟩ = some (.int .u64 (n : Int)) := moved_cell hm2 (below_cell (bel_alloc (Below.refl _ (w.alloc o1)) _) hcx) hbf
  have hoa := own_moved ho hm2' ha
  have hbw2 : Below B w w2 := hm2'.below hw hB
  have hB2 : B ≤ w2.heap.size := Nat.le_trans hB hm2'.size
  clear hm2 hm2' hcx hbf
  go_wp2_with fail
  refine (bytes_any n 2 _ hn (by omega)).mono ?_
  intro e w3 h3
  obtain ⟨a3, c3, rfl, hr3, hn3, _, hb3⟩ := retOwn_len h3
  have hll : (Crc.les 2 n).length = 2 := Crc.les_len 2 n
  rw [hll] at hr3 ⊢
  have ho3 := own_keep hoa.1 hb3
  have hB3 : B ≤ w3.heap.size := Nat.le_trans hB2 hb3.size
  clear h3 hll
  go_wp2_with (at_builtin; refine wpList_app rfl _ _ rfl B _ _ rfl ho3 a3 2 c3 (Crc.les 2 n) rfl hr3 hn3 hB3 (by omega) ?_)
  intro ov4 w4 hap
  have hfin := lay_fin (B := B) (w := w) (pw := pw) (Z := Crc.les 2 n) hw2 hoa.2 hbw2 hb3 hB2 hap
  clear hap
  go_wp2
  go_ret
  exact hfin

set_option maxRecDepth 100000 in
set_option maxHeartbeats 800000 in
theorem lay_4 (hw : WR B w pw sv X) (ho : Own B w ov Y) (ha : Aside pw sv ov) (hB : B ≤ w.heap.size) (hn : n < 18446744073709551616) (hX : X.length ≤ 500000) (hY : Y.length ≤ 500000) :
    Calls Try.prog 9 #[.pointer (some ⟨pw, 0, none⟩), ov, .agg #[.int .i64 4, .int .u64 (n : Int), .slice xa m c]] w (LayRet B w pw (X ++ Crc.les 4 n) (Y ++ Crc.les 4 n)) := by
  have hbx : Below w.heap.size w (w.alloc (.cells #[.int .i64 4, .int .u64 (n : Int), .slice xa m c] 31)) := bel_alloc (Below.refl _ w) _
  have hcx := (cell_new3 w (.int .i64 4) (.int .u64 (n : Int)) (.slice xa m c) 31).1
  have hbf := box_far hw
  have hn1 : n % 4294967296 < 4294967296 := Nat.mod_lt _ (by omega)
  go_enter Try.func9, Try.ntmps9
  go_wp2_with fail
  rw [show ((n : Int) % 4294967296) = ((n % 4294967296 : Nat) : Int) by omega]
  obtain ⟨o1, ho1⟩ : ∃ o1, o1 = Obj.cells #[.int .i64 4, .int .u64 (n : Int), .slice xa m c] 31 := ⟨_, rfl⟩
  have hb1 : ∀ o2, Below w.heap.size w ((w.alloc o1).alloc o2) := fun o2 => bel_alloc (bel_alloc (Below.refl _ w) _) _
  rw [← ho1] at hcx ⊢
  clear ho1 hbx
  refine (wU32_any pw B sv X _ (wr_keep hw (hb1 _)) (by simp; omega) _ 1 1 [n % 4294967296] (rowK_new_at 42 hn1 (by simp)) (fun _ x hx => by cases hx; exact box_far2 hw) (by omega) (by omega)).mono ?_
  rintro e w2 ⟨rfl, sv2, hw2, hm2⟩
  have hl2 : [n % 4294967296].flatMap (Crc.les 4) = Crc.les 4 n := by simp; exact les_mod 4 n
  rw [hl2] at hw2
  clear hl2
  have hm2' := (moved_of_below (hb1 _) pw sv).trans hm2
  have hcx2 : w2.cell? ⟨w.heap.size, 1, none⟩ = some (.int .u64 (n : Int)) := moved_cell hm2 (below_cell (bel_alloc (Below.refl _ (w.alloc o1)) _) hcx) hbf
  have hoa := own_moved ho hm2' ha
  have hbw2 : Below B w w2 := hm2'.below hw hB
  have hB2 : B ≤ w2.heap.size := Nat.le_trans hB hm2'.size
  clear hm2 hm2' hcx hbf
  go_wp2_with fail
  refine (bytes_any n 4 _ hn (by omega)).mono ?_
  intro e w3 h3
  obtain ⟨a3, c3, rfl, hr3, hn3, _, hb3⟩ := retOwn_len h3
  have hll : (Crc.les 4 n).length = 4 := Crc.les_len 4 n
  rw [hll] at hr3 ⊢
  have ho3 := own_keep hoa.1 hb3
  have hB3 : B ≤ w3.heap.size := Nat.le_trans hB2 hb3.size
  clear h3 hll
  go_wp2_with (at_builtin; refine wpList_app rfl _ _ rfl B _ _ rfl ho3 a3 4 c3 (Crc.les 4 n) rfl hr3 hn3 hB3 (by omega) ?_)
  intro ov4 w4 hap
  have hfin := lay_fin (B := B) (w := w) (pw := pw) (Z := Crc.les 4 n) hw2 hoa.2 hbw2 hb3 hB2 hap
  clear hap
  go_wp2
  go_ret
  exact hfin

set_option maxRecDepth 100000 in
set_option maxHeartbeats 800000 in
theorem lay_8 (hw : WR B w pw sv X) (ho : Own B w ov Y) (ha : Aside pw sv ov) (hB : B ≤ w.heap.size) (hn : n < 18446744073709551616) (hX : X.length ≤ 500000) (hY : Y.length ≤ 500000) :
    Calls Try.prog 9 #[.pointer (some ⟨pw, 0, none⟩), ov, .agg #[.int .i64 8, .int .u64 (n : Int), .slice xa m c]] w (LayRet B w pw (X ++ Crc.les 8 n) (Y ++ Crc.les 8 n)) := by
  have hbx : Below w.heap.size w (w.alloc (.cells #[.int .i64 8, .int .u64 (n : Int), .slice xa m c] 31)) := bel_alloc (Below.refl _ w) _
  have hcx := (cell_new3 w (.int .i64 8) (.int .u64 (n : Int)) (.slice xa m c) 31).1
  have hbf := box_far hw
  go_enter Try.func9, Try.ntmps9
  go_wp2_with fail
  obtain ⟨o1, ho1⟩ : ∃ o1, o1 = Obj.cells #[.int .i64 8, .int .u64 (n : Int), .slice xa m c] 31 := ⟨_, rfl⟩
  have hb1 : ∀ o2, Below w.heap.size w ((w.alloc o1).alloc o2) := fun o2 => bel_alloc (bel_alloc (Below.refl _ w) _) _
  rw [← ho1] at hcx ⊢
  clear ho1 hbx
  refine (wU64_any pw B sv X _ (wr_keep hw (hb1 _)) (by simp; omega) _ 1 1 [n] (rowK_new_at 29 hn (by simp)) (fun _ x hx => by cases hx; exact box_far2 hw) (by omega) (by omega)).mono ?_
  rintro e w2 ⟨rfl, sv2, hw2, hm2⟩
  have hl2 : [n].flatMap (Crc.les 8) = Crc.les 8 n := by simp
  rw [hl2] at hw2
  clear hl2
  have hm2' := (moved_of_below (hb1 _) pw sv).trans hm2
  have hcx2 : w2.cell? ⟨w.heap.size, 1, none⟩ = some (.int .u64 (n : Int)) := moved_cell hm2 (below_cell (bel_alloc (Below.refl _ (w.alloc o1)) _) hcx) hbf
  have hoa := own_moved ho hm2' ha
  have hbw2 : Below B w w2 := hm2'.below hw hB
  have hB2 : B ≤ w2.heap.size := Nat.le_trans hB hm2'.size
  clear hm2 hm2' hcx hbf
  go_wp2_with fail
  refine (bytes_any n 8 _ hn (by omega)).mono ?_
  intro e w3 h3
  obtain ⟨a3, c3, rfl, hr3, hn3, _, hb3⟩ := retOwn_len h3
  have hll : (Crc.les 8 n).length = 8 := Crc.les_len 8 n
  rw [hll] at hr3 ⊢
  have ho3 := own_keep hoa.1 hb3
  have hB3 : B ≤ w3.heap.size := Nat.le_trans hB2 hb3.size
  clear h3 hll
  go_wp2_with (at_builtin; refine wpList_app rfl _ _ rfl B _ _ rfl ho3 a3 8 c3 (Crc.les 8 n) rfl hr3 hn3 hB3 (by omega) ?_)
  intro ov4 w4 hap
  have hfin := lay_fin (B := B) (w := w) (pw := pw) (Z := Crc.les 8 n) hw2 hoa.2 hbw2 hb3 hB2 hap
  clear hap
  go_wp2
  go_ret
  exact hfin

set_option maxRecDepth 100000 in
set_option maxHeartbeats 800000 in
theorem lay_3 (hw : WR B w pw sv X) (ho : Own B w ov Y) (ha : Aside pw sv ov) (hB : B ≤ w.heap.size) (hr : Row w xa m bs) (hnil : xa = none → c = 0) (hm : m ≤ 400) (hlt : 0 < m → ∀ x, xa = some x → x.block < B) (hX : X.length ≤ 500000) (hY : Y.length ≤ 500000) :
    Calls Try.prog 9 #[.pointer (some ⟨pw, 0, none⟩), ov, .agg #[.int .i64 3, .int .u64 (n : Int), .slice xa m c]] w (LayRet B w pw (X ++ bs) (Y ++ bs)) := by
  have hb1 : Below w.heap.size w (w.alloc (.cells #[.int .i64 3, .int .u64 (n : Int), .slice xa m c] 31)) := bel_alloc (Below.refl _ w) _
  have hcx := (cell_new3 w (.int .i64 3) (.int .u64 (n : Int)) (.slice xa m c) 31)
  have hbf := box_far hw
  have hlen := hr.1
  have HLEN := Lib.hid hlen
  clear hlen
  go_enter Try.func9, Try.ntmps9
  go_wp2_with fail
  obtain ⟨o1, ho1⟩ : ∃ o1, o1 = Obj.cells #[.int .i64 3, .int .u64 (n : Int), .slice xa m c] 31 := ⟨_, rfl⟩
  rw [← ho1] at hcx hb1 ⊢
  clear ho1
  refine (raw_any pw B sv X _ (wr_keep hw hb1) (by simp; omega) xa m c bs (row_keep hr hb1 (Nat.le_refl _)) hnil (by omega)).mono ?_
  rintro e w2 ⟨rfl, sv2, hw2, hm2⟩
  have hm2' := (moved_of_below hb1 pw sv).trans hm2
  have hcx2 : w2.cell? ⟨w.heap.size, 2, none⟩ = some (.slice xa m c) := moved_cell hm2 hcx.2 hbf
  have hoa := own_moved ho hm2' ha
  have hbw2 : Below B w w2 := hm2'.below hw hB
  have hB2 : B ≤ w2.heap.size := Nat.le_trans hB hm2'.size
  have hr2 : Row w2 xa m bs := row_b hr hbw2 hlt
  clear hm2 hm2' hcx hbf
  go_wp2_with (at_builtin; refine wpList_app rfl _ _ rfl B _ _ rfl hoa.1 xa m c bs rfl hr2 hnil hB2 (by omega) ?_)
  intro ov4 w4 hap
  have hfin := lay_fin (B := B) (w := w) (pw := pw) (Z := bs) hw2 hoa.2 hbw2 (Below.refl _ _) hB2 hap
  clear hap
  go_wp2
  go_ret
  exact hfin

set_option maxRecDepth 100000 in
set_option maxHeartbeats 800000 in
theorem lay_5 (hw : WR B w pw sv X) (ho : Own B w ov Y) (ha : Aside pw sv ov) (hB : B ≤ w.heap.size) (hr : Row w xa m bs) (hm : m ≤ 400) (hlt : 0 < m → ∀ x, xa = some x → x.block < B) (hX : X.length ≤ 500000) (hY : Y.length ≤ 500000) :
    Calls Try.prog 9 #[.pointer (some ⟨pw, 0, none⟩), ov, .agg #[.int .i64 5, .int .u64 (n : Int), .slice xa m c]] w (LayRet B w pw (X ++ textOf bs) (Y ++ textOf bs)) := by
  have hb1 : Below w.heap.size w (w.alloc (.cells #[.int .i64 5, .int .u64 (n : Int), .slice xa m c] 31)) := bel_alloc (Below.refl _ w) _
  have hcx := (cell_new3 w (.int .i64 5) (.int .u64 (n : Int)) (.slice xa m c) 31)
  have hbf := box_far hw
  have hlen := hr.1
  have HLEN := Lib.hid hlen
  have HSB := Lib.hid (sbytes_strOf hr.2.1)
  have hss : (strOf bs).size ≤ maxLen := by rw [strOf_size]; unfold maxLen; omega
  clear hlen
  obtain ⟨o1, ho1⟩ : ∃ o1, o1 = Obj.cells #[.int .i64 5, .int .u64 (n : Int), .slice xa m c] 31 := ⟨_, rfl⟩
  have hcv1 := conv_str (w.alloc (.cells #[.int .i64 5, .int .u64 (n : Int), .slice xa m c] 31)) xa m c bs (row_keep hr hb1 (Nat.le_refl _))
  go_enter Try.func9, Try.ntmps9
  go_wp2_with fail
  rw [← ho1] at hcx hb1 ⊢
  clear ho1 hcv1
  refine (wText_any pw B sv X _ (wr_keep hw hb1) (by simp; omega) (strOf bs) hss (by omega)).mono ?_
  rintro e w2 ⟨rfl, sv2, hw2, hm2⟩
  rw [HSB.out] at hw2
  have hm2' := (moved_of_below hb1 pw sv).trans hm2
  have hcx2 : w2.cell? ⟨w.heap.size, 2, none⟩ = some (.slice xa m c) := moved_cell hm2 hcx.2 hbf
  have hoa := own_moved ho hm2' ha
  have hbw2 : Below B w w2 := hm2'.below hw hB
  have hB2 : B ≤ w2.heap.size := Nat.le_trans hB hm2'.size
  have hcv2 := conv_str w2 xa m c bs (row_b hr hbw2 hlt)
  clear hm2 hm2' hcx hbf
  go_wp2_with fail
  refine (refText_any (strOf bs) w2 hss).mono ?_
  intro e w3 h3
  rw [HSB.out] at h3
  obtain ⟨a3, c3, rfl, hr3, hn3, _, hb3⟩ := retOwn_len h3
  have ho3 := own_keep hoa.1 hb3
  have hB3 : B ≤ w3.heap.size := Nat.le_trans hB2 hb3.size
  have htl : (textOf bs).length ≤ 256 := by unfold textOf; rw [List.length_cons, List.length_take]; omega
  obtain ⟨T, hT⟩ : ∃ T, T = textOf bs := ⟨_, rfl⟩
  rw [← hT] at hr3 htl hw2 ⊢
  obtain ⟨tl, htl2⟩ : ∃ tl, tl = T.length := ⟨_, rfl⟩
  rw [← htl2] at hr3 htl ⊢
  have HTT := Lib.hid hT
  clear h3 hcv2 hT htl2
  go_wp2_with (at_builtin; refine wpList_app rfl _ _ rfl B _ _ rfl ho3 a3 tl c3 T rfl hr3 hn3 hB3 (by omega) ?_)
  intro ov4 w4 hap
  have hfin := lay_fin (B := B) (w := w) (pw := pw) (Z := T) hw2 hoa.2 hbw2 hb3 hB2 hap
  rw [HTT.out] at hfin
  clear hap
  go_wp2
  go_ret
  exact hfin

set_option maxRecDepth 100000 in
set_option maxHeartbeats 800000 in
theorem lay_6 (hw : WR B w pw sv X) (ho : Own B w ov Y) (ha : Aside pw sv ov) (hB : B ≤ w.heap.size) (hX : X.length ≤ 500000) (hY : Y.length ≤ 100000) :
    Calls Try.prog 9 #[.pointer (some ⟨pw, 0, none⟩), ov, .agg #[.int .i64 6, .int .u64 (n : Int), .slice xa m c]] w (LayRet B w pw (padTo X ((n % 600 : Nat) : Int)) (padTo Y ((n % 600 : Nat) : Int))) := by
  have hb1 : Below w.heap.size w (w.alloc (.cells #[.int .i64 6, .int .u64 (n : Int), .slice xa m c] 31)) := bel_alloc (Below.refl _ w) _
  have hcx := (cell_new3 w (.int .i64 6) (.int .u64 (n : Int)) (.slice xa m c) 31)
  have hbf := box_far hw
  obtain ⟨av, cv, hov, hrv, _⟩ := row_of_own ho
  subst hov
  have hnv := own_nocap ho
  have hcap := own_cap ho
  have hm6 : n % 600 < 600 := Nat.mod_lt _ (by omega)
  have HYL := Lib.hid hrv.1
  obtain ⟨q, hq⟩ : ∃ q, q = n % 600 := ⟨_, rfl⟩
  rw [← hq] at hm6 ⊢
  have hq1 : ((n : Int) % 600) = (q : Int) := by omega
  have HQ := Lib.hid hq1
  obtain ⟨L, hL⟩ : ∃ L, L = Y.length := ⟨_, rfl⟩
  rw [← hL] at ho ha hrv hcap hY ⊢
  clear hq hq1 hL
  go_enter Try.func9, Try.ntmps9
  go_wp2_with fail
  obtain ⟨o1, ho1⟩ : ∃ o1, o1 = Obj.cells #[.int .i64 6, .int .u64 (n : Int), .slice xa m c] 31 := ⟨_, rfl⟩
  rw [← ho1] at hcx hb1 ⊢
  rw [HQ.out]
  clear ho1
  refine (wPad_any pw B sv X _ (wr_keep hw hb1) (by simp; omega) (q : Int) (by omega) (by omega) (by omega)).mono ?_
  rintro e w2 ⟨rfl, sv2, hw2, hm2⟩
  have hm2' := (moved_of_below hb1 pw sv).trans hm2
  have hcx2 : w2.cell? ⟨w.heap.size, 1, none⟩ = some (.int .u64 (n : Int)) := moved_cell hm2 hcx.1 hbf
  have hoa := own_moved ho hm2' ha
  have hbw2 : Below B w w2 := hm2'.below hw hB
  have hB2 : B ≤ w2.heap.size := Nat.le_trans hB hm2'.size
  obtain ⟨av2, cv2, hov2, hrv2, _⟩ := row_of_own hoa.1
  simp only [Value.slice.injEq] at hov2
  obtain ⟨ea, eb, ec⟩ := hov2
  rw [← ea, ← eb] at hrv2
  clear hm2 hm2' hcx hbf ea eb ec hrv
  go_wp2_with fail
  rw [HQ.out]
  refine (refPad_any av L cv Y w2 hrv2 hcap.1 hcap.2 hnv (by omega) (q : Int) (by omega) (by omega)).mono ?_
  intro e w3 h3
  obtain ⟨sv3, rfl, ho3, hb3⟩ := h3
  have hfin : LayRet B w pw (padTo X (q : Int)) (padTo Y (q : Int)) (.returned sv3) w3 :=
    ⟨sv3, sv2, rfl, wr_keep hw2 hb3, own_mono ho3 hB2, aside_new hw2 ho3, hbw2.trans (hb3.mono hB2)⟩
  clear ho3
  go_wp2
  go_ret
  exact hfin

set_option maxRecDepth 100000 in
set_option maxHeartbeats 800000 in
theorem lay_other (k : Int) (hk : k ≠ 1 ∧ k ≠ 2 ∧ k ≠ 3 ∧ k ≠ 4 ∧ k ≠ 5 ∧ k ≠ 6 ∧ k ≠ 8) (hw : WR B w pw sv X) (ho : Own B w ov Y) (ha : Aside pw sv ov) (hB : B ≤ w.heap.size) :
    Calls Try.prog 9 #[.pointer (some ⟨pw, 0, none⟩), ov, .agg #[.int .i64 k, .int .u64 (n : Int), .slice xa m c]] w (LayRet B w pw X Y) := by
  have hb1 : Below w.heap.size w (w.alloc (.cells #[.int .i64 k, .int .u64 (n : Int), .slice xa m c] 31)) := bel_alloc (Below.refl _ w) _
  obtain ⟨h1, h2, h3, h4, h5, h6, h8⟩ := hk
  have d1 : (k == 1) = false := by simpa using h1
  have d2 : (k == 2) = false := by simpa using h2
  have d3 : (k == 3) = false := by simpa using h3
  have d4 : (k == 4) = false := by simpa using h4
  have d5 : (k == 5) = false := by simpa using h5
  have d6 : (k == 6) = false := by simpa using h6
  have d8 : (k == 8) = false := by simpa using h8
  go_enter Try.func9, Try.ntmps9
  go_wp2
  go_ret
  exact ⟨ov, sv, rfl, wr_keep hw hb1, own_keep ho hb1, ha, hb1.mono hB⟩

end

end Go.Proofs.Ytejhdafipjajnaa
