/- What each operation of record.Seal's drawn region yields. -/
import Derived.Test.YthgcjiocelcblaaGreatK13
import Derived.Test.YthgcjiocelcblaaGreatK14
import Derived.Test.YthgcjiocelcblaaGreatK01
import Derived.Test.YthgcjiocelcblaaGreatK04
namespace Go.Proofs.YthgcjiocelcblaaGreat
open Go.RowKit

theorem put_same (a : Act) (d : Nat) (v : Value) (h : d < a.tmps.size) : (a.put (some d) v).tmps.getD d undef = v := by
  simp [Act.put, h]
theorem put_ne (a : Act) (d k : Nat) (v : Value) (h : k ≠ d) : (a.put (some d) v).tmps.getD k undef = a.tmps.getD k undef := by
  simp [Act.put, Array.getElem?_setIfInBounds_ne (Ne.symm h)]
theorem put_size (a : Act) (d : Nat) (v : Value) : (a.put (some d) v).tmps.size = a.tmps.size := by simp [Act.put]
theorem put_defers (a : Act) (d : Nat) (v : Value) : (a.put (some d) v).defers = a.defers := rfl

/-- A slice of numbers in a block of its own, apart of the writer. -/
def SlK (K : IntKind) (M pw : Nat) (w : World) (sv v : Value) (ns : List Nat) : Prop :=
  ∃ b, v = .slice (some ⟨b, 0, none⟩) ns.length ns.length ∧ RowK K M w (some ⟨b, 0, none⟩) ns.length ns ∧ b ≠ pw ∧ some b ≠ sv.ownBlock ∧ b < w.heap.size
theorem rowK_bel {K : IntKind} {M : Nat} {w w' : World} {a : Option Addr} {len : Nat} {ns : List Nat} (h : RowK K M w a len ns) (hb : Below w.heap.size w w') : RowK K M w' a len ns := by
  obtain ⟨h1, h2, h3⟩ := h
  refine ⟨h1, h2, fun h0 => ?_⟩
  obtain ⟨b, off, h4, h5⟩ := h3 h0
  exact ⟨b, off, h4, fun i hi => cell_bel hb (h5 i hi)⟩
theorem SlK.below {K : IntKind} {M pw : Nat} {w w' : World} {sv v : Value} {ns : List Nat} (h : SlK K M pw w sv v ns) (hb : Below w.heap.size w w') : SlK K M pw w' sv v ns := by
  obtain ⟨b, h1, h2, h3, h4, h5⟩ := h
  exact ⟨b, h1, rowK_bel h2 hb, h3, h4, Nat.lt_of_lt_of_le h5 hb.size⟩
theorem SlK.moved {K : IntKind} {M pw : Nat} {w w' : World} {sv sv' v : Value} {ns : List Nat} (h : SlK K M pw w sv v ns) (hm : Moved w pw sv sv' w') : SlK K M pw w' sv' v ns := by
  obtain ⟨b, h1, h2, h3, h4, h5⟩ := h
  refine ⟨b, h1, rowK_moved h2 hm (fun _ x hx => by cases hx; exact ⟨h3, h4⟩), h3, ?_, Nat.lt_of_lt_of_le h5 hm.size⟩
  rcases hm.where_ with e | e | ⟨k, e, hk⟩
  · rw [e]; exact h4
  · rw [e]; simp
  · rw [e]; simp; omega
theorem SlK.new1 {K : IntKind} {M pw : Nat} {w : World} {sv : Value} {n : Nat} {t : TypeId} (hn : n < M) (hpw : pw < w.heap.size) (ho : ∀ k, sv.ownBlock = some k → k < w.heap.size) : SlK K M pw (w.alloc (.cells #[.int K (n : Int)] t)) sv (.slice (some ⟨w.heap.size, 0, none⟩) 1 1) [n] := by
  refine ⟨_, rfl, ⟨rfl, fun x hx => ?_, fun _ => ⟨_, 0, rfl, fun i hi => ?_⟩⟩, by omega, fun e => ?_, by simp⟩
  · simp at hx; omega
  · obtain rfl : i = 0 := by simp at hi; omega
    exact cell_new1 _ _ _
  · have := ho _ e.symm; omega
theorem SlK.new2 {K : IntKind} {M pw : Nat} {w : World} {sv : Value} {n m : Nat} {t : TypeId} (hn : n < M) (hm : m < M) (hpw : pw < w.heap.size) (ho : ∀ k, sv.ownBlock = some k → k < w.heap.size) : SlK K M pw (w.alloc (.cells #[.int K (n : Int), .int K (m : Int)] t)) sv (.slice (some ⟨w.heap.size, 0, none⟩) 2 2) [n, m] := by
  obtain ⟨c0, c1⟩ := cell_new2 w (.int K (n : Int)) (.int K (m : Int)) t
  refine ⟨_, rfl, ⟨rfl, fun x hx => ?_, fun _ => ⟨_, 0, rfl, fun i hi => ?_⟩⟩, by omega, fun e => ?_, by simp⟩
  · simp at hx; omega
  · simp at hi
    rcases (by omega : i = 0 ∨ i = 1) with rfl | rfl
    · exact c0
    · exact c1
  · have := ho _ e.symm; omega

/-- What is laid behind the first c calls. -/
def sealX (h : RH) : Nat → List Nat
  | 0 => []
  | 1 => [] ++ [22356].flatMap (Crc.les 2)
  | 2 => ([] ++ [22356].flatMap (Crc.les 2)) ++ [h.ki, 0]
  | 3 => (([] ++ [22356].flatMap (Crc.les 2)) ++ [h.ki, 0]) ++ [h.ep, h.ba].flatMap (Crc.les 4)
  | 4 => ((([] ++ [22356].flatMap (Crc.les 2)) ++ [h.ki, 0]) ++ [h.ep, h.ba].flatMap (Crc.les 4)) ++ [h.ix, h.ct].flatMap (Crc.les 2)
  | _ => headB h
theorem sealX_len (h : RH) (c : Nat) : (sealX h c).length ≤ 24 := by
  unfold sealX
  split <;> simp [headB, Crc.les_len]
/-- What operation j yields. -/
def SealV (h : RH) (pw BH : Nat) (w : World) (sv : Value) (j : Nat) (v : Value) : Prop :=
  match j with
  | 0 => v = .pointer (some ⟨pw, 0, none⟩)
  | 1 => SlK .u16 65536 pw w sv v [22356]
  | 2 => v = .pointer (some ⟨pw, 0, none⟩)
  | 3 => v = .pointer (some ⟨BH, 0, none⟩)
  | 4 => v = .int .u8 (h.ki : Int)
  | 5 => SlK .u8 256 pw w sv v [h.ki, 0]
  | 6 => v = .pointer (some ⟨pw, 0, none⟩)
  | 7 => v = .pointer (some ⟨BH, 1, none⟩)
  | 8 => v = .int .u32 (h.ep : Int)
  | 9 => v = .pointer (some ⟨BH, 2, none⟩)
  | 10 => v = .int .u32 (h.ba : Int)
  | 11 => SlK .u32 4294967296 pw w sv v [h.ep, h.ba]
  | 12 => v = .pointer (some ⟨pw, 0, none⟩)
  | 13 => v = .pointer (some ⟨BH, 3, none⟩)
  | 14 => v = .int .u16 (h.ix : Int)
  | 15 => v = .pointer (some ⟨BH, 4, none⟩)
  | 16 => v = .int .u16 (h.ct : Int)
  | 17 => SlK .u16 65536 pw w sv v [h.ix, h.ct]
  | 18 => v = .pointer (some ⟨pw, 0, none⟩)
  | 19 => v = .pointer (some ⟨BH, 5, none⟩)
  | 20 => v = .int .u32 (h.bl : Int)
  | 21 => v = .pointer (some ⟨BH, 6, none⟩)
  | 22 => v = .int .u32 (h.mo : Int)
  | 23 => SlK .u32 4294967296 pw w sv v [h.bl, h.mo]
  | 24 => v = .pointer (some ⟨pw, 0, none⟩)
  | _ => True
theorem SealV.below {h : RH} {pw BH j : Nat} {w w' : World} {sv v : Value} (hv : SealV h pw BH w sv j v) (hb : Below w.heap.size w w') : SealV h pw BH w' sv j v := by
  unfold SealV at *
  split at hv <;> first | exact hv | exact SlK.below hv hb
theorem SealV.moved {h : RH} {pw BH j : Nat} {w w' : World} {sv sv' v : Value} (hv : SealV h pw BH w sv j v) (hm : Moved w pw sv sv' w') : SealV h pw BH w' sv' j v := by
  unfold SealV at *
  split at hv <;> first | exact hv | exact SlK.moved hv hm

/-- What holds whichever operations have come up. -/
structure SealI (h : RH) (pw BH : Nat) (a0 : Act) (W1 : World) (L : Nat → Prop) (a : Act) (w : World) : Prop where
  sz : a.tmps.size = 58
  df : a.defers = []
  old : ∀ k, k < 21 → a.tmps.getD k undef = a0.tmps.getD k undef
  bel : Below pw W1 w
  mem : ∃ sv c, c ≤ 5 ∧ WR pw w pw sv (sealX h c) ∧ (L 2 ↔ 0 < c) ∧ (L 6 ↔ 1 < c) ∧ (L 12 ↔ 2 < c) ∧ (L 18 ↔ 3 < c) ∧ (L 24 ↔ 4 < c) ∧ ∀ j, j < 25 → L j → SealV h pw BH w sv j (a.tmps.getD (21 + j) undef)
section
variable {h : RH} {pw BH : Nat} {a0 a : Act} {W1 w w' : World} {L : Nat → Prop}
theorem slot_put {sv : Value} {i : Nat} {v : Value} (hsz : a.tmps.size = 58) (hi : i < 25) (hV : ∀ j, j < 25 → L j → SealV h pw BH w sv j (a.tmps.getD (21 + j) undef)) (hv : SealV h pw BH w sv i v) :
    ∀ j, j < 25 → (L j ∨ j = i) → SealV h pw BH w sv j ((a.put (some (21 + i)) v).tmps.getD (21 + j) undef) := by
  intro j hj hL
  by_cases e : j = i
  · subst e; rw [put_same _ _ _ (by omega)]; exact hv
  · rw [put_ne _ _ _ _ (by omega)]
    exact hV j hj (hL.resolve_right e)
theorem SealI.get (hI : SealI h pw BH a0 W1 L a w) (j : Nat) (hj : j < 25) (hL : L j) : ∃ sv, SealV h pw BH w sv j (a.tmps.getD (21 + j) undef) := by
  obtain ⟨sv, c, _, _, _, _, _, _, _, hV⟩ := hI.mem
  exact ⟨sv, hV j hj hL⟩
/-- Something that makes memory alone, or none. -/
theorem SealI.plain {v : Value} (hI : SealI h pw BH a0 W1 L a w) (i : Nat) (hi : i < 25) (hc : i ≠ 2 ∧ i ≠ 6 ∧ i ≠ 12 ∧ i ≠ 18 ∧ i ≠ 24) (hb : Below w.heap.size w w') (hv : ∀ sv, (∀ k, sv.ownBlock = some k → k < w.heap.size) → SealV h pw BH w' sv i v) :
    SealI h pw BH a0 W1 (fun k => L k ∨ k = i) (a.put (some (21 + i)) v) w' := by
  obtain ⟨sv, c, hc5, hw, l1, l2, l3, l4, l5, hV⟩ := hI.mem
  obtain ⟨n1, n2, n3, n4, n5⟩ := hc
  have hz := wr_lt hw
  refine ⟨(put_size _ _ _).trans hI.sz, (put_defers _ _ _).trans hI.df, fun k hk => ?_, hI.bel.trans (hb.mono (by omega)), sv, c, hc5, wr_keep hw hb, ?_, ?_, ?_, ?_, ?_, slot_put hI.sz hi (fun j hj hL => (hV j hj hL).below hb) (hv sv fun k hk => (own_base hw.2.2.1 k hk).2)⟩
  · rw [put_ne _ _ _ _ (by omega)]; exact hI.old k hk
  · rw [← l1]; exact or_iff_left (by omega)
  · rw [← l2]; exact or_iff_left (by omega)
  · rw [← l3]; exact or_iff_left (by omega)
  · rw [← l4]; exact or_iff_left (by omega)
  · rw [← l5]; exact or_iff_left (by omega)
/-- A call of the writer. -/
theorem SealI.call {v sv sv' : Value} {c : Nat} (hI : SealI h pw BH a0 W1 L a w) (i : Nat) (hi : i < 25) (hw : WR pw w pw sv (sealX h c)) (hm : Moved w pw sv sv' w') (hw' : WR pw w' pw sv' (sealX h (c + 1))) (hc5 : c < 5) (hic : i = [2, 6, 12, 18, 24].getD c 0)
    (hl : (L 2 ↔ 0 < c) ∧ (L 6 ↔ 1 < c) ∧ (L 12 ↔ 2 < c) ∧ (L 18 ↔ 3 < c) ∧ (L 24 ↔ 4 < c)) (hV : ∀ j, j < 25 → L j → SealV h pw BH w sv j (a.tmps.getD (21 + j) undef)) (hv : v = .pointer (some ⟨pw, 0, none⟩)) :
    SealI h pw BH a0 W1 (fun k => L k ∨ k = i) (a.put (some (21 + i)) v) w' := by
  obtain ⟨l1, l2, l3, l4, l5⟩ := hl
  have hz := wr_lt hw
  have hcs : c = 0 ∨ c = 1 ∨ c = 2 ∨ c = 3 ∨ c = 4 := by omega
  refine ⟨(put_size _ _ _).trans hI.sz, (put_defers _ _ _).trans hI.df, fun k hk => ?_, hI.bel.trans (hm.below hw (Nat.le_of_lt hz)), sv', c + 1, by omega, hw', ?_, ?_, ?_, ?_, ?_, slot_put hI.sz hi (fun j hj hL => (hV j hj hL).moved hm) ?_⟩
  · rw [put_ne _ _ _ _ (by omega)]; exact hI.old k hk
  · rcases hcs with rfl | rfl | rfl | rfl | rfl <;> simp at hic <;> subst hic <;> simp [l1]
  · rcases hcs with rfl | rfl | rfl | rfl | rfl <;> simp at hic <;> subst hic <;> simp [l2]
  · rcases hcs with rfl | rfl | rfl | rfl | rfl <;> simp at hic <;> subst hic <;> simp [l3]
  · rcases hcs with rfl | rfl | rfl | rfl | rfl <;> simp at hic <;> subst hic <;> simp [l4]
  · rcases hcs with rfl | rfl | rfl | rfl | rfl <;> simp at hic <;> subst hic <;> simp [l5]
  · rcases hcs with rfl | rfl | rfl | rfl | rfl <;> simp at hic <;> subst hic <;> exact hv
end

end Go.Proofs.YthgcjiocelcblaaGreat

namespace Go.Proofs.YthgcjiocelcblaaGreat
open Go.RowKit

theorem wr_new0 (w : World) : WR w.heap.size (w.alloc (.cells #[.slice none 0 0] 72)) w.heap.size (.slice none 0 0) [] :=
  ⟨Nat.le_refl _, heap_alloc_new w _, own_nil _ _, fun h => by cases h⟩
theorem row_cut {w : World} {a : Option Addr} {len : Nat} {bs : List Nat} (h : Row w a len bs) (n : Nat) (hn : n ≤ len) : Row w a n (bs.take n) := by
  obtain ⟨h1, h2, h3⟩ := h
  refine ⟨by rw [List.length_take, h1]; omega, fun x hx => h2 x (List.mem_of_mem_take hx), fun h0 => ?_⟩
  obtain ⟨b, off, h4, h5⟩ := h3 (by omega)
  refine ⟨b, off, h4, fun i hi => ?_⟩
  rw [h5 i (by omega)]
  simp [List.getD_eq_getElem?_getD, hi]
/-- The header's cells. -/
def HdrAt (h : RH) (B : Nat) (w : World) : Prop := w.cell? ⟨B, 0, none⟩ = some (.int .u8 (h.ki : Int)) ∧ w.cell? ⟨B, 1, none⟩ = some (.int .u32 (h.ep : Int)) ∧ w.cell? ⟨B, 2, none⟩ = some (.int .u32 (h.ba : Int)) ∧ w.cell? ⟨B, 3, none⟩ = some (.int .u16 (h.ix : Int)) ∧ w.cell? ⟨B, 4, none⟩ = some (.int .u16 (h.ct : Int)) ∧ w.cell? ⟨B, 5, none⟩ = some (.int .u32 (h.bl : Int)) ∧ w.cell? ⟨B, 6, none⟩ = some (.int .u32 (h.mo : Int))
theorem hdr_new (h : RH) (w : World) : HdrAt h w.heap.size (w.alloc (.cells #[.int .u8 (h.ki : Int), .int .u32 (h.ep : Int), .int .u32 (h.ba : Int), .int .u16 (h.ix : Int), .int .u16 (h.ct : Int), .int .u32 (h.bl : Int), .int .u32 (h.mo : Int)] 93)) := by
  refine ⟨?_, ?_, ?_, ?_, ?_, ?_, ?_⟩
  all_goals (rw [World.cell?_alloc_mark w #[.int .u8 (h.ki : Int), .int .u32 (h.ep : Int), .int .u32 (h.ba : Int), .int .u16 (h.ix : Int), .int .u16 (h.ct : Int), .int .u32 (h.bl : Int), .int .u32 (h.mo : Int)] 93 (0, 0)]; rfl)
theorem HdrAt.below {h : RH} {B B' : Nat} {w w' : World} (hh : HdrAt h B w) (hb : Below B' w w') (hlt : B < B') : HdrAt h B w' := by
  have hc : ∀ k, w'.cell? ⟨B, k, none⟩ = w.cell? ⟨B, k, none⟩ := fun k => hb.cell (p := ⟨B, k, none⟩) hlt
  unfold HdrAt
  simp only [hc]
  exact hh
theorem seal_start {h : RH} {w W1 : World} (e : W1 = (w.alloc (.cells #[.int .u8 (h.ki : Int), .int .u32 (h.ep : Int), .int .u32 (h.ba : Int), .int .u16 (h.ix : Int), .int .u16 (h.ct : Int), .int .u32 (h.bl : Int), .int .u32 (h.mo : Int)] 93)).alloc (.cells #[.slice none 0 0] 72)) :
    Below w.heap.size w W1 ∧ WR (w.heap.size + 1) W1 (w.heap.size + 1) (.slice none 0 0) [] ∧ HdrAt h w.heap.size W1 ∧ W1.heap.size = w.heap.size + 2 := by
  subst e
  have h1 := hdr_new h w
  have h2 := wr_new0 (w.alloc (.cells #[.int .u8 (h.ki : Int), .int .u32 (h.ep : Int), .int .u32 (h.ba : Int), .int .u16 (h.ix : Int), .int .u16 (h.ct : Int), .int .u32 (h.bl : Int), .int .u32 (h.mo : Int)] 93))
  have hz : (w.alloc (.cells #[.int .u8 (h.ki : Int), .int .u32 (h.ep : Int), .int .u32 (h.ba : Int), .int .u16 (h.ix : Int), .int .u16 (h.ct : Int), .int .u32 (h.bl : Int), .int .u32 (h.mo : Int)] 93)).heap.size = w.heap.size + 1 := by simp
  rw [hz] at h2
  exact ⟨bel_alloc (bel_alloc (Below.refl _ w) _) _, h2, h1.below (bel_alloc (Below.refl _ _) _) (by omega), by simp⟩

theorem frame58 (a : Act) (hs : a.tmps.size = 58) (hd : a.defers = []) : ∃ f : Nat → Value, a = ⟨#[f 0, f 1, f 2, f 3, f 4, f 5, f 6, f 7, f 8, f 9, f 10, f 11, f 12, f 13, f 14, f 15, f 16, f 17, f 18, f 19, f 20, f 21, f 22, f 23, f 24, f 25, f 26, f 27, f 28, f 29, f 30, f 31, f 32, f 33, f 34, f 35, f 36, f 37, f 38, f 39, f 40, f 41, f 42, f 43, f 44, f 45, f 46, f 47, f 48, f 49, f 50, f 51, f 52, f 53, f 54, f 55, f 56, f 57], []⟩ ∧ ∀ k, a.tmps.getD k undef = f k := by
  refine ⟨fun k => a.tmps.getD k undef, ?_, fun _ => rfl⟩
  obtain ⟨t, d⟩ := a
  simp only at hs hd
  subst hd
  congr 1
  apply Array.ext
  · simp [hs]
  · intro i h1 h2
    have h3 : t[i] = t.getD i undef := by simp [h1]
    rw [h3]
    rw [hs] at h1
    match i, h1 with
    | 0, _ => rfl
    | 1, _ => rfl
    | 2, _ => rfl
    | 3, _ => rfl
    | 4, _ => rfl
    | 5, _ => rfl
    | 6, _ => rfl
    | 7, _ => rfl
    | 8, _ => rfl
    | 9, _ => rfl
    | 10, _ => rfl
    | 11, _ => rfl
    | 12, _ => rfl
    | 13, _ => rfl
    | 14, _ => rfl
    | 15, _ => rfl
    | 16, _ => rfl
    | 17, _ => rfl
    | 18, _ => rfl
    | 19, _ => rfl
    | 20, _ => rfl
    | 21, _ => rfl
    | 22, _ => rfl
    | 23, _ => rfl
    | 24, _ => rfl
    | 25, _ => rfl
    | 26, _ => rfl
    | 27, _ => rfl
    | 28, _ => rfl
    | 29, _ => rfl
    | 30, _ => rfl
    | 31, _ => rfl
    | 32, _ => rfl
    | 33, _ => rfl
    | 34, _ => rfl
    | 35, _ => rfl
    | 36, _ => rfl
    | 37, _ => rfl
    | 38, _ => rfl
    | 39, _ => rfl
    | 40, _ => rfl
    | 41, _ => rfl
    | 42, _ => rfl
    | 43, _ => rfl
    | 44, _ => rfl
    | 45, _ => rfl
    | 46, _ => rfl
    | 47, _ => rfl
    | 48, _ => rfl
    | 49, _ => rfl
    | 50, _ => rfl
    | 51, _ => rfl
    | 52, _ => rfl
    | 53, _ => rfl
    | 54, _ => rfl
    | 55, _ => rfl
    | 56, _ => rfl
    | 57, _ => rfl
    | i + 58, h => omega
theorem row_new2 (w : World) {K : IntKind} {M n m : Nat} {t : TypeId} (hn : n < M) (hm : m < M) : RowK K M (w.alloc (.cells #[.int K (n : Int), .int K (m : Int)] t)) (some ⟨w.heap.size, 0, none⟩) 2 [n, m] := by
  obtain ⟨c0, c1⟩ := cell_new2 w (.int K (n : Int)) (.int K (m : Int)) t
  refine ⟨rfl, fun x hx => ?_, fun _ => ⟨_, 0, rfl, fun i hi => ?_⟩⟩
  · simp at hx; omega
  · rcases (by omega : i = 0 ∨ i = 1) with rfl | rfl
    · exact c0
    · exact c1
theorem cell_three (w : World) (v0 v1 v2 : Value) (t : TypeId) : (w.alloc (.cells #[v0, v1, v2] t)).cell? ⟨w.heap.size, 0, none⟩ = some v0 ∧ (w.alloc (.cells #[v0, v1, v2] t)).cell? ⟨w.heap.size, 1, none⟩ = some v1 ∧ (w.alloc (.cells #[v0, v1, v2] t)).cell? ⟨w.heap.size, 2, none⟩ = some v2 := by
  refine ⟨?_, ?_, ?_⟩
  all_goals (rw [World.cell?_alloc_mark w #[v0, v1, v2] t (0, 0)]; rfl)
/-- The sum of three parts. -/
theorem of_three (b cap : Nat) (a0 a1 a2 : Option Addr) (l0 l1 l2 c0 c1 c2 : Nat) (b0 b1 b2 : List Nat) (w : World)
    (h0 : w.cell? ⟨b, 0, none⟩ = some (.slice a0 l0 c0)) (h1 : w.cell? ⟨b, 1, none⟩ = some (.slice a1 l1 c1)) (h2 : w.cell? ⟨b, 2, none⟩ = some (.slice a2 l2 c2))
    (r0 : Row w a0 l0 b0) (r1 : Row w a1 l1 b1) (r2 : Row w a2 l2 b2) (k0 : l0 ≤ maxLen) (k1 : l1 ≤ maxLen) (k2 : l2 ≤ maxLen) :
    Calls Tryz.prog 91 #[.slice (some ⟨b, 0, none⟩) 3 cap] w fun e w' => e = .returned (.int .u32 ((Crc.of (b0 ++ b1 ++ b2) : Nat) : Int)) ∧ w = w' := by
  have h := of_any 3 (some ⟨b, 0, none⟩) cap (fun i => [a0, a1, a2].getD i none) (fun i => [l0, l1, l2].getD i 0) (fun i => [c0, c1, c2].getD i 0) (fun i => [b0, b1, b2].getD i []) w (by unfold maxLen; omega)
    (fun _ => ⟨b, 0, rfl, fun i hi => ?_⟩) (fun i hi => ?_)
  · have e : flat (fun i => [b0, b1, b2].getD i []) 3 = b0 ++ b1 ++ b2 := by simp [flat]
    rw [e] at h
    exact h
  · rcases (by omega : i = 0 ∨ i = 1 ∨ i = 2) with rfl | rfl | rfl
    · exact h0
    · exact h1
    · exact h2
  · rcases (by omega : i = 0 ∨ i = 1 ∨ i = 2) with rfl | rfl | rfl
    · exact ⟨k0, r0⟩
    · exact ⟨k1, r1⟩
    · exact ⟨k2, r2⟩

end Go.Proofs.YthgcjiocelcblaaGreat

namespace Go.Proofs.YthgcjiocelcblaaGreat
open Go.RowKit

set_option maxRecDepth 100000 in
set_option maxHeartbeats 1600000 in
theorem seal_one (h : RH) (hf : h.Fits) (a : Option Addr) (len cap : Nat) (ds : List Nat) (b2 off2 : Nat) (sp2 : Option Nat) (len2 cap2 : Nat) (be : List Nat) (w : World)
    (hr : Row w a len ds) (hl : len ≤ 100000) (hr2 : Row w (some ⟨b2, off2, sp2⟩) len2 be) (hlc2 : len2 ≤ cap2) (hle : len2 ≤ 32) :
    Calls Tryz.prog 70 #[.agg h.cells, .slice a len cap, .slice (some ⟨b2, off2, sp2⟩) len2 cap2] w (RetOwn w (sealB h ds be)) := by
  unfold RH.cells
  have hle2 : ((len2 : Int) ≤ 32) := by omega
  have HF := Lib.hid hf
  clear hf
  go_enter Tryz.func70, Tryz.ntmps70
  go_wp2_with fail
  obtain ⟨W1, hW1⟩ : ∃ W1, W1 = (w.alloc (.cells #[.int .u8 (h.ki : Int), .int .u32 (h.ep : Int), .int .u32 (h.ba : Int), .int .u16 (h.ix : Int), .int .u16 (h.ct : Int), .int .u32 (h.bl : Int), .int .u32 (h.mo : Int)] 93)).alloc (.cells #[.slice none 0 0] 72) := ⟨_, rfl⟩
  rw [← hW1]
  obtain ⟨hb1, hw1, hh1, hz1⟩ := seal_start hW1
  have hr21 := row_keep hr2 hb1 (Nat.le_refl _)
  clear hW1
  refine (raw_any _ _ _ _ W1 hw1 (by omega) _ len2 cap2 be hr21 (fun e => by cases e) (by simp; omega)).mono ?_
  rintro e w2 ⟨rfl, sv2, hw2, hm2⟩
  have hb2 : Below (w.heap.size + 1) W1 w2 := hm2.below hw1 (by omega)
  have hz2 := hm2.size
  go_wp2_with fail
  refine (wPad_any _ _ _ _ w2 hw2 (by omega) 32 (by omega) (by omega) (by simp; have := hr2.1; omega)).mono ?_
  rintro e w3 ⟨rfl, sv3, hw3, hm3⟩
  have hb3 : Below (w.heap.size + 1) w2 w3 := hm3.below hw2 (by omega)
  have hz3 := hm3.size
  have e3 : padTo ([] ++ be) 32 = tailB be := by unfold tailB; rw [List.nil_append, List.take_of_length_le (by have := hr2.1; omega)]
  rw [e3] at hw3
  clear e3 hw2 hm2 hm3 hw1
  go_wp2_with fail
  refine (wBytes_any _ _ _ _ w3 hw3 (by rw [tailB_len]; omega)).mono ?_
  intro e w4 h4
  obtain ⟨a4, c4, rfl, hr4, hn4, ho4, hb4⟩ := retOwn_len h4
  rw [tailB_len] at hr4 ⊢
  have hz4 := hb4.size
  have hbw : Below w.heap.size w w4 := ((hb1.trans (hb2.mono (by omega))).trans (hb3.mono (by omega))).trans (hb4.mono (by omega))
  have hh4 : HdrAt h w.heap.size w4 := ((hh1.below hb2 (by omega)).below hb3 (by omega)).below hb4 (by omega)
  have hlt4 : ∀ x, a4 = some x → x.block < w4.heap.size := fun x hx => (own_base ho4 x.block (by rw [hx]; rfl)).2
  have hw5 := wr_new0 w4
  have hs5 : (w4.alloc (.cells #[.slice none 0 0] 72)).heap.size = w4.heap.size + 1 := by simp
  have hb5 : Below w4.heap.size w4 (w4.alloc (.cells #[.slice none 0 0] 72)) := bel_alloc (Below.refl _ _) _
  have hr5 := row_keep hr4 hb5 (Nat.le_refl _)
  have hh5 := hh4.below hb5 (by omega)
  have hbw5 := hbw.trans (hb5.mono (by omega))
  have ho5 := own_up ho4 hb5
  rw [tailB_len] at ho5
  clear h4 ho4 hw3 hb1 hb2 hb3 hb4 hh1 hh4 hr4 hr21
  go_wp2_with fail
  obtain ⟨W5, hW5⟩ : ∃ W5, W5 = w4.alloc (.cells #[.slice none 0 0] 72) := ⟨_, rfl⟩
  obtain ⟨pw, hpw⟩ : ∃ pw, pw = w4.heap.size := ⟨_, rfl⟩
  rw [← hW5, ← hpw] at hw5
  rw [← hW5] at hr5 hh5 hbw5 ho5 hs5
  rw [← hpw] at hs5 hlt4
  have hwp : w.heap.size < pw := by omega
  rw [← hpw, ← hW5]
  have hb45 : Below pw W5 W5.drew := (Below.refl _ _).drew
  have HH : Hid (∀ w' : World, Below pw W5.drew w' → HdrAt h w.heap.size w') := Lib.hid fun w' hb => hh5.below (hb45.trans hb) hwp
  have HROW : Hid (∀ w' : World, Below pw W5.drew w' → Row w' a4 32 (tailB be) ∧ Row w' a len ds ∧ Below w.heap.size w w') := Lib.hid fun w' hb => by
    have hbx := hb45.trans hb
    refine ⟨row_below hr5 hbx (fun x hx => hlt4 x hx), row_keep hr (hbw5.trans (hbx.mono (by omega))) (Nat.le_refl _), hbw5.trans (hbx.mono (by omega))⟩
  have HN4 := Lib.hid hn4
  clear hb5 hr5 hh5 hW5 hpw hn4 hbw hr2 hz4 hz3 hz2 hz1 hlt4 hbw5 hr
  refine wp_region_inv0 (fun a0 => SealI h pw w.heap.size a0 W5.drew) (by kernel_rfl) (by kernel_rfl) ?start ?step ?done
  case start =>
    refine ⟨rfl, rfl, fun _ _ => rfl, Below.refl _ _, _, 0, by omega, wr_keep hw5 ((Below.refl _ W5).drew), ?_⟩
    simp
  case step =>
    intro L a' w' i o hI ho hL hpre
    match i, ho, hL, hpre with
    | 0, ho, hL, hpre =>
      clear hL
      cases ho
      have q8 : a'.tmps.getD 8 undef = .pointer (some ⟨pw, 0, none⟩) := hI.old 8 (by omega)
      refine wpOp_step rfl fun K hK => ?_
      have hK' := hK _ _ (hI.plain 0 (by omega) (by omega) (Below.refl _ _) (fun sv _ => rfl))
      simpa [go_sem, Act.eval, q8] using hK'
    | 1, ho, hL, hpre =>
      clear hL
      cases ho
      have hpz : pw < w'.heap.size := by obtain ⟨_, _, _, hw, _⟩ := hI.mem; exact wr_lt hw
      refine wpOp_step rfl fun K hK => ?_
      have hK' := hK _ _ (hI.plain 1 (w' := w'.alloc (.cells #[.int .u16 ((22356 : Nat) : Int)] 91)) (v := .slice (some ⟨w'.heap.size, 0, none⟩) 1 1) (by omega) (by omega) (bel_alloc (Below.refl _ _) _) (fun sv hs => SlK.new1 (by omega) hpz hs))
      simpa [go_sem, Act.eval] using hK'
    | 2, ho, hL, hpre =>
      cases ho
      obtain ⟨sv, c, hc5, hw, l1, l2, l3, l4, l5, hV⟩ := hI.mem
      have u2 : ¬ 0 < c := fun e => hL (l1.2 e)
      obtain rfl : c = 0 := by omega
      have q1 : a'.tmps.getD 21 undef = .pointer (some ⟨pw, 0, none⟩) := hV 0 (by omega) (hpre ⟨0, .data⟩ (by simp) rfl)
      obtain ⟨b, q2, hrow, f1, f2, f3⟩ : SlK .u16 65536 pw w' sv (a'.tmps.getD 22 undef) [22356] := hV 1 (by omega) (hpre ⟨1, .data⟩ (by simp) rfl)
      have hz := wr_lt hw
      refine wpOp_step rfl fun K hK => ?_
      have hcc := wU16_any pw pw sv _ w' hw (Nat.le_of_lt hz) (some ⟨b, 0, none⟩) 1 1 [22356] hrow (fun _ x hx => by cases hx; exact ⟨f1, f2⟩) (by simp) (by have := sealX_len h 0; omega)
      simp only [List.length_cons, List.length_nil, Nat.zero_add] at q2
      simp [go_sem, Act.eval, q1, q2]
      refine hcc.mono ?_
      rintro e w2 ⟨rfl, sv2, hw2, hm2⟩
      exact hK _ _ (hI.call 2 (c := 0) (by omega) hw hm2 hw2 (by omega) rfl ⟨l1, l2, l3, l4, l5⟩ hV rfl)
    | 3, ho, hL, hpre =>
      clear hL
      cases ho
      have q3 : a'.tmps.getD 3 undef = .pointer (some ⟨w.heap.size, 0, none⟩) := hI.old 3 (by omega)
      refine wpOp_step rfl fun K hK => ?_
      have hK' := hK _ _ (hI.plain 3 (v := .pointer (some ⟨w.heap.size, 0, none⟩)) (by omega) (by omega) (Below.refl _ _) (fun sv _ => rfl))
      simpa [go_sem, Act.eval, q3] using hK'
    | 4, ho, hL, hpre =>
      clear hL
      cases ho
      have q3 : a'.tmps.getD 24 undef = .pointer (some ⟨w.heap.size, 0, none⟩) := by obtain ⟨sv, hq⟩ := hI.get 3 (by omega) (hpre ⟨3, .data⟩ (by simp) rfl); exact hq
      have hc : w'.cell? ⟨w.heap.size, 0, none⟩ = some (.int .u8 (h.ki : Int)) := (HH.out w' hI.bel).1
      refine wpOp_step rfl fun K hK => ?_
      have hK' := hK _ _ (hI.plain 4 (v := .int .u8 (h.ki : Int)) (by omega) (by omega) (Below.refl _ _) (fun sv _ => rfl))
      simpa [go_sem, Act.eval, q3, hc] using hK'
    | 5, ho, hL, hpre =>
      clear hL
      cases ho
      have q4 : a'.tmps.getD 25 undef = .int .u8 (h.ki : Int) := by obtain ⟨sv, hq⟩ := hI.get 4 (by omega) (hpre ⟨4, .data⟩ (by simp) rfl); exact hq
      have hpz : pw < w'.heap.size := by obtain ⟨_, _, _, hw, _⟩ := hI.mem; exact wr_lt hw
      refine wpOp_step rfl fun K hK => ?_
      have hK' := hK _ _ (hI.plain 5 (w' := w'.alloc (.cells #[.int .u8 (h.ki : Int), .int .u8 ((0 : Nat) : Int)] 5)) (v := .slice (some ⟨w'.heap.size, 0, none⟩) 2 2) (by omega) (by omega) (bel_alloc (Below.refl _ _) _) (fun sv hs => SlK.new2 HF.out.ki (by omega) hpz hs))
      have e4 : a'.tmps[25]?.getD undef = .int .u8 (h.ki : Int) := by rw [← q4]; simp
      simpa [go_sem, Act.eval, e4] using hK'
    | 6, ho, hL, hpre =>
      cases ho
      obtain ⟨sv, c, hc5, hw, l1, l2, l3, l4, l5, hV⟩ := hI.mem
      have u1 : 0 < c := l1.1 (hpre ⟨2, .chain⟩ (by simp) rfl)
      have u2 : ¬ 1 < c := fun e => hL (l2.2 e)
      obtain rfl : c = 1 := by omega
      have q1 : a'.tmps.getD 23 undef = .pointer (some ⟨pw, 0, none⟩) := hV 2 (by omega) (hpre ⟨2, .data⟩ (by simp) rfl)
      obtain ⟨b, q2, hrow, f1, f2, f3⟩ : SlK .u8 256 pw w' sv (a'.tmps.getD 26 undef) [h.ki, 0] := hV 5 (by omega) (hpre ⟨5, .data⟩ (by simp) rfl)
      have hz := wr_lt hw
      refine wpOp_step rfl fun K hK => ?_
      have hcc := wU8_any pw pw sv _ w' hw (Nat.le_of_lt hz) (some ⟨b, 0, none⟩) 2 2 [h.ki, 0] hrow (fun e => by cases e) (by have := sealX_len h 1; omega)
      simp only [List.length_cons, List.length_nil, Nat.zero_add, Nat.reduceAdd] at q2
      simp [go_sem, Act.eval, q1, q2]
      refine hcc.mono ?_
      rintro e w2 ⟨rfl, sv2, hw2, hm2⟩
      exact hK _ _ (hI.call 6 (c := 1) (by omega) hw hm2 hw2 (by omega) rfl ⟨l1, l2, l3, l4, l5⟩ hV rfl)
    | 7, ho, hL, hpre =>
      clear hL
      cases ho
      have q3 : a'.tmps.getD 3 undef = .pointer (some ⟨w.heap.size, 0, none⟩) := hI.old 3 (by omega)
      refine wpOp_step rfl fun K hK => ?_
      have hK' := hK _ _ (hI.plain 7 (v := .pointer (some ⟨w.heap.size, 1, none⟩)) (by omega) (by omega) (Below.refl _ _) (fun sv _ => rfl))
      simpa [go_sem, Act.eval, q3] using hK'
    | 8, ho, hL, hpre =>
      clear hL
      cases ho
      have q7 : a'.tmps.getD 28 undef = .pointer (some ⟨w.heap.size, 1, none⟩) := by obtain ⟨sv, hq⟩ := hI.get 7 (by omega) (hpre ⟨7, .data⟩ (by simp) rfl); exact hq
      have hc : w'.cell? ⟨w.heap.size, 1, none⟩ = some (.int .u32 (h.ep : Int)) := (HH.out w' hI.bel).2.1
      refine wpOp_step rfl fun K hK => ?_
      have hK' := hK _ _ (hI.plain 8 (v := .int .u32 (h.ep : Int)) (by omega) (by omega) (Below.refl _ _) (fun sv _ => rfl))
      simpa [go_sem, Act.eval, q7, hc] using hK'
    | 9, ho, hL, hpre =>
      clear hL
      cases ho
      have q3 : a'.tmps.getD 3 undef = .pointer (some ⟨w.heap.size, 0, none⟩) := hI.old 3 (by omega)
      refine wpOp_step rfl fun K hK => ?_
      have hK' := hK _ _ (hI.plain 9 (v := .pointer (some ⟨w.heap.size, 2, none⟩)) (by omega) (by omega) (Below.refl _ _) (fun sv _ => rfl))
      simpa [go_sem, Act.eval, q3] using hK'
    | 10, ho, hL, hpre =>
      clear hL
      cases ho
      have q9 : a'.tmps.getD 30 undef = .pointer (some ⟨w.heap.size, 2, none⟩) := by obtain ⟨sv, hq⟩ := hI.get 9 (by omega) (hpre ⟨9, .data⟩ (by simp) rfl); exact hq
      have hc : w'.cell? ⟨w.heap.size, 2, none⟩ = some (.int .u32 (h.ba : Int)) := (HH.out w' hI.bel).2.2.1
      refine wpOp_step rfl fun K hK => ?_
      have hK' := hK _ _ (hI.plain 10 (v := .int .u32 (h.ba : Int)) (by omega) (by omega) (Below.refl _ _) (fun sv _ => rfl))
      simpa [go_sem, Act.eval, q9, hc] using hK'
    | 11, ho, hL, hpre =>
      clear hL
      cases ho
      have q8 : a'.tmps.getD 29 undef = .int .u32 (h.ep : Int) := by obtain ⟨sv, hq⟩ := hI.get 8 (by omega) (hpre ⟨8, .data⟩ (by simp) rfl); exact hq
      have q10 : a'.tmps.getD 31 undef = .int .u32 (h.ba : Int) := by obtain ⟨sv, hq⟩ := hI.get 10 (by omega) (hpre ⟨10, .data⟩ (by simp) rfl); exact hq
      have hpz : pw < w'.heap.size := by obtain ⟨_, _, _, hw, _⟩ := hI.mem; exact wr_lt hw
      refine wpOp_step rfl fun K hK => ?_
      have hK' := hK _ _ (hI.plain 11 (w' := w'.alloc (.cells #[.int .u32 (h.ep : Int), .int .u32 (h.ba : Int)] 22)) (v := .slice (some ⟨w'.heap.size, 0, none⟩) 2 2) (by omega) (by omega) (bel_alloc (Below.refl _ _) _) (fun sv hs => SlK.new2 HF.out.ep HF.out.ba hpz hs))
      have e8 : a'.tmps[29]?.getD undef = .int .u32 (h.ep : Int) := by rw [← q8]; simp
      have e10 : a'.tmps[31]?.getD undef = .int .u32 (h.ba : Int) := by rw [← q10]; simp
      simpa [go_sem, Act.eval, e8, e10] using hK'
    | 12, ho, hL, hpre =>
      cases ho
      obtain ⟨sv, c, hc5, hw, l1, l2, l3, l4, l5, hV⟩ := hI.mem
      have u1 : 1 < c := l2.1 (hpre ⟨6, .chain⟩ (by simp) rfl)
      have u2 : ¬ 2 < c := fun e => hL (l3.2 e)
      obtain rfl : c = 2 := by omega
      have q1 : a'.tmps.getD 27 undef = .pointer (some ⟨pw, 0, none⟩) := hV 6 (by omega) (hpre ⟨6, .data⟩ (by simp) rfl)
      obtain ⟨b, q2, hrow, f1, f2, f3⟩ : SlK .u32 4294967296 pw w' sv (a'.tmps.getD 32 undef) [h.ep, h.ba] := hV 11 (by omega) (hpre ⟨11, .data⟩ (by simp) rfl)
      have hz := wr_lt hw
      refine wpOp_step rfl fun K hK => ?_
      have hcc := wU32_any pw pw sv _ w' hw (Nat.le_of_lt hz) (some ⟨b, 0, none⟩) 2 2 [h.ep, h.ba] hrow (fun _ x hx => by cases hx; exact ⟨f1, f2⟩) (by simp) (by have := sealX_len h 2; omega)
      simp only [List.length_cons, List.length_nil, Nat.zero_add, Nat.reduceAdd] at q2
      simp [go_sem, Act.eval, q1, q2]
      refine hcc.mono ?_
      rintro e w2 ⟨rfl, sv2, hw2, hm2⟩
      exact hK _ _ (hI.call 12 (c := 2) (by omega) hw hm2 hw2 (by omega) rfl ⟨l1, l2, l3, l4, l5⟩ hV rfl)
    | 13, ho, hL, hpre =>
      clear hL
      cases ho
      have q3 : a'.tmps.getD 3 undef = .pointer (some ⟨w.heap.size, 0, none⟩) := hI.old 3 (by omega)
      refine wpOp_step rfl fun K hK => ?_
      have hK' := hK _ _ (hI.plain 13 (v := .pointer (some ⟨w.heap.size, 3, none⟩)) (by omega) (by omega) (Below.refl _ _) (fun sv _ => rfl))
      simpa [go_sem, Act.eval, q3] using hK'
    | 14, ho, hL, hpre =>
      clear hL
      cases ho
      have q13 : a'.tmps.getD 34 undef = .pointer (some ⟨w.heap.size, 3, none⟩) := by obtain ⟨sv, hq⟩ := hI.get 13 (by omega) (hpre ⟨13, .data⟩ (by simp) rfl); exact hq
      have hc : w'.cell? ⟨w.heap.size, 3, none⟩ = some (.int .u16 (h.ix : Int)) := (HH.out w' hI.bel).2.2.2.1
      refine wpOp_step rfl fun K hK => ?_
      have hK' := hK _ _ (hI.plain 14 (v := .int .u16 (h.ix : Int)) (by omega) (by omega) (Below.refl _ _) (fun sv _ => rfl))
      simpa [go_sem, Act.eval, q13, hc] using hK'
    | 15, ho, hL, hpre =>
      clear hL
      cases ho
      have q3 : a'.tmps.getD 3 undef = .pointer (some ⟨w.heap.size, 0, none⟩) := hI.old 3 (by omega)
      refine wpOp_step rfl fun K hK => ?_
      have hK' := hK _ _ (hI.plain 15 (v := .pointer (some ⟨w.heap.size, 4, none⟩)) (by omega) (by omega) (Below.refl _ _) (fun sv _ => rfl))
      simpa [go_sem, Act.eval, q3] using hK'
    | 16, ho, hL, hpre =>
      clear hL
      cases ho
      have q15 : a'.tmps.getD 36 undef = .pointer (some ⟨w.heap.size, 4, none⟩) := by obtain ⟨sv, hq⟩ := hI.get 15 (by omega) (hpre ⟨15, .data⟩ (by simp) rfl); exact hq
      have hc : w'.cell? ⟨w.heap.size, 4, none⟩ = some (.int .u16 (h.ct : Int)) := (HH.out w' hI.bel).2.2.2.2.1
      refine wpOp_step rfl fun K hK => ?_
      have hK' := hK _ _ (hI.plain 16 (v := .int .u16 (h.ct : Int)) (by omega) (by omega) (Below.refl _ _) (fun sv _ => rfl))
      simpa [go_sem, Act.eval, q15, hc] using hK'
    | 17, ho, hL, hpre =>
      clear hL
      cases ho
      have q14 : a'.tmps.getD 35 undef = .int .u16 (h.ix : Int) := by obtain ⟨sv, hq⟩ := hI.get 14 (by omega) (hpre ⟨14, .data⟩ (by simp) rfl); exact hq
      have q16 : a'.tmps.getD 37 undef = .int .u16 (h.ct : Int) := by obtain ⟨sv, hq⟩ := hI.get 16 (by omega) (hpre ⟨16, .data⟩ (by simp) rfl); exact hq
      have hpz : pw < w'.heap.size := by obtain ⟨_, _, _, hw, _⟩ := hI.mem; exact wr_lt hw
      refine wpOp_step rfl fun K hK => ?_
      have hK' := hK _ _ (hI.plain 17 (w' := w'.alloc (.cells #[.int .u16 (h.ix : Int), .int .u16 (h.ct : Int)] 91)) (v := .slice (some ⟨w'.heap.size, 0, none⟩) 2 2) (by omega) (by omega) (bel_alloc (Below.refl _ _) _) (fun sv hs => SlK.new2 HF.out.ix HF.out.ct hpz hs))
      have e14 : a'.tmps[35]?.getD undef = .int .u16 (h.ix : Int) := by rw [← q14]; simp
      have e16 : a'.tmps[37]?.getD undef = .int .u16 (h.ct : Int) := by rw [← q16]; simp
      simpa [go_sem, Act.eval, e14, e16] using hK'
    | 18, ho, hL, hpre =>
      cases ho
      obtain ⟨sv, c, hc5, hw, l1, l2, l3, l4, l5, hV⟩ := hI.mem
      have u1 : 2 < c := l3.1 (hpre ⟨12, .chain⟩ (by simp) rfl)
      have u2 : ¬ 3 < c := fun e => hL (l4.2 e)
      obtain rfl : c = 3 := by omega
      have q1 : a'.tmps.getD 33 undef = .pointer (some ⟨pw, 0, none⟩) := hV 12 (by omega) (hpre ⟨12, .data⟩ (by simp) rfl)
      obtain ⟨b, q2, hrow, f1, f2, f3⟩ : SlK .u16 65536 pw w' sv (a'.tmps.getD 38 undef) [h.ix, h.ct] := hV 17 (by omega) (hpre ⟨17, .data⟩ (by simp) rfl)
      have hz := wr_lt hw
      refine wpOp_step rfl fun K hK => ?_
      have hcc := wU16_any pw pw sv _ w' hw (Nat.le_of_lt hz) (some ⟨b, 0, none⟩) 2 2 [h.ix, h.ct] hrow (fun _ x hx => by cases hx; exact ⟨f1, f2⟩) (by simp) (by have := sealX_len h 3; omega)
      simp only [List.length_cons, List.length_nil, Nat.zero_add, Nat.reduceAdd] at q2
      simp [go_sem, Act.eval, q1, q2]
      refine hcc.mono ?_
      rintro e w2 ⟨rfl, sv2, hw2, hm2⟩
      exact hK _ _ (hI.call 18 (c := 3) (by omega) hw hm2 hw2 (by omega) rfl ⟨l1, l2, l3, l4, l5⟩ hV rfl)
    | 19, ho, hL, hpre =>
      clear hL
      cases ho
      have q3 : a'.tmps.getD 3 undef = .pointer (some ⟨w.heap.size, 0, none⟩) := hI.old 3 (by omega)
      refine wpOp_step rfl fun K hK => ?_
      have hK' := hK _ _ (hI.plain 19 (v := .pointer (some ⟨w.heap.size, 5, none⟩)) (by omega) (by omega) (Below.refl _ _) (fun sv _ => rfl))
      simpa [go_sem, Act.eval, q3] using hK'
    | 20, ho, hL, hpre =>
      clear hL
      cases ho
      have q19 : a'.tmps.getD 40 undef = .pointer (some ⟨w.heap.size, 5, none⟩) := by obtain ⟨sv, hq⟩ := hI.get 19 (by omega) (hpre ⟨19, .data⟩ (by simp) rfl); exact hq
      have hc : w'.cell? ⟨w.heap.size, 5, none⟩ = some (.int .u32 (h.bl : Int)) := (HH.out w' hI.bel).2.2.2.2.2.1
      refine wpOp_step rfl fun K hK => ?_
      have hK' := hK _ _ (hI.plain 20 (v := .int .u32 (h.bl : Int)) (by omega) (by omega) (Below.refl _ _) (fun sv _ => rfl))
      simpa [go_sem, Act.eval, q19, hc] using hK'
    | 21, ho, hL, hpre =>
      clear hL
      cases ho
      have q3 : a'.tmps.getD 3 undef = .pointer (some ⟨w.heap.size, 0, none⟩) := hI.old 3 (by omega)
      refine wpOp_step rfl fun K hK => ?_
      have hK' := hK _ _ (hI.plain 21 (v := .pointer (some ⟨w.heap.size, 6, none⟩)) (by omega) (by omega) (Below.refl _ _) (fun sv _ => rfl))
      simpa [go_sem, Act.eval, q3] using hK'
    | 22, ho, hL, hpre =>
      clear hL
      cases ho
      have q21 : a'.tmps.getD 42 undef = .pointer (some ⟨w.heap.size, 6, none⟩) := by obtain ⟨sv, hq⟩ := hI.get 21 (by omega) (hpre ⟨21, .data⟩ (by simp) rfl); exact hq
      have hc : w'.cell? ⟨w.heap.size, 6, none⟩ = some (.int .u32 (h.mo : Int)) := (HH.out w' hI.bel).2.2.2.2.2.2
      refine wpOp_step rfl fun K hK => ?_
      have hK' := hK _ _ (hI.plain 22 (v := .int .u32 (h.mo : Int)) (by omega) (by omega) (Below.refl _ _) (fun sv _ => rfl))
      simpa [go_sem, Act.eval, q21, hc] using hK'
    | 23, ho, hL, hpre =>
      clear hL
      cases ho
      have q20 : a'.tmps.getD 41 undef = .int .u32 (h.bl : Int) := by obtain ⟨sv, hq⟩ := hI.get 20 (by omega) (hpre ⟨20, .data⟩ (by simp) rfl); exact hq
      have q22 : a'.tmps.getD 43 undef = .int .u32 (h.mo : Int) := by obtain ⟨sv, hq⟩ := hI.get 22 (by omega) (hpre ⟨22, .data⟩ (by simp) rfl); exact hq
      have hpz : pw < w'.heap.size := by obtain ⟨_, _, _, hw, _⟩ := hI.mem; exact wr_lt hw
      refine wpOp_step rfl fun K hK => ?_
      have hK' := hK _ _ (hI.plain 23 (w' := w'.alloc (.cells #[.int .u32 (h.bl : Int), .int .u32 (h.mo : Int)] 22)) (v := .slice (some ⟨w'.heap.size, 0, none⟩) 2 2) (by omega) (by omega) (bel_alloc (Below.refl _ _) _) (fun sv hs => SlK.new2 HF.out.bl HF.out.mo hpz hs))
      have e20 : a'.tmps[41]?.getD undef = .int .u32 (h.bl : Int) := by rw [← q20]; simp
      have e22 : a'.tmps[43]?.getD undef = .int .u32 (h.mo : Int) := by rw [← q22]; simp
      simpa [go_sem, Act.eval, e20, e22] using hK'
    | 24, ho, hL, hpre =>
      cases ho
      obtain ⟨sv, c, hc5, hw, l1, l2, l3, l4, l5, hV⟩ := hI.mem
      have u1 : 3 < c := l4.1 (hpre ⟨18, .chain⟩ (by simp) rfl)
      have u2 : ¬ 4 < c := fun e => hL (l5.2 e)
      obtain rfl : c = 4 := by omega
      have q1 : a'.tmps.getD 39 undef = .pointer (some ⟨pw, 0, none⟩) := hV 18 (by omega) (hpre ⟨18, .data⟩ (by simp) rfl)
      obtain ⟨b, q2, hrow, f1, f2, f3⟩ : SlK .u32 4294967296 pw w' sv (a'.tmps.getD 44 undef) [h.bl, h.mo] := hV 23 (by omega) (hpre ⟨23, .data⟩ (by simp) rfl)
      have hz := wr_lt hw
      refine wpOp_step rfl fun K hK => ?_
      have hcc := wU32_any pw pw sv _ w' hw (Nat.le_of_lt hz) (some ⟨b, 0, none⟩) 2 2 [h.bl, h.mo] hrow (fun _ x hx => by cases hx; exact ⟨f1, f2⟩) (by simp) (by have := sealX_len h 4; omega)
      simp only [List.length_cons, List.length_nil, Nat.zero_add, Nat.reduceAdd] at q2
      simp [go_sem, Act.eval, q1, q2]
      refine hcc.mono ?_
      rintro e w2 ⟨rfl, sv2, hw2, hm2⟩
      exact hK _ _ (hI.call 24 (c := 4) (by omega) hw hm2 hw2 (by omega) rfl ⟨l1, l2, l3, l4, l5⟩ hV rfl)
    | i + 25, ho, _, _ => simp at ho
  case done =>
    intro L a' w' hI hL
    obtain ⟨sv, c, hc5, hw, l1, l2, l3, l4, l5, hV⟩ := hI.mem
    obtain rfl : c = 5 := by have := l5.1 (hL 24 (by decide)); omega
    have f1 : a'.tmps.getD 1 undef = .slice a len cap := hI.old 1 (by omega)
    have f7 : a'.tmps.getD 7 undef = .slice a4 32 c4 := hI.old 7 (by omega)
    have f8 : a'.tmps.getD 8 undef = .pointer (some ⟨pw, 0, none⟩) := hI.old 8 (by omega)
    obtain ⟨f, hfr, hfk⟩ := frame58 a' hI.sz hI.df
    rw [hfk] at f1 f7 f8
    have hbel := hI.bel
    have hw : WR pw w' pw sv (headB h) := hw
    clear hV l1 l2 l3 l4 l5 hI hL hw5 HH hs5 ho5
    rw [hfr]
    rw [f1, f7, f8]
    clear hfr hfk f1 f7 f8
    obtain ⟨hrt, hrd, hbw⟩ := HROW.out w' hbel
    have hz := wr_lt hw
    go_wp2_with fail
    refine (wBytes_any _ _ _ _ w' hw (by rw [headB_len]; omega)).mono ?_
    intro e w6 h6
    obtain ⟨a6, c6, rfl, hr6, hn6, ho6, hb6⟩ := retOwn_len h6
    rw [headB_len] at hr6 ⊢
    have hb6' : Below pw W5.drew w6 := hbel.trans (hb6.mono (Nat.le_of_lt hz))
    obtain ⟨hrt6, hrd6, hbw6⟩ := HROW.out w6 hb6'
    have hw6 := wr_keep hw hb6
    have hb7 : ∀ o, Below pw W5.drew (w6.alloc o) := fun o => hb6'.alloc (Nat.le_trans (Nat.le_of_lt hz) hb6.size) o
    have hr67 := fun o => row_alloc hr6 o
    have hw67 := fun o => wr_keep hw6 (bel_alloc (Below.refl _ w6) o)
    have hz6 := wr_lt hw6
    clear h6 hr6 hn6 ho6 hbel hrt hrd hbw hw hb6 hrt6 hrd6 hbw6 hb6'
    go_wp2_with fail
    obtain ⟨W7, hW7⟩ : ∃ W7, W7 = w6.alloc (.cells #[.slice a6 24 c6, .slice a len cap, .slice a4 32 c4] 28) := ⟨_, rfl⟩
    obtain ⟨c0, c1, c2⟩ := cell_three w6 (.slice a6 24 c6) (.slice a len cap) (.slice a4 32 c4) 28
    have hb7 := hb7 (.cells #[.slice a6 24 c6, .slice a len cap, .slice a4 32 c4] 28)
    have hr67 := hr67 (.cells #[.slice a6 24 c6, .slice a len cap, .slice a4 32 c4] 28)
    have hw67 := hw67 (.cells #[.slice a6 24 c6, .slice a len cap, .slice a4 32 c4] 28)
    have hz7 : W7.heap.size = w6.heap.size + 1 := by rw [hW7]; simp
    rw [← hW7] at c0 c1 c2 hb7 hr67 hw67 ⊢
    obtain ⟨hrt7, hrd7, hbw7⟩ := HROW.out W7 hb7
    clear hW7
    refine (of_three w6.heap.size 3 a6 a a4 24 len 32 c6 cap c4 (headB h) ds (tailB be) W7 c0 c1 c2 hr67 hrd7 hrt7 (by unfold maxLen; omega) (by unfold maxLen; omega) (by unfold maxLen; omega)).mono ?_
    rintro e w8 ⟨rfl, rfl⟩
    obtain ⟨S, hS⟩ : ∃ S, sumB h ds be = S := ⟨_, rfl⟩
    have hS' : Crc.of (headB h ++ ds ++ tailB be) = S := hS
    have hSlt : S < 4294967296 := by rw [← hS]; exact Crc.of_lt _
    rw [hS']
    have HS := Lib.hid hS
    have hp7 : pw < W7.heap.size := by omega
    clear hS hS' c0 c1 c2 hr67 hrd7 hrt7 hz7
    have hb8 : Below pw W5.drew (W7.alloc (.cells #[.int .u32 (S : Int), .int .u32 ((0 : Nat) : Int)] 22)) := hb7.alloc (by omega) _
    have hw8 := wr_keep hw67 (bel_alloc (Below.refl _ W7) (.cells #[.int .u32 (S : Int), .int .u32 ((0 : Nat) : Int)] 22))
    have hr8 : RowK .u32 4294967296 (W7.alloc (.cells #[.int .u32 (S : Int), .int .u32 ((0 : Nat) : Int)] 22)) (some ⟨W7.heap.size, 0, none⟩) 2 [S, 0] := row_new2 W7 hSlt (by omega)
    have hfar : ∀ x : Addr, some (⟨W7.heap.size, 0, none⟩ : Addr) = some x → x.block ≠ pw ∧ some x.block ≠ sv.ownBlock := fun x hx => by
      cases hx
      refine ⟨by show W7.heap.size ≠ pw; omega, fun e => ?_⟩
      have h9 : W7.heap.size < W7.heap.size := (own_base hw67.2.2.1 _ e.symm).2
      omega
    have hs8 : pw ≤ (W7.alloc (.cells #[.int .u32 (S : Int), .int .u32 ((0 : Nat) : Int)] 22)).heap.size := by simp; omega
    clear hw67
    go_wp2_with fail
    refine (wU32_any pw pw sv _ _ hw8 hs8 _ 2 2 [S, 0] hr8 (fun _ => hfar) (by omega) (by rw [headB_len]; omega)).mono ?_
    rintro e w9 ⟨rfl, sv9, hw9, hm9⟩
    have hb9 := hb8.trans (hm9.below hw8 hs8)
    obtain ⟨hrt9, _, hbw9⟩ := HROW.out w9 hb9
    have hz9 := wr_lt hw9
    clear hm9 hw8 hr8 hfar hb8 hs8
    go_wp2_with fail
    refine (raw_any pw pw sv9 _ w9 hw9 (Nat.le_of_lt hz9) a4 32 c4 (tailB be) hrt9 HN4.out (by simp [headB_len, Crc.les_len])).mono ?_
    rintro e w10 ⟨rfl, sv10, hw10, hm10⟩
    have hb10 := hb9.trans (hm10.below hw9 (Nat.le_of_lt hz9))
    obtain ⟨_, _, hbw10⟩ := HROW.out w10 hb10
    have hF : (headB h ++ [S, 0].flatMap (Crc.les 4)) ++ tailB be = sealB h ds be := by unfold sealB; rw [HS.out]
    rw [hF] at hw10
    clear hF hm10 hw9 hrt9
    go_wp2_with fail
    refine (wBytes_any _ _ _ _ w10 hw10 (by rw [sealB_len]; omega)).mono ?_
    rintro e w11 ⟨sv11, rfl, ho11, hb11⟩
    have ho12 := own_mono ho11 hbw10.size
    have hb12 := bel_trans hbw10 hb11
    obtain ⟨a12, c12, rfl, _⟩ := row_of_own ho11
    clear ho11 hb11
    go_wp2
    go_ret
    exact ⟨_, rfl, ho12, hb12⟩

end Go.Proofs.YthgcjiocelcblaaGreat

namespace Go.Proofs.YthgcjiocelcblaaGreat
open Go.RowKit

set_option maxRecDepth 100000 in
set_option maxHeartbeats 1600000 in
theorem seal_wide (h : RH) (hf : h.Fits) (a : Option Addr) (len cap : Nat) (ds : List Nat) (b2 off2 : Nat) (sp2 : Option Nat) (len2 cap2 : Nat) (be : List Nat) (w : World)
    (hr : Row w a len ds) (hl : len ≤ 100000) (hr2 : Row w (some ⟨b2, off2, sp2⟩) len2 be) (hlc2 : len2 ≤ cap2) (hcm2 : cap2 ≤ 9223372036854775807) (hle : ¬ len2 ≤ 32) (hl2 : len2 ≤ 100000) :
    Calls Tryz.prog 70 #[.agg h.cells, .slice a len cap, .slice (some ⟨b2, off2, sp2⟩) len2 cap2] w (RetOwn w (sealB h ds be)) := by
  unfold RH.cells
  have hle2 : ¬ ((len2 : Int) ≤ 32) := by omega
  have hle3 : 32 ≤ cap2 := by omega
  have HF := Lib.hid hf
  clear hf
  go_enter Tryz.func70, Tryz.ntmps70
  go_wp2_with fail
  obtain ⟨W1, hW1⟩ : ∃ W1, W1 = (w.alloc (.cells #[.int .u8 (h.ki : Int), .int .u32 (h.ep : Int), .int .u32 (h.ba : Int), .int .u16 (h.ix : Int), .int .u16 (h.ct : Int), .int .u32 (h.bl : Int), .int .u32 (h.mo : Int)] 93)).alloc (.cells #[.slice none 0 0] 72) := ⟨_, rfl⟩
  rw [← hW1]
  obtain ⟨hb1, hw1, hh1, hz1⟩ := seal_start hW1
  have hr21 := row_cut (row_keep hr2 hb1 (Nat.le_refl _)) 32 (by omega)
  clear hW1
  refine (raw_any _ _ _ _ W1 hw1 (by omega) _ 32 cap2 (be.take 32) hr21 (fun e => by cases e) (by simp)).mono ?_
  rintro e w2 ⟨rfl, sv2, hw2, hm2⟩
  have hb2 : Below (w.heap.size + 1) W1 w2 := hm2.below hw1 (by omega)
  have hz2 := hm2.size
  go_wp2_with fail
  refine (wPad_any _ _ _ _ w2 hw2 (by omega) 32 (by omega) (by omega) (by simp; omega)).mono ?_
  rintro e w3 ⟨rfl, sv3, hw3, hm3⟩
  have hb3 : Below (w.heap.size + 1) w2 w3 := hm3.below hw2 (by omega)
  have hz3 := hm3.size
  have e3 : padTo ([] ++ be.take 32) 32 = tailB be := by unfold tailB; rw [List.nil_append]
  rw [e3] at hw3
  clear e3 hw2 hm2 hm3 hw1
  go_wp2_with fail
  refine (wBytes_any _ _ _ _ w3 hw3 (by rw [tailB_len]; omega)).mono ?_
  intro e w4 h4
  obtain ⟨a4, c4, rfl, hr4, hn4, ho4, hb4⟩ := retOwn_len h4
  rw [tailB_len] at hr4 ⊢
  have hz4 := hb4.size
  have hbw : Below w.heap.size w w4 := ((hb1.trans (hb2.mono (by omega))).trans (hb3.mono (by omega))).trans (hb4.mono (by omega))
  have hh4 : HdrAt h w.heap.size w4 := ((hh1.below hb2 (by omega)).below hb3 (by omega)).below hb4 (by omega)
  have hlt4 : ∀ x, a4 = some x → x.block < w4.heap.size := fun x hx => (own_base ho4 x.block (by rw [hx]; rfl)).2
  have hw5 := wr_new0 w4
  have hs5 : (w4.alloc (.cells #[.slice none 0 0] 72)).heap.size = w4.heap.size + 1 := by simp
  have hb5 : Below w4.heap.size w4 (w4.alloc (.cells #[.slice none 0 0] 72)) := bel_alloc (Below.refl _ _) _
  have hr5 := row_keep hr4 hb5 (Nat.le_refl _)
  have hh5 := hh4.below hb5 (by omega)
  have hbw5 := hbw.trans (hb5.mono (by omega))
  have ho5 := own_up ho4 hb5
  rw [tailB_len] at ho5
  clear h4 ho4 hw3 hb1 hb2 hb3 hb4 hh1 hh4 hr4 hr21
  go_wp2_with fail
  obtain ⟨W5, hW5⟩ : ∃ W5, W5 = w4.alloc (.cells #[.slice none 0 0] 72) := ⟨_, rfl⟩
  obtain ⟨pw, hpw⟩ : ∃ pw, pw = w4.heap.size := ⟨_, rfl⟩
  rw [← hW5, ← hpw] at hw5
  rw [← hW5] at hr5 hh5 hbw5 ho5 hs5
  rw [← hpw] at hs5 hlt4
  have hwp : w.heap.size < pw := by omega
  rw [← hpw, ← hW5]
  have hb45 : Below pw W5 W5.drew := (Below.refl _ _).drew
  have HH : Hid (∀ w' : World, Below pw W5.drew w' → HdrAt h w.heap.size w') := Lib.hid fun w' hb => hh5.below (hb45.trans hb) hwp
  have HROW : Hid (∀ w' : World, Below pw W5.drew w' → Row w' a4 32 (tailB be) ∧ Row w' a len ds ∧ Below w.heap.size w w') := Lib.hid fun w' hb => by
    have hbx := hb45.trans hb
    refine ⟨row_below hr5 hbx (fun x hx => hlt4 x hx), row_keep hr (hbw5.trans (hbx.mono (by omega))) (Nat.le_refl _), hbw5.trans (hbx.mono (by omega))⟩
  have HN4 := Lib.hid hn4
  clear hb5 hr5 hh5 hW5 hpw hn4 hbw hr2 hz4 hz3 hz2 hz1 hlt4 hbw5 hr
  refine wp_region_inv0 (fun a0 => SealI h pw w.heap.size a0 W5.drew) (by kernel_rfl) (by kernel_rfl) ?start ?step ?done
  case start =>
    refine ⟨rfl, rfl, fun _ _ => rfl, Below.refl _ _, _, 0, by omega, wr_keep hw5 ((Below.refl _ W5).drew), ?_⟩
    simp
  case step =>
    intro L a' w' i o hI ho hL hpre
    match i, ho, hL, hpre with
    | 0, ho, hL, hpre =>
      clear hL
      cases ho
      have q8 : a'.tmps.getD 8 undef = .pointer (some ⟨pw, 0, none⟩) := hI.old 8 (by omega)
      refine wpOp_step rfl fun K hK => ?_
      have hK' := hK _ _ (hI.plain 0 (by omega) (by omega) (Below.refl _ _) (fun sv _ => rfl))
      simpa [go_sem, Act.eval, q8] using hK'
    | 1, ho, hL, hpre =>
      clear hL
      cases ho
      have hpz : pw < w'.heap.size := by obtain ⟨_, _, _, hw, _⟩ := hI.mem; exact wr_lt hw
      refine wpOp_step rfl fun K hK => ?_
      have hK' := hK _ _ (hI.plain 1 (w' := w'.alloc (.cells #[.int .u16 ((22356 : Nat) : Int)] 91)) (v := .slice (some ⟨w'.heap.size, 0, none⟩) 1 1) (by omega) (by omega) (bel_alloc (Below.refl _ _) _) (fun sv hs => SlK.new1 (by omega) hpz hs))
      simpa [go_sem, Act.eval] using hK'
    | 2, ho, hL, hpre =>
      cases ho
      obtain ⟨sv, c, hc5, hw, l1, l2, l3, l4, l5, hV⟩ := hI.mem
      have u2 : ¬ 0 < c := fun e => hL (l1.2 e)
      obtain rfl : c = 0 := by omega
      have q1 : a'.tmps.getD 21 undef = .pointer (some ⟨pw, 0, none⟩) := hV 0 (by omega) (hpre ⟨0, .data⟩ (by simp) rfl)
      obtain ⟨b, q2, hrow, f1, f2, f3⟩ : SlK .u16 65536 pw w' sv (a'.tmps.getD 22 undef) [22356] := hV 1 (by omega) (hpre ⟨1, .data⟩ (by simp) rfl)
      have hz := wr_lt hw
      refine wpOp_step rfl fun K hK => ?_
      have hcc := wU16_any pw pw sv _ w' hw (Nat.le_of_lt hz) (some ⟨b, 0, none⟩) 1 1 [22356] hrow (fun _ x hx => by cases hx; exact ⟨f1, f2⟩) (by simp) (by have := sealX_len h 0; omega)
      simp only [List.length_cons, List.length_nil, Nat.zero_add] at q2
      simp [go_sem, Act.eval, q1, q2]
      refine hcc.mono ?_
      rintro e w2 ⟨rfl, sv2, hw2, hm2⟩
      exact hK _ _ (hI.call 2 (c := 0) (by omega) hw hm2 hw2 (by omega) rfl ⟨l1, l2, l3, l4, l5⟩ hV rfl)
    | 3, ho, hL, hpre =>
      clear hL
      cases ho
      have q3 : a'.tmps.getD 3 undef = .pointer (some ⟨w.heap.size, 0, none⟩) := hI.old 3 (by omega)
      refine wpOp_step rfl fun K hK => ?_
      have hK' := hK _ _ (hI.plain 3 (v := .pointer (some ⟨w.heap.size, 0, none⟩)) (by omega) (by omega) (Below.refl _ _) (fun sv _ => rfl))
      simpa [go_sem, Act.eval, q3] using hK'
    | 4, ho, hL, hpre =>
      clear hL
      cases ho
      have q3 : a'.tmps.getD 24 undef = .pointer (some ⟨w.heap.size, 0, none⟩) := by obtain ⟨sv, hq⟩ := hI.get 3 (by omega) (hpre ⟨3, .data⟩ (by simp) rfl); exact hq
      have hc : w'.cell? ⟨w.heap.size, 0, none⟩ = some (.int .u8 (h.ki : Int)) := (HH.out w' hI.bel).1
      refine wpOp_step rfl fun K hK => ?_
      have hK' := hK _ _ (hI.plain 4 (v := .int .u8 (h.ki : Int)) (by omega) (by omega) (Below.refl _ _) (fun sv _ => rfl))
      simpa [go_sem, Act.eval, q3, hc] using hK'
    | 5, ho, hL, hpre =>
      clear hL
      cases ho
      have q4 : a'.tmps.getD 25 undef = .int .u8 (h.ki : Int) := by obtain ⟨sv, hq⟩ := hI.get 4 (by omega) (hpre ⟨4, .data⟩ (by simp) rfl); exact hq
      have hpz : pw < w'.heap.size := by obtain ⟨_, _, _, hw, _⟩ := hI.mem; exact wr_lt hw
      refine wpOp_step rfl fun K hK => ?_
      have hK' := hK _ _ (hI.plain 5 (w' := w'.alloc (.cells #[.int .u8 (h.ki : Int), .int .u8 ((0 : Nat) : Int)] 5)) (v := .slice (some ⟨w'.heap.size, 0, none⟩) 2 2) (by omega) (by omega) (bel_alloc (Below.refl _ _) _) (fun sv hs => SlK.new2 HF.out.ki (by omega) hpz hs))
      have e4 : a'.tmps[25]?.getD undef = .int .u8 (h.ki : Int) := by rw [← q4]; simp
      simpa [go_sem, Act.eval, e4] using hK'
    | 6, ho, hL, hpre =>
      cases ho
      obtain ⟨sv, c, hc5, hw, l1, l2, l3, l4, l5, hV⟩ := hI.mem
      have u1 : 0 < c := l1.1 (hpre ⟨2, .chain⟩ (by simp) rfl)
      have u2 : ¬ 1 < c := fun e => hL (l2.2 e)
      obtain rfl : c = 1 := by omega
      have q1 : a'.tmps.getD 23 undef = .pointer (some ⟨pw, 0, none⟩) := hV 2 (by omega) (hpre ⟨2, .data⟩ (by simp) rfl)
      obtain ⟨b, q2, hrow, f1, f2, f3⟩ : SlK .u8 256 pw w' sv (a'.tmps.getD 26 undef) [h.ki, 0] := hV 5 (by omega) (hpre ⟨5, .data⟩ (by simp) rfl)
      have hz := wr_lt hw
      refine wpOp_step rfl fun K hK => ?_
      have hcc := wU8_any pw pw sv _ w' hw (Nat.le_of_lt hz) (some ⟨b, 0, none⟩) 2 2 [h.ki, 0] hrow (fun e => by cases e) (by have := sealX_len h 1; omega)
      simp only [List.length_cons, List.length_nil, Nat.zero_add, Nat.reduceAdd] at q2
      simp [go_sem, Act.eval, q1, q2]
      refine hcc.mono ?_
      rintro e w2 ⟨rfl, sv2, hw2, hm2⟩
      exact hK _ _ (hI.call 6 (c := 1) (by omega) hw hm2 hw2 (by omega) rfl ⟨l1, l2, l3, l4, l5⟩ hV rfl)
    | 7, ho, hL, hpre =>
      clear hL
      cases ho
      have q3 : a'.tmps.getD 3 undef = .pointer (some ⟨w.heap.size, 0, none⟩) := hI.old 3 (by omega)
      refine wpOp_step rfl fun K hK => ?_
      have hK' := hK _ _ (hI.plain 7 (v := .pointer (some ⟨w.heap.size, 1, none⟩)) (by omega) (by omega) (Below.refl _ _) (fun sv _ => rfl))
      simpa [go_sem, Act.eval, q3] using hK'
    | 8, ho, hL, hpre =>
      clear hL
      cases ho
      have q7 : a'.tmps.getD 28 undef = .pointer (some ⟨w.heap.size, 1, none⟩) := by obtain ⟨sv, hq⟩ := hI.get 7 (by omega) (hpre ⟨7, .data⟩ (by simp) rfl); exact hq
      have hc : w'.cell? ⟨w.heap.size, 1, none⟩ = some (.int .u32 (h.ep : Int)) := (HH.out w' hI.bel).2.1
      refine wpOp_step rfl fun K hK => ?_
      have hK' := hK _ _ (hI.plain 8 (v := .int .u32 (h.ep : Int)) (by omega) (by omega) (Below.refl _ _) (fun sv _ => rfl))
      simpa [go_sem, Act.eval, q7, hc] using hK'
    | 9, ho, hL, hpre =>
      clear hL
      cases ho
      have q3 : a'.tmps.getD 3 undef = .pointer (some ⟨w.heap.size, 0, none⟩) := hI.old 3 (by omega)
      refine wpOp_step rfl fun K hK => ?_
      have hK' := hK _ _ (hI.plain 9 (v := .pointer (some ⟨w.heap.size, 2, none⟩)) (by omega) (by omega) (Below.refl _ _) (fun sv _ => rfl))
      simpa [go_sem, Act.eval, q3] using hK'
    | 10, ho, hL, hpre =>
      clear hL
      cases ho
      have q9 : a'.tmps.getD 30 undef = .pointer (some ⟨w.heap.size, 2, none⟩) := by obtain ⟨sv, hq⟩ := hI.get 9 (by omega) (hpre ⟨9, .data⟩ (by simp) rfl); exact hq
      have hc : w'.cell? ⟨w.heap.size, 2, none⟩ = some (.int .u32 (h.ba : Int)) := (HH.out w' hI.bel).2.2.1
      refine wpOp_step rfl fun K hK => ?_
      have hK' := hK _ _ (hI.plain 10 (v := .int .u32 (h.ba : Int)) (by omega) (by omega) (Below.refl _ _) (fun sv _ => rfl))
      simpa [go_sem, Act.eval, q9, hc] using hK'
    | 11, ho, hL, hpre =>
      clear hL
      cases ho
      have q8 : a'.tmps.getD 29 undef = .int .u32 (h.ep : Int) := by obtain ⟨sv, hq⟩ := hI.get 8 (by omega) (hpre ⟨8, .data⟩ (by simp) rfl); exact hq
      have q10 : a'.tmps.getD 31 undef = .int .u32 (h.ba : Int) := by obtain ⟨sv, hq⟩ := hI.get 10 (by omega) (hpre ⟨10, .data⟩ (by simp) rfl); exact hq
      have hpz : pw < w'.heap.size := by obtain ⟨_, _, _, hw, _⟩ := hI.mem; exact wr_lt hw
      refine wpOp_step rfl fun K hK => ?_
      have hK' := hK _ _ (hI.plain 11 (w' := w'.alloc (.cells #[.int .u32 (h.ep : Int), .int .u32 (h.ba : Int)] 22)) (v := .slice (some ⟨w'.heap.size, 0, none⟩) 2 2) (by omega) (by omega) (bel_alloc (Below.refl _ _) _) (fun sv hs => SlK.new2 HF.out.ep HF.out.ba hpz hs))
      have e8 : a'.tmps[29]?.getD undef = .int .u32 (h.ep : Int) := by rw [← q8]; simp
      have e10 : a'.tmps[31]?.getD undef = .int .u32 (h.ba : Int) := by rw [← q10]; simp
      simpa [go_sem, Act.eval, e8, e10] using hK'
    | 12, ho, hL, hpre =>
      cases ho
      obtain ⟨sv, c, hc5, hw, l1, l2, l3, l4, l5, hV⟩ := hI.mem
      have u1 : 1 < c := l2.1 (hpre ⟨6, .chain⟩ (by simp) rfl)
      have u2 : ¬ 2 < c := fun e => hL (l3.2 e)
      obtain rfl : c = 2 := by omega
      have q1 : a'.tmps.getD 27 undef = .pointer (some ⟨pw, 0, none⟩) := hV 6 (by omega) (hpre ⟨6, .data⟩ (by simp) rfl)
      obtain ⟨b, q2, hrow, f1, f2, f3⟩ : SlK .u32 4294967296 pw w' sv (a'.tmps.getD 32 undef) [h.ep, h.ba] := hV 11 (by omega) (hpre ⟨11, .data⟩ (by simp) rfl)
      have hz := wr_lt hw
      refine wpOp_step rfl fun K hK => ?_
      have hcc := wU32_any pw pw sv _ w' hw (Nat.le_of_lt hz) (some ⟨b, 0, none⟩) 2 2 [h.ep, h.ba] hrow (fun _ x hx => by cases hx; exact ⟨f1, f2⟩) (by simp) (by have := sealX_len h 2; omega)
      simp only [List.length_cons, List.length_nil, Nat.zero_add, Nat.reduceAdd] at q2
      simp [go_sem, Act.eval, q1, q2]
      refine hcc.mono ?_
      rintro e w2 ⟨rfl, sv2, hw2, hm2⟩
      exact hK _ _ (hI.call 12 (c := 2) (by omega) hw hm2 hw2 (by omega) rfl ⟨l1, l2, l3, l4, l5⟩ hV rfl)
    | 13, ho, hL, hpre =>
      clear hL
      cases ho
      have q3 : a'.tmps.getD 3 undef = .pointer (some ⟨w.heap.size, 0, none⟩) := hI.old 3 (by omega)
      refine wpOp_step rfl fun K hK => ?_
      have hK' := hK _ _ (hI.plain 13 (v := .pointer (some ⟨w.heap.size, 3, none⟩)) (by omega) (by omega) (Below.refl _ _) (fun sv _ => rfl))
      simpa [go_sem, Act.eval, q3] using hK'
    | 14, ho, hL, hpre =>
      clear hL
      cases ho
      have q13 : a'.tmps.getD 34 undef = .pointer (some ⟨w.heap.size, 3, none⟩) := by obtain ⟨sv, hq⟩ := hI.get 13 (by omega) (hpre ⟨13, .data⟩ (by simp) rfl); exact hq
      have hc : w'.cell? ⟨w.heap.size, 3, none⟩ = some (.int .u16 (h.ix : Int)) := (HH.out w' hI.bel).2.2.2.1
      refine wpOp_step rfl fun K hK => ?_
      have hK' := hK _ _ (hI.plain 14 (v := .int .u16 (h.ix : Int)) (by omega) (by omega) (Below.refl _ _) (fun sv _ => rfl))
      simpa [go_sem, Act.eval, q13, hc] using hK'
    | 15, ho, hL, hpre =>
      clear hL
      cases ho
      have q3 : a'.tmps.getD 3 undef = .pointer (some ⟨w.heap.size, 0, none⟩) := hI.old 3 (by omega)
      refine wpOp_step rfl fun K hK => ?_
      have hK' := hK _ _ (hI.plain 15 (v := .pointer (some ⟨w.heap.size, 4, none⟩)) (by omega) (by omega) (Below.refl _ _) (fun sv _ => rfl))
      simpa [go_sem, Act.eval, q3] using hK'
    | 16, ho, hL, hpre =>
      clear hL
      cases ho
      have q15 : a'.tmps.getD 36 undef = .pointer (some ⟨w.heap.size, 4, none⟩) := by obtain ⟨sv, hq⟩ := hI.get 15 (by omega) (hpre ⟨15, .data⟩ (by simp) rfl); exact hq
      have hc : w'.cell? ⟨w.heap.size, 4, none⟩ = some (.int .u16 (h.ct : Int)) := (HH.out w' hI.bel).2.2.2.2.1
      refine wpOp_step rfl fun K hK => ?_
      have hK' := hK _ _ (hI.plain 16 (v := .int .u16 (h.ct : Int)) (by omega) (by omega) (Below.refl _ _) (fun sv _ => rfl))
      simpa [go_sem, Act.eval, q15, hc] using hK'
    | 17, ho, hL, hpre =>
      clear hL
      cases ho
      have q14 : a'.tmps.getD 35 undef = .int .u16 (h.ix : Int) := by obtain ⟨sv, hq⟩ := hI.get 14 (by omega) (hpre ⟨14, .data⟩ (by simp) rfl); exact hq
      have q16 : a'.tmps.getD 37 undef = .int .u16 (h.ct : Int) := by obtain ⟨sv, hq⟩ := hI.get 16 (by omega) (hpre ⟨16, .data⟩ (by simp) rfl); exact hq
      have hpz : pw < w'.heap.size := by obtain ⟨_, _, _, hw, _⟩ := hI.mem; exact wr_lt hw
      refine wpOp_step rfl fun K hK => ?_
      have hK' := hK _ _ (hI.plain 17 (w' := w'.alloc (.cells #[.int .u16 (h.ix : Int), .int .u16 (h.ct : Int)] 91)) (v := .slice (some ⟨w'.heap.size, 0, none⟩) 2 2) (by omega) (by omega) (bel_alloc (Below.refl _ _) _) (fun sv hs => SlK.new2 HF.out.ix HF.out.ct hpz hs))
      have e14 : a'.tmps[35]?.getD undef = .int .u16 (h.ix : Int) := by rw [← q14]; simp
      have e16 : a'.tmps[37]?.getD undef = .int .u16 (h.ct : Int) := by rw [← q16]; simp
      simpa [go_sem, Act.eval, e14, e16] using hK'
    | 18, ho, hL, hpre =>
      cases ho
      obtain ⟨sv, c, hc5, hw, l1, l2, l3, l4, l5, hV⟩ := hI.mem
      have u1 : 2 < c := l3.1 (hpre ⟨12, .chain⟩ (by simp) rfl)
      have u2 : ¬ 3 < c := fun e => hL (l4.2 e)
      obtain rfl : c = 3 := by omega
      have q1 : a'.tmps.getD 33 undef = .pointer (some ⟨pw, 0, none⟩) := hV 12 (by omega) (hpre ⟨12, .data⟩ (by simp) rfl)
      obtain ⟨b, q2, hrow, f1, f2, f3⟩ : SlK .u16 65536 pw w' sv (a'.tmps.getD 38 undef) [h.ix, h.ct] := hV 17 (by omega) (hpre ⟨17, .data⟩ (by simp) rfl)
      have hz := wr_lt hw
      refine wpOp_step rfl fun K hK => ?_
      have hcc := wU16_any pw pw sv _ w' hw (Nat.le_of_lt hz) (some ⟨b, 0, none⟩) 2 2 [h.ix, h.ct] hrow (fun _ x hx => by cases hx; exact ⟨f1, f2⟩) (by simp) (by have := sealX_len h 3; omega)
      simp only [List.length_cons, List.length_nil, Nat.zero_add, Nat.reduceAdd] at q2
      simp [go_sem, Act.eval, q1, q2]
      refine hcc.mono ?_
      rintro e w2 ⟨rfl, sv2, hw2, hm2⟩
      exact hK _ _ (hI.call 18 (c := 3) (by omega) hw hm2 hw2 (by omega) rfl ⟨l1, l2, l3, l4, l5⟩ hV rfl)
    | 19, ho, hL, hpre =>
      clear hL
      cases ho
      have q3 : a'.tmps.getD 3 undef = .pointer (some ⟨w.heap.size, 0, none⟩) := hI.old 3 (by omega)
      refine wpOp_step rfl fun K hK => ?_
      have hK' := hK _ _ (hI.plain 19 (v := .pointer (some ⟨w.heap.size, 5, none⟩)) (by omega) (by omega) (Below.refl _ _) (fun sv _ => rfl))
      simpa [go_sem, Act.eval, q3] using hK'
    | 20, ho, hL, hpre =>
      clear hL
      cases ho
      have q19 : a'.tmps.getD 40 undef = .pointer (some ⟨w.heap.size, 5, none⟩) := by obtain ⟨sv, hq⟩ := hI.get 19 (by omega) (hpre ⟨19, .data⟩ (by simp) rfl); exact hq
      have hc : w'.cell? ⟨w.heap.size, 5, none⟩ = some (.int .u32 (h.bl : Int)) := (HH.out w' hI.bel).2.2.2.2.2.1
      refine wpOp_step rfl fun K hK => ?_
      have hK' := hK _ _ (hI.plain 20 (v := .int .u32 (h.bl : Int)) (by omega) (by omega) (Below.refl _ _) (fun sv _ => rfl))
      simpa [go_sem, Act.eval, q19, hc] using hK'
    | 21, ho, hL, hpre =>
      clear hL
      cases ho
      have q3 : a'.tmps.getD 3 undef = .pointer (some ⟨w.heap.size, 0, none⟩) := hI.old 3 (by omega)
      refine wpOp_step rfl fun K hK => ?_
      have hK' := hK _ _ (hI.plain 21 (v := .pointer (some ⟨w.heap.size, 6, none⟩)) (by omega) (by omega) (Below.refl _ _) (fun sv _ => rfl))
      simpa [go_sem, Act.eval, q3] using hK'
    | 22, ho, hL, hpre =>
      clear hL
      cases ho
      have q21 : a'.tmps.getD 42 undef = .pointer (some ⟨w.heap.size, 6, none⟩) := by obtain ⟨sv, hq⟩ := hI.get 21 (by omega) (hpre ⟨21, .data⟩ (by simp) rfl); exact hq
      have hc : w'.cell? ⟨w.heap.size, 6, none⟩ = some (.int .u32 (h.mo : Int)) := (HH.out w' hI.bel).2.2.2.2.2.2
      refine wpOp_step rfl fun K hK => ?_
      have hK' := hK _ _ (hI.plain 22 (v := .int .u32 (h.mo : Int)) (by omega) (by omega) (Below.refl _ _) (fun sv _ => rfl))
      simpa [go_sem, Act.eval, q21, hc] using hK'
    | 23, ho, hL, hpre =>
      clear hL
      cases ho
      have q20 : a'.tmps.getD 41 undef = .int .u32 (h.bl : Int) := by obtain ⟨sv, hq⟩ := hI.get 20 (by omega) (hpre ⟨20, .data⟩ (by simp) rfl); exact hq
      have q22 : a'.tmps.getD 43 undef = .int .u32 (h.mo : Int) := by obtain ⟨sv, hq⟩ := hI.get 22 (by omega) (hpre ⟨22, .data⟩ (by simp) rfl); exact hq
      have hpz : pw < w'.heap.size := by obtain ⟨_, _, _, hw, _⟩ := hI.mem; exact wr_lt hw
      refine wpOp_step rfl fun K hK => ?_
      have hK' := hK _ _ (hI.plain 23 (w' := w'.alloc (.cells #[.int .u32 (h.bl : Int), .int .u32 (h.mo : Int)] 22)) (v := .slice (some ⟨w'.heap.size, 0, none⟩) 2 2) (by omega) (by omega) (bel_alloc (Below.refl _ _) _) (fun sv hs => SlK.new2 HF.out.bl HF.out.mo hpz hs))
      have e20 : a'.tmps[41]?.getD undef = .int .u32 (h.bl : Int) := by rw [← q20]; simp
      have e22 : a'.tmps[43]?.getD undef = .int .u32 (h.mo : Int) := by rw [← q22]; simp
      simpa [go_sem, Act.eval, e20, e22] using hK'
    | 24, ho, hL, hpre =>
      cases ho
      obtain ⟨sv, c, hc5, hw, l1, l2, l3, l4, l5, hV⟩ := hI.mem
      have u1 : 3 < c := l4.1 (hpre ⟨18, .chain⟩ (by simp) rfl)
      have u2 : ¬ 4 < c := fun e => hL (l5.2 e)
      obtain rfl : c = 4 := by omega
      have q1 : a'.tmps.getD 39 undef = .pointer (some ⟨pw, 0, none⟩) := hV 18 (by omega) (hpre ⟨18, .data⟩ (by simp) rfl)
      obtain ⟨b, q2, hrow, f1, f2, f3⟩ : SlK .u32 4294967296 pw w' sv (a'.tmps.getD 44 undef) [h.bl, h.mo] := hV 23 (by omega) (hpre ⟨23, .data⟩ (by simp) rfl)
      have hz := wr_lt hw
      refine wpOp_step rfl fun K hK => ?_
      have hcc := wU32_any pw pw sv _ w' hw (Nat.le_of_lt hz) (some ⟨b, 0, none⟩) 2 2 [h.bl, h.mo] hrow (fun _ x hx => by cases hx; exact ⟨f1, f2⟩) (by simp) (by have := sealX_len h 4; omega)
      simp only [List.length_cons, List.length_nil, Nat.zero_add, Nat.reduceAdd] at q2
      simp [go_sem, Act.eval, q1, q2]
      refine hcc.mono ?_
      rintro e w2 ⟨rfl, sv2, hw2, hm2⟩
      exact hK _ _ (hI.call 24 (c := 4) (by omega) hw hm2 hw2 (by omega) rfl ⟨l1, l2, l3, l4, l5⟩ hV rfl)
    | i + 25, ho, _, _ => simp at ho
  case done =>
    intro L a' w' hI hL
    obtain ⟨sv, c, hc5, hw, l1, l2, l3, l4, l5, hV⟩ := hI.mem
    obtain rfl : c = 5 := by have := l5.1 (hL 24 (by decide)); omega
    have f1 : a'.tmps.getD 1 undef = .slice a len cap := hI.old 1 (by omega)
    have f7 : a'.tmps.getD 7 undef = .slice a4 32 c4 := hI.old 7 (by omega)
    have f8 : a'.tmps.getD 8 undef = .pointer (some ⟨pw, 0, none⟩) := hI.old 8 (by omega)
    obtain ⟨f, hfr, hfk⟩ := frame58 a' hI.sz hI.df
    rw [hfk] at f1 f7 f8
    have hbel := hI.bel
    have hw : WR pw w' pw sv (headB h) := hw
    clear hV l1 l2 l3 l4 l5 hI hL hw5 HH hs5 ho5
    rw [hfr]
    rw [f1, f7, f8]
    clear hfr hfk f1 f7 f8
    obtain ⟨hrt, hrd, hbw⟩ := HROW.out w' hbel
    have hz := wr_lt hw
    go_wp2_with fail
    refine (wBytes_any _ _ _ _ w' hw (by rw [headB_len]; omega)).mono ?_
    intro e w6 h6
    obtain ⟨a6, c6, rfl, hr6, hn6, ho6, hb6⟩ := retOwn_len h6
    rw [headB_len] at hr6 ⊢
    have hb6' : Below pw W5.drew w6 := hbel.trans (hb6.mono (Nat.le_of_lt hz))
    obtain ⟨hrt6, hrd6, hbw6⟩ := HROW.out w6 hb6'
    have hw6 := wr_keep hw hb6
    have hb7 : ∀ o, Below pw W5.drew (w6.alloc o) := fun o => hb6'.alloc (Nat.le_trans (Nat.le_of_lt hz) hb6.size) o
    have hr67 := fun o => row_alloc hr6 o
    have hw67 := fun o => wr_keep hw6 (bel_alloc (Below.refl _ w6) o)
    have hz6 := wr_lt hw6
    clear h6 hr6 hn6 ho6 hbel hrt hrd hbw hw hb6 hrt6 hrd6 hbw6 hb6'
    go_wp2_with fail
    obtain ⟨W7, hW7⟩ : ∃ W7, W7 = w6.alloc (.cells #[.slice a6 24 c6, .slice a len cap, .slice a4 32 c4] 28) := ⟨_, rfl⟩
    obtain ⟨c0, c1, c2⟩ := cell_three w6 (.slice a6 24 c6) (.slice a len cap) (.slice a4 32 c4) 28
    have hb7 := hb7 (.cells #[.slice a6 24 c6, .slice a len cap, .slice a4 32 c4] 28)
    have hr67 := hr67 (.cells #[.slice a6 24 c6, .slice a len cap, .slice a4 32 c4] 28)
    have hw67 := hw67 (.cells #[.slice a6 24 c6, .slice a len cap, .slice a4 32 c4] 28)
    have hz7 : W7.heap.size = w6.heap.size + 1 := by rw [hW7]; simp
    rw [← hW7] at c0 c1 c2 hb7 hr67 hw67 ⊢
    obtain ⟨hrt7, hrd7, hbw7⟩ := HROW.out W7 hb7
    clear hW7
    refine (of_three w6.heap.size 3 a6 a a4 24 len 32 c6 cap c4 (headB h) ds (tailB be) W7 c0 c1 c2 hr67 hrd7 hrt7 (by unfold maxLen; omega) (by unfold maxLen; omega) (by unfold maxLen; omega)).mono ?_
    rintro e w8 ⟨rfl, rfl⟩
    obtain ⟨S, hS⟩ : ∃ S, sumB h ds be = S := ⟨_, rfl⟩
    have hS' : Crc.of (headB h ++ ds ++ tailB be) = S := hS
    have hSlt : S < 4294967296 := by rw [← hS]; exact Crc.of_lt _
    rw [hS']
    have HS := Lib.hid hS
    have hp7 : pw < W7.heap.size := by omega
    clear hS hS' c0 c1 c2 hr67 hrd7 hrt7 hz7
    have hb8 : Below pw W5.drew (W7.alloc (.cells #[.int .u32 (S : Int), .int .u32 ((0 : Nat) : Int)] 22)) := hb7.alloc (by omega) _
    have hw8 := wr_keep hw67 (bel_alloc (Below.refl _ W7) (.cells #[.int .u32 (S : Int), .int .u32 ((0 : Nat) : Int)] 22))
    have hr8 : RowK .u32 4294967296 (W7.alloc (.cells #[.int .u32 (S : Int), .int .u32 ((0 : Nat) : Int)] 22)) (some ⟨W7.heap.size, 0, none⟩) 2 [S, 0] := row_new2 W7 hSlt (by omega)
    have hfar : ∀ x : Addr, some (⟨W7.heap.size, 0, none⟩ : Addr) = some x → x.block ≠ pw ∧ some x.block ≠ sv.ownBlock := fun x hx => by
      cases hx
      refine ⟨by show W7.heap.size ≠ pw; omega, fun e => ?_⟩
      have h9 : W7.heap.size < W7.heap.size := (own_base hw67.2.2.1 _ e.symm).2
      omega
    have hs8 : pw ≤ (W7.alloc (.cells #[.int .u32 (S : Int), .int .u32 ((0 : Nat) : Int)] 22)).heap.size := by simp; omega
    clear hw67
    go_wp2_with fail
    refine (wU32_any pw pw sv _ _ hw8 hs8 _ 2 2 [S, 0] hr8 (fun _ => hfar) (by omega) (by rw [headB_len]; omega)).mono ?_
    rintro e w9 ⟨rfl, sv9, hw9, hm9⟩
    have hb9 := hb8.trans (hm9.below hw8 hs8)
    obtain ⟨hrt9, _, hbw9⟩ := HROW.out w9 hb9
    have hz9 := wr_lt hw9
    clear hm9 hw8 hr8 hfar hb8 hs8
    go_wp2_with fail
    refine (raw_any pw pw sv9 _ w9 hw9 (Nat.le_of_lt hz9) a4 32 c4 (tailB be) hrt9 HN4.out (by simp [headB_len, Crc.les_len])).mono ?_
    rintro e w10 ⟨rfl, sv10, hw10, hm10⟩
    have hb10 := hb9.trans (hm10.below hw9 (Nat.le_of_lt hz9))
    obtain ⟨_, _, hbw10⟩ := HROW.out w10 hb10
    have hF : (headB h ++ [S, 0].flatMap (Crc.les 4)) ++ tailB be = sealB h ds be := by unfold sealB; rw [HS.out]
    rw [hF] at hw10
    clear hF hm10 hw9 hrt9
    go_wp2_with fail
    refine (wBytes_any _ _ _ _ w10 hw10 (by rw [sealB_len]; omega)).mono ?_
    rintro e w11 ⟨sv11, rfl, ho11, hb11⟩
    have ho12 := own_mono ho11 hbw10.size
    have hb12 := bel_trans hbw10 hb11
    obtain ⟨a12, c12, rfl, _⟩ := row_of_own ho11
    clear ho11 hb11
    go_wp2
    go_ret
    exact ⟨_, rfl, ho12, hb12⟩

end Go.Proofs.YthgcjiocelcblaaGreat

namespace Go.Proofs.YthgcjiocelcblaaGreat
open Go.RowKit

set_option maxRecDepth 100000 in
set_option maxHeartbeats 1600000 in
theorem seal_nil (h : RH) (hf : h.Fits) (a : Option Addr) (len cap : Nat) (ds : List Nat) (w : World)
    (hr : Row w a len ds) (hl : len ≤ 100000) :
    Calls Tryz.prog 70 #[.agg h.cells, .slice a len cap, .slice none 0 0] w (RetOwn w (sealB h ds [])) := by
  unfold RH.cells
  have HF := Lib.hid hf
  clear hf
  go_enter Tryz.func70, Tryz.ntmps70
  go_wp2_with fail
  obtain ⟨W1, hW1⟩ : ∃ W1, W1 = (w.alloc (.cells #[.int .u8 (h.ki : Int), .int .u32 (h.ep : Int), .int .u32 (h.ba : Int), .int .u16 (h.ix : Int), .int .u16 (h.ct : Int), .int .u32 (h.bl : Int), .int .u32 (h.mo : Int)] 93)).alloc (.cells #[.slice none 0 0] 72) := ⟨_, rfl⟩
  rw [← hW1]
  obtain ⟨hb1, hw1, hh1, hz1⟩ := seal_start hW1
  have hr21 : Row W1 none 0 [] := ⟨rfl, (fun x hx => by cases hx), fun h => by omega⟩
  clear hW1
  refine (raw_any _ _ _ _ W1 hw1 (by omega) _ 0 0 [] hr21 (fun _ => rfl) (by simp)).mono ?_
  rintro e w2 ⟨rfl, sv2, hw2, hm2⟩
  have hb2 : Below (w.heap.size + 1) W1 w2 := hm2.below hw1 (by omega)
  have hz2 := hm2.size
  go_wp2_with fail
  refine (wPad_any _ _ _ _ w2 hw2 (by omega) 32 (by omega) (by omega) (by simp)).mono ?_
  rintro e w3 ⟨rfl, sv3, hw3, hm3⟩
  have hb3 : Below (w.heap.size + 1) w2 w3 := hm3.below hw2 (by omega)
  have hz3 := hm3.size
  have e3 : padTo ([] ++ []) 32 = tailB [] := rfl
  rw [e3] at hw3
  clear e3 hw2 hm2 hm3 hw1
  go_wp2_with fail
  refine (wBytes_any _ _ _ _ w3 hw3 (by rw [tailB_len]; omega)).mono ?_
  intro e w4 h4
  obtain ⟨a4, c4, rfl, hr4, hn4, ho4, hb4⟩ := retOwn_len h4
  rw [tailB_len] at hr4 ⊢
  have hz4 := hb4.size
  have hbw : Below w.heap.size w w4 := ((hb1.trans (hb2.mono (by omega))).trans (hb3.mono (by omega))).trans (hb4.mono (by omega))
  have hh4 : HdrAt h w.heap.size w4 := ((hh1.below hb2 (by omega)).below hb3 (by omega)).below hb4 (by omega)
  have hlt4 : ∀ x, a4 = some x → x.block < w4.heap.size := fun x hx => (own_base ho4 x.block (by rw [hx]; rfl)).2
  have hw5 := wr_new0 w4
  have hs5 : (w4.alloc (.cells #[.slice none 0 0] 72)).heap.size = w4.heap.size + 1 := by simp
  have hb5 : Below w4.heap.size w4 (w4.alloc (.cells #[.slice none 0 0] 72)) := bel_alloc (Below.refl _ _) _
  have hr5 := row_keep hr4 hb5 (Nat.le_refl _)
  have hh5 := hh4.below hb5 (by omega)
  have hbw5 := hbw.trans (hb5.mono (by omega))
  have ho5 := own_up ho4 hb5
  rw [tailB_len] at ho5
  clear h4 ho4 hw3 hb1 hb2 hb3 hb4 hh1 hh4 hr4 hr21
  go_wp2_with fail
  obtain ⟨W5, hW5⟩ : ∃ W5, W5 = w4.alloc (.cells #[.slice none 0 0] 72) := ⟨_, rfl⟩
  obtain ⟨pw, hpw⟩ : ∃ pw, pw = w4.heap.size := ⟨_, rfl⟩
  rw [← hW5, ← hpw] at hw5
  rw [← hW5] at hr5 hh5 hbw5 ho5 hs5
  rw [← hpw] at hs5 hlt4
  have hwp : w.heap.size < pw := by omega
  rw [← hpw, ← hW5]
  have hb45 : Below pw W5 W5.drew := (Below.refl _ _).drew
  have HH : Hid (∀ w' : World, Below pw W5.drew w' → HdrAt h w.heap.size w') := Lib.hid fun w' hb => hh5.below (hb45.trans hb) hwp
  have HROW : Hid (∀ w' : World, Below pw W5.drew w' → Row w' a4 32 (tailB []) ∧ Row w' a len ds ∧ Below w.heap.size w w') := Lib.hid fun w' hb => by
    have hbx := hb45.trans hb
    refine ⟨row_below hr5 hbx (fun x hx => hlt4 x hx), row_keep hr (hbw5.trans (hbx.mono (by omega))) (Nat.le_refl _), hbw5.trans (hbx.mono (by omega))⟩
  have HN4 := Lib.hid hn4
  clear hb5 hr5 hh5 hW5 hpw hn4 hbw hz4 hz3 hz2 hz1 hlt4 hbw5 hr
  refine wp_region_inv0 (fun a0 => SealI h pw w.heap.size a0 W5.drew) (by kernel_rfl) (by kernel_rfl) ?start ?step ?done
  case start =>
    refine ⟨rfl, rfl, fun _ _ => rfl, Below.refl _ _, _, 0, by omega, wr_keep hw5 ((Below.refl _ W5).drew), ?_⟩
    simp
  case step =>
    intro L a' w' i o hI ho hL hpre
    match i, ho, hL, hpre with
    | 0, ho, hL, hpre =>
      clear hL
      cases ho
      have q8 : a'.tmps.getD 8 undef = .pointer (some ⟨pw, 0, none⟩) := hI.old 8 (by omega)
      refine wpOp_step rfl fun K hK => ?_
      have hK' := hK _ _ (hI.plain 0 (by omega) (by omega) (Below.refl _ _) (fun sv _ => rfl))
      simpa [go_sem, Act.eval, q8] using hK'
    | 1, ho, hL, hpre =>
      clear hL
      cases ho
      have hpz : pw < w'.heap.size := by obtain ⟨_, _, _, hw, _⟩ := hI.mem; exact wr_lt hw
      refine wpOp_step rfl fun K hK => ?_
      have hK' := hK _ _ (hI.plain 1 (w' := w'.alloc (.cells #[.int .u16 ((22356 : Nat) : Int)] 91)) (v := .slice (some ⟨w'.heap.size, 0, none⟩) 1 1) (by omega) (by omega) (bel_alloc (Below.refl _ _) _) (fun sv hs => SlK.new1 (by omega) hpz hs))
      simpa [go_sem, Act.eval] using hK'
    | 2, ho, hL, hpre =>
      cases ho
      obtain ⟨sv, c, hc5, hw, l1, l2, l3, l4, l5, hV⟩ := hI.mem
      have u2 : ¬ 0 < c := fun e => hL (l1.2 e)
      obtain rfl : c = 0 := by omega
      have q1 : a'.tmps.getD 21 undef = .pointer (some ⟨pw, 0, none⟩) := hV 0 (by omega) (hpre ⟨0, .data⟩ (by simp) rfl)
      obtain ⟨b, q2, hrow, f1, f2, f3⟩ : SlK .u16 65536 pw w' sv (a'.tmps.getD 22 undef) [22356] := hV 1 (by omega) (hpre ⟨1, .data⟩ (by simp) rfl)
      have hz := wr_lt hw
      refine wpOp_step rfl fun K hK => ?_
      have hcc := wU16_any pw pw sv _ w' hw (Nat.le_of_lt hz) (some ⟨b, 0, none⟩) 1 1 [22356] hrow (fun _ x hx => by cases hx; exact ⟨f1, f2⟩) (by simp) (by have := sealX_len h 0; omega)
      simp only [List.length_cons, List.length_nil, Nat.zero_add] at q2
      simp [go_sem, Act.eval, q1, q2]
      refine hcc.mono ?_
      rintro e w2 ⟨rfl, sv2, hw2, hm2⟩
      exact hK _ _ (hI.call 2 (c := 0) (by omega) hw hm2 hw2 (by omega) rfl ⟨l1, l2, l3, l4, l5⟩ hV rfl)
    | 3, ho, hL, hpre =>
      clear hL
      cases ho
      have q3 : a'.tmps.getD 3 undef = .pointer (some ⟨w.heap.size, 0, none⟩) := hI.old 3 (by omega)
      refine wpOp_step rfl fun K hK => ?_
      have hK' := hK _ _ (hI.plain 3 (v := .pointer (some ⟨w.heap.size, 0, none⟩)) (by omega) (by omega) (Below.refl _ _) (fun sv _ => rfl))
      simpa [go_sem, Act.eval, q3] using hK'
    | 4, ho, hL, hpre =>
      clear hL
      cases ho
      have q3 : a'.tmps.getD 24 undef = .pointer (some ⟨w.heap.size, 0, none⟩) := by obtain ⟨sv, hq⟩ := hI.get 3 (by omega) (hpre ⟨3, .data⟩ (by simp) rfl); exact hq
      have hc : w'.cell? ⟨w.heap.size, 0, none⟩ = some (.int .u8 (h.ki : Int)) := (HH.out w' hI.bel).1
      refine wpOp_step rfl fun K hK => ?_
      have hK' := hK _ _ (hI.plain 4 (v := .int .u8 (h.ki : Int)) (by omega) (by omega) (Below.refl _ _) (fun sv _ => rfl))
      simpa [go_sem, Act.eval, q3, hc] using hK'
    | 5, ho, hL, hpre =>
      clear hL
      cases ho
      have q4 : a'.tmps.getD 25 undef = .int .u8 (h.ki : Int) := by obtain ⟨sv, hq⟩ := hI.get 4 (by omega) (hpre ⟨4, .data⟩ (by simp) rfl); exact hq
      have hpz : pw < w'.heap.size := by obtain ⟨_, _, _, hw, _⟩ := hI.mem; exact wr_lt hw
      refine wpOp_step rfl fun K hK => ?_
      have hK' := hK _ _ (hI.plain 5 (w' := w'.alloc (.cells #[.int .u8 (h.ki : Int), .int .u8 ((0 : Nat) : Int)] 5)) (v := .slice (some ⟨w'.heap.size, 0, none⟩) 2 2) (by omega) (by omega) (bel_alloc (Below.refl _ _) _) (fun sv hs => SlK.new2 HF.out.ki (by omega) hpz hs))
      have e4 : a'.tmps[25]?.getD undef = .int .u8 (h.ki : Int) := by rw [← q4]; simp
      simpa [go_sem, Act.eval, e4] using hK'
    | 6, ho, hL, hpre =>
      cases ho
      obtain ⟨sv, c, hc5, hw, l1, l2, l3, l4, l5, hV⟩ := hI.mem
      have u1 : 0 < c := l1.1 (hpre ⟨2, .chain⟩ (by simp) rfl)
      have u2 : ¬ 1 < c := fun e => hL (l2.2 e)
      obtain rfl : c = 1 := by omega
      have q1 : a'.tmps.getD 23 undef = .pointer (some ⟨pw, 0, none⟩) := hV 2 (by omega) (hpre ⟨2, .data⟩ (by simp) rfl)
      obtain ⟨b, q2, hrow, f1, f2, f3⟩ : SlK .u8 256 pw w' sv (a'.tmps.getD 26 undef) [h.ki, 0] := hV 5 (by omega) (hpre ⟨5, .data⟩ (by simp) rfl)
      have hz := wr_lt hw
      refine wpOp_step rfl fun K hK => ?_
      have hcc := wU8_any pw pw sv _ w' hw (Nat.le_of_lt hz) (some ⟨b, 0, none⟩) 2 2 [h.ki, 0] hrow (fun e => by cases e) (by have := sealX_len h 1; omega)
      simp only [List.length_cons, List.length_nil, Nat.zero_add, Nat.reduceAdd] at q2
      simp [go_sem, Act.eval, q1, q2]
      refine hcc.mono ?_
      rintro e w2 ⟨rfl, sv2, hw2, hm2⟩
      exact hK _ _ (hI.call 6 (c := 1) (by omega) hw hm2 hw2 (by omega) rfl ⟨l1, l2, l3, l4, l5⟩ hV rfl)
    | 7, ho, hL, hpre =>
      clear hL
      cases ho
      have q3 : a'.tmps.getD 3 undef = .pointer (some ⟨w.heap.size, 0, none⟩) := hI.old 3 (by omega)
      refine wpOp_step rfl fun K hK => ?_
      have hK' := hK _ _ (hI.plain 7 (v := .pointer (some ⟨w.heap.size, 1, none⟩)) (by omega) (by omega) (Below.refl _ _) (fun sv _ => rfl))
      simpa [go_sem, Act.eval, q3] using hK'
    | 8, ho, hL, hpre =>
      clear hL
      cases ho
      have q7 : a'.tmps.getD 28 undef = .pointer (some ⟨w.heap.size, 1, none⟩) := by obtain ⟨sv, hq⟩ := hI.get 7 (by omega) (hpre ⟨7, .data⟩ (by simp) rfl); exact hq
      have hc : w'.cell? ⟨w.heap.size, 1, none⟩ = some (.int .u32 (h.ep : Int)) := (HH.out w' hI.bel).2.1
      refine wpOp_step rfl fun K hK => ?_
      have hK' := hK _ _ (hI.plain 8 (v := .int .u32 (h.ep : Int)) (by omega) (by omega) (Below.refl _ _) (fun sv _ => rfl))
      simpa [go_sem, Act.eval, q7, hc] using hK'
    | 9, ho, hL, hpre =>
      clear hL
      cases ho
      have q3 : a'.tmps.getD 3 undef = .pointer (some ⟨w.heap.size, 0, none⟩) := hI.old 3 (by omega)
      refine wpOp_step rfl fun K hK => ?_
      have hK' := hK _ _ (hI.plain 9 (v := .pointer (some ⟨w.heap.size, 2, none⟩)) (by omega) (by omega) (Below.refl _ _) (fun sv _ => rfl))
      simpa [go_sem, Act.eval, q3] using hK'
    | 10, ho, hL, hpre =>
      clear hL
      cases ho
      have q9 : a'.tmps.getD 30 undef = .pointer (some ⟨w.heap.size, 2, none⟩) := by obtain ⟨sv, hq⟩ := hI.get 9 (by omega) (hpre ⟨9, .data⟩ (by simp) rfl); exact hq
      have hc : w'.cell? ⟨w.heap.size, 2, none⟩ = some (.int .u32 (h.ba : Int)) := (HH.out w' hI.bel).2.2.1
      refine wpOp_step rfl fun K hK => ?_
      have hK' := hK _ _ (hI.plain 10 (v := .int .u32 (h.ba : Int)) (by omega) (by omega) (Below.refl _ _) (fun sv _ => rfl))
      simpa [go_sem, Act.eval, q9, hc] using hK'
    | 11, ho, hL, hpre =>
      clear hL
      cases ho
      have q8 : a'.tmps.getD 29 undef = .int .u32 (h.ep : Int) := by obtain ⟨sv, hq⟩ := hI.get 8 (by omega) (hpre ⟨8, .data⟩ (by simp) rfl); exact hq
      have q10 : a'.tmps.getD 31 undef = .int .u32 (h.ba : Int) := by obtain ⟨sv, hq⟩ := hI.get 10 (by omega) (hpre ⟨10, .data⟩ (by simp) rfl); exact hq
      have hpz : pw < w'.heap.size := by obtain ⟨_, _, _, hw, _⟩ := hI.mem; exact wr_lt hw
      refine wpOp_step rfl fun K hK => ?_
      have hK' := hK _ _ (hI.plain 11 (w' := w'.alloc (.cells #[.int .u32 (h.ep : Int), .int .u32 (h.ba : Int)] 22)) (v := .slice (some ⟨w'.heap.size, 0, none⟩) 2 2) (by omega) (by omega) (bel_alloc (Below.refl _ _) _) (fun sv hs => SlK.new2 HF.out.ep HF.out.ba hpz hs))
      have e8 : a'.tmps[29]?.getD undef = .int .u32 (h.ep : Int) := by rw [← q8]; simp
      have e10 : a'.tmps[31]?.getD undef = .int .u32 (h.ba : Int) := by rw [← q10]; simp
      simpa [go_sem, Act.eval, e8, e10] using hK'
    | 12, ho, hL, hpre =>
      cases ho
      obtain ⟨sv, c, hc5, hw, l1, l2, l3, l4, l5, hV⟩ := hI.mem
      have u1 : 1 < c := l2.1 (hpre ⟨6, .chain⟩ (by simp) rfl)
      have u2 : ¬ 2 < c := fun e => hL (l3.2 e)
      obtain rfl : c = 2 := by omega
      have q1 : a'.tmps.getD 27 undef = .pointer (some ⟨pw, 0, none⟩) := hV 6 (by omega) (hpre ⟨6, .data⟩ (by simp) rfl)
      obtain ⟨b, q2, hrow, f1, f2, f3⟩ : SlK .u32 4294967296 pw w' sv (a'.tmps.getD 32 undef) [h.ep, h.ba] := hV 11 (by omega) (hpre ⟨11, .data⟩ (by simp) rfl)
      have hz := wr_lt hw
      refine wpOp_step rfl fun K hK => ?_
      have hcc := wU32_any pw pw sv _ w' hw (Nat.le_of_lt hz) (some ⟨b, 0, none⟩) 2 2 [h.ep, h.ba] hrow (fun _ x hx => by cases hx; exact ⟨f1, f2⟩) (by simp) (by have := sealX_len h 2; omega)
      simp only [List.length_cons, List.length_nil, Nat.zero_add, Nat.reduceAdd] at q2
      simp [go_sem, Act.eval, q1, q2]
      refine hcc.mono ?_
      rintro e w2 ⟨rfl, sv2, hw2, hm2⟩
      exact hK _ _ (hI.call 12 (c := 2) (by omega) hw hm2 hw2 (by omega) rfl ⟨l1, l2, l3, l4, l5⟩ hV rfl)
    | 13, ho, hL, hpre =>
      clear hL
      cases ho
      have q3 : a'.tmps.getD 3 undef = .pointer (some ⟨w.heap.size, 0, none⟩) := hI.old 3 (by omega)
      refine wpOp_step rfl fun K hK => ?_
      have hK' := hK _ _ (hI.plain 13 (v := .pointer (some ⟨w.heap.size, 3, none⟩)) (by omega) (by omega) (Below.refl _ _) (fun sv _ => rfl))
      simpa [go_sem, Act.eval, q3] using hK'
    | 14, ho, hL, hpre =>
      clear hL
      cases ho
      have q13 : a'.tmps.getD 34 undef = .pointer (some ⟨w.heap.size, 3, none⟩) := by obtain ⟨sv, hq⟩ := hI.get 13 (by omega) (hpre ⟨13, .data⟩ (by simp) rfl); exact hq
      have hc : w'.cell? ⟨w.heap.size, 3, none⟩ = some (.int .u16 (h.ix : Int)) := (HH.out w' hI.bel).2.2.2.1
      refine wpOp_step rfl fun K hK => ?_
      have hK' := hK _ _ (hI.plain 14 (v := .int .u16 (h.ix : Int)) (by omega) (by omega) (Below.refl _ _) (fun sv _ => rfl))
      simpa [go_sem, Act.eval, q13, hc] using hK'
    | 15, ho, hL, hpre =>
      clear hL
      cases ho
      have q3 : a'.tmps.getD 3 undef = .pointer (some ⟨w.heap.size, 0, none⟩) := hI.old 3 (by omega)
      refine wpOp_step rfl fun K hK => ?_
      have hK' := hK _ _ (hI.plain 15 (v := .pointer (some ⟨w.heap.size, 4, none⟩)) (by omega) (by omega) (Below.refl _ _) (fun sv _ => rfl))
      simpa [go_sem, Act.eval, q3] using hK'
    | 16, ho, hL, hpre =>
      clear hL
      cases ho
      have q15 : a'.tmps.getD 36 undef = .pointer (some ⟨w.heap.size, 4, none⟩) := by obtain ⟨sv, hq⟩ := hI.get 15 (by omega) (hpre ⟨15, .data⟩ (by simp) rfl); exact hq
      have hc : w'.cell? ⟨w.heap.size, 4, none⟩ = some (.int .u16 (h.ct : Int)) := (HH.out w' hI.bel).2.2.2.2.1
      refine wpOp_step rfl fun K hK => ?_
      have hK' := hK _ _ (hI.plain 16 (v := .int .u16 (h.ct : Int)) (by omega) (by omega) (Below.refl _ _) (fun sv _ => rfl))
      simpa [go_sem, Act.eval, q15, hc] using hK'
    | 17, ho, hL, hpre =>
      clear hL
      cases ho
      have q14 : a'.tmps.getD 35 undef = .int .u16 (h.ix : Int) := by obtain ⟨sv, hq⟩ := hI.get 14 (by omega) (hpre ⟨14, .data⟩ (by simp) rfl); exact hq
      have q16 : a'.tmps.getD 37 undef = .int .u16 (h.ct : Int) := by obtain ⟨sv, hq⟩ := hI.get 16 (by omega) (hpre ⟨16, .data⟩ (by simp) rfl); exact hq
      have hpz : pw < w'.heap.size := by obtain ⟨_, _, _, hw, _⟩ := hI.mem; exact wr_lt hw
      refine wpOp_step rfl fun K hK => ?_
      have hK' := hK _ _ (hI.plain 17 (w' := w'.alloc (.cells #[.int .u16 (h.ix : Int), .int .u16 (h.ct : Int)] 91)) (v := .slice (some ⟨w'.heap.size, 0, none⟩) 2 2) (by omega) (by omega) (bel_alloc (Below.refl _ _) _) (fun sv hs => SlK.new2 HF.out.ix HF.out.ct hpz hs))
      have e14 : a'.tmps[35]?.getD undef = .int .u16 (h.ix : Int) := by rw [← q14]; simp
      have e16 : a'.tmps[37]?.getD undef = .int .u16 (h.ct : Int) := by rw [← q16]; simp
      simpa [go_sem, Act.eval, e14, e16] using hK'
    | 18, ho, hL, hpre =>
      cases ho
      obtain ⟨sv, c, hc5, hw, l1, l2, l3, l4, l5, hV⟩ := hI.mem
      have u1 : 2 < c := l3.1 (hpre ⟨12, .chain⟩ (by simp) rfl)
      have u2 : ¬ 3 < c := fun e => hL (l4.2 e)
      obtain rfl : c = 3 := by omega
      have q1 : a'.tmps.getD 33 undef = .pointer (some ⟨pw, 0, none⟩) := hV 12 (by omega) (hpre ⟨12, .data⟩ (by simp) rfl)
      obtain ⟨b, q2, hrow, f1, f2, f3⟩ : SlK .u16 65536 pw w' sv (a'.tmps.getD 38 undef) [h.ix, h.ct] := hV 17 (by omega) (hpre ⟨17, .data⟩ (by simp) rfl)
      have hz := wr_lt hw
      refine wpOp_step rfl fun K hK => ?_
      have hcc := wU16_any pw pw sv _ w' hw (Nat.le_of_lt hz) (some ⟨b, 0, none⟩) 2 2 [h.ix, h.ct] hrow (fun _ x hx => by cases hx; exact ⟨f1, f2⟩) (by simp) (by have := sealX_len h 3; omega)
      simp only [List.length_cons, List.length_nil, Nat.zero_add, Nat.reduceAdd] at q2
      simp [go_sem, Act.eval, q1, q2]
      refine hcc.mono ?_
      rintro e w2 ⟨rfl, sv2, hw2, hm2⟩
      exact hK _ _ (hI.call 18 (c := 3) (by omega) hw hm2 hw2 (by omega) rfl ⟨l1, l2, l3, l4, l5⟩ hV rfl)
    | 19, ho, hL, hpre =>
      clear hL
      cases ho
      have q3 : a'.tmps.getD 3 undef = .pointer (some ⟨w.heap.size, 0, none⟩) := hI.old 3 (by omega)
      refine wpOp_step rfl fun K hK => ?_
      have hK' := hK _ _ (hI.plain 19 (v := .pointer (some ⟨w.heap.size, 5, none⟩)) (by omega) (by omega) (Below.refl _ _) (fun sv _ => rfl))
      simpa [go_sem, Act.eval, q3] using hK'
    | 20, ho, hL, hpre =>
      clear hL
      cases ho
      have q19 : a'.tmps.getD 40 undef = .pointer (some ⟨w.heap.size, 5, none⟩) := by obtain ⟨sv, hq⟩ := hI.get 19 (by omega) (hpre ⟨19, .data⟩ (by simp) rfl); exact hq
      have hc : w'.cell? ⟨w.heap.size, 5, none⟩ = some (.int .u32 (h.bl : Int)) := (HH.out w' hI.bel).2.2.2.2.2.1
      refine wpOp_step rfl fun K hK => ?_
      have hK' := hK _ _ (hI.plain 20 (v := .int .u32 (h.bl : Int)) (by omega) (by omega) (Below.refl _ _) (fun sv _ => rfl))
      simpa [go_sem, Act.eval, q19, hc] using hK'
    | 21, ho, hL, hpre =>
      clear hL
      cases ho
      have q3 : a'.tmps.getD 3 undef = .pointer (some ⟨w.heap.size, 0, none⟩) := hI.old 3 (by omega)
      refine wpOp_step rfl fun K hK => ?_
      have hK' := hK _ _ (hI.plain 21 (v := .pointer (some ⟨w.heap.size, 6, none⟩)) (by omega) (by omega) (Below.refl _ _) (fun sv _ => rfl))
      simpa [go_sem, Act.eval, q3] using hK'
    | 22, ho, hL, hpre =>
      clear hL
      cases ho
      have q21 : a'.tmps.getD 42 undef = .pointer (some ⟨w.heap.size, 6, none⟩) := by obtain ⟨sv, hq⟩ := hI.get 21 (by omega) (hpre ⟨21, .data⟩ (by simp) rfl); exact hq
      have hc : w'.cell? ⟨w.heap.size, 6, none⟩ = some (.int .u32 (h.mo : Int)) := (HH.out w' hI.bel).2.2.2.2.2.2
      refine wpOp_step rfl fun K hK => ?_
      have hK' := hK _ _ (hI.plain 22 (v := .int .u32 (h.mo : Int)) (by omega) (by omega) (Below.refl _ _) (fun sv _ => rfl))
      simpa [go_sem, Act.eval, q21, hc] using hK'
    | 23, ho, hL, hpre =>
      clear hL
      cases ho
      have q20 : a'.tmps.getD 41 undef = .int .u32 (h.bl : Int) := by obtain ⟨sv, hq⟩ := hI.get 20 (by omega) (hpre ⟨20, .data⟩ (by simp) rfl); exact hq
      have q22 : a'.tmps.getD 43 undef = .int .u32 (h.mo : Int) := by obtain ⟨sv, hq⟩ := hI.get 22 (by omega) (hpre ⟨22, .data⟩ (by simp) rfl); exact hq
      have hpz : pw < w'.heap.size := by obtain ⟨_, _, _, hw, _⟩ := hI.mem; exact wr_lt hw
      refine wpOp_step rfl fun K hK => ?_
      have hK' := hK _ _ (hI.plain 23 (w' := w'.alloc (.cells #[.int .u32 (h.bl : Int), .int .u32 (h.mo : Int)] 22)) (v := .slice (some ⟨w'.heap.size, 0, none⟩) 2 2) (by omega) (by omega) (bel_alloc (Below.refl _ _) _) (fun sv hs => SlK.new2 HF.out.bl HF.out.mo hpz hs))
      have e20 : a'.tmps[41]?.getD undef = .int .u32 (h.bl : Int) := by rw [← q20]; simp
      have e22 : a'.tmps[43]?.getD undef = .int .u32 (h.mo : Int) := by rw [← q22]; simp
      simpa [go_sem, Act.eval, e20, e22] using hK'
    | 24, ho, hL, hpre =>
      cases ho
      obtain ⟨sv, c, hc5, hw, l1, l2, l3, l4, l5, hV⟩ := hI.mem
      have u1 : 3 < c := l4.1 (hpre ⟨18, .chain⟩ (by simp) rfl)
      have u2 : ¬ 4 < c := fun e => hL (l5.2 e)
      obtain rfl : c = 4 := by omega
      have q1 : a'.tmps.getD 39 undef = .pointer (some ⟨pw, 0, none⟩) := hV 18 (by omega) (hpre ⟨18, .data⟩ (by simp) rfl)
      obtain ⟨b, q2, hrow, f1, f2, f3⟩ : SlK .u32 4294967296 pw w' sv (a'.tmps.getD 44 undef) [h.bl, h.mo] := hV 23 (by omega) (hpre ⟨23, .data⟩ (by simp) rfl)
      have hz := wr_lt hw
      refine wpOp_step rfl fun K hK => ?_
      have hcc := wU32_any pw pw sv _ w' hw (Nat.le_of_lt hz) (some ⟨b, 0, none⟩) 2 2 [h.bl, h.mo] hrow (fun _ x hx => by cases hx; exact ⟨f1, f2⟩) (by simp) (by have := sealX_len h 4; omega)
      simp only [List.length_cons, List.length_nil, Nat.zero_add, Nat.reduceAdd] at q2
      simp [go_sem, Act.eval, q1, q2]
      refine hcc.mono ?_
      rintro e w2 ⟨rfl, sv2, hw2, hm2⟩
      exact hK _ _ (hI.call 24 (c := 4) (by omega) hw hm2 hw2 (by omega) rfl ⟨l1, l2, l3, l4, l5⟩ hV rfl)
    | i + 25, ho, _, _ => simp at ho
  case done =>
    intro L a' w' hI hL
    obtain ⟨sv, c, hc5, hw, l1, l2, l3, l4, l5, hV⟩ := hI.mem
    obtain rfl : c = 5 := by have := l5.1 (hL 24 (by decide)); omega
    have f1 : a'.tmps.getD 1 undef = .slice a len cap := hI.old 1 (by omega)
    have f7 : a'.tmps.getD 7 undef = .slice a4 32 c4 := hI.old 7 (by omega)
    have f8 : a'.tmps.getD 8 undef = .pointer (some ⟨pw, 0, none⟩) := hI.old 8 (by omega)
    obtain ⟨f, hfr, hfk⟩ := frame58 a' hI.sz hI.df
    rw [hfk] at f1 f7 f8
    have hbel := hI.bel
    have hw : WR pw w' pw sv (headB h) := hw
    clear hV l1 l2 l3 l4 l5 hI hL hw5 HH hs5 ho5
    rw [hfr]
    rw [f1, f7, f8]
    clear hfr hfk f1 f7 f8
    obtain ⟨hrt, hrd, hbw⟩ := HROW.out w' hbel
    have hz := wr_lt hw
    go_wp2_with fail
    refine (wBytes_any _ _ _ _ w' hw (by rw [headB_len]; omega)).mono ?_
    intro e w6 h6
    obtain ⟨a6, c6, rfl, hr6, hn6, ho6, hb6⟩ := retOwn_len h6
    rw [headB_len] at hr6 ⊢
    have hb6' : Below pw W5.drew w6 := hbel.trans (hb6.mono (Nat.le_of_lt hz))
    obtain ⟨hrt6, hrd6, hbw6⟩ := HROW.out w6 hb6'
    have hw6 := wr_keep hw hb6
    have hb7 : ∀ o, Below pw W5.drew (w6.alloc o) := fun o => hb6'.alloc (Nat.le_trans (Nat.le_of_lt hz) hb6.size) o
    have hr67 := fun o => row_alloc hr6 o
    have hw67 := fun o => wr_keep hw6 (bel_alloc (Below.refl _ w6) o)
    have hz6 := wr_lt hw6
    clear h6 hr6 hn6 ho6 hbel hrt hrd hbw hw hb6 hrt6 hrd6 hbw6 hb6'
    go_wp2_with fail
    obtain ⟨W7, hW7⟩ : ∃ W7, W7 = w6.alloc (.cells #[.slice a6 24 c6, .slice a len cap, .slice a4 32 c4] 28) := ⟨_, rfl⟩
    obtain ⟨c0, c1, c2⟩ := cell_three w6 (.slice a6 24 c6) (.slice a len cap) (.slice a4 32 c4) 28
    have hb7 := hb7 (.cells #[.slice a6 24 c6, .slice a len cap, .slice a4 32 c4] 28)
    have hr67 := hr67 (.cells #[.slice a6 24 c6, .slice a len cap, .slice a4 32 c4] 28)
    have hw67 := hw67 (.cells #[.slice a6 24 c6, .slice a len cap, .slice a4 32 c4] 28)
    have hz7 : W7.heap.size = w6.heap.size + 1 := by rw [hW7]; simp
    rw [← hW7] at c0 c1 c2 hb7 hr67 hw67 ⊢
    obtain ⟨hrt7, hrd7, hbw7⟩ := HROW.out W7 hb7
    clear hW7
    refine (of_three w6.heap.size 3 a6 a a4 24 len 32 c6 cap c4 (headB h) ds (tailB []) W7 c0 c1 c2 hr67 hrd7 hrt7 (by unfold maxLen; omega) (by unfold maxLen; omega) (by unfold maxLen; omega)).mono ?_
    rintro e w8 ⟨rfl, rfl⟩
    obtain ⟨S, hS⟩ : ∃ S, sumB h ds [] = S := ⟨_, rfl⟩
    have hS' : Crc.of (headB h ++ ds ++ tailB []) = S := hS
    have hSlt : S < 4294967296 := by rw [← hS]; exact Crc.of_lt _
    rw [hS']
    have HS := Lib.hid hS
    have hp7 : pw < W7.heap.size := by omega
    clear hS hS' c0 c1 c2 hr67 hrd7 hrt7 hz7
    have hb8 : Below pw W5.drew (W7.alloc (.cells #[.int .u32 (S : Int), .int .u32 ((0 : Nat) : Int)] 22)) := hb7.alloc (by omega) _
    have hw8 := wr_keep hw67 (bel_alloc (Below.refl _ W7) (.cells #[.int .u32 (S : Int), .int .u32 ((0 : Nat) : Int)] 22))
    have hr8 : RowK .u32 4294967296 (W7.alloc (.cells #[.int .u32 (S : Int), .int .u32 ((0 : Nat) : Int)] 22)) (some ⟨W7.heap.size, 0, none⟩) 2 [S, 0] := row_new2 W7 hSlt (by omega)
    have hfar : ∀ x : Addr, some (⟨W7.heap.size, 0, none⟩ : Addr) = some x → x.block ≠ pw ∧ some x.block ≠ sv.ownBlock := fun x hx => by
      cases hx
      refine ⟨by show W7.heap.size ≠ pw; omega, fun e => ?_⟩
      have h9 : W7.heap.size < W7.heap.size := (own_base hw67.2.2.1 _ e.symm).2
      omega
    have hs8 : pw ≤ (W7.alloc (.cells #[.int .u32 (S : Int), .int .u32 ((0 : Nat) : Int)] 22)).heap.size := by simp; omega
    clear hw67
    go_wp2_with fail
    refine (wU32_any pw pw sv _ _ hw8 hs8 _ 2 2 [S, 0] hr8 (fun _ => hfar) (by omega) (by rw [headB_len]; omega)).mono ?_
    rintro e w9 ⟨rfl, sv9, hw9, hm9⟩
    have hb9 := hb8.trans (hm9.below hw8 hs8)
    obtain ⟨hrt9, _, hbw9⟩ := HROW.out w9 hb9
    have hz9 := wr_lt hw9
    clear hm9 hw8 hr8 hfar hb8 hs8
    go_wp2_with fail
    refine (raw_any pw pw sv9 _ w9 hw9 (Nat.le_of_lt hz9) a4 32 c4 (tailB []) hrt9 HN4.out (by simp [headB_len, Crc.les_len])).mono ?_
    rintro e w10 ⟨rfl, sv10, hw10, hm10⟩
    have hb10 := hb9.trans (hm10.below hw9 (Nat.le_of_lt hz9))
    obtain ⟨_, _, hbw10⟩ := HROW.out w10 hb10
    have hF : (headB h ++ [S, 0].flatMap (Crc.les 4)) ++ tailB [] = sealB h ds [] := by unfold sealB; rw [HS.out]
    rw [hF] at hw10
    clear hF hm10 hw9 hrt9
    go_wp2_with fail
    refine (wBytes_any _ _ _ _ w10 hw10 (by rw [sealB_len]; omega)).mono ?_
    rintro e w11 ⟨sv11, rfl, ho11, hb11⟩
    have ho12 := own_mono ho11 hbw10.size
    have hb12 := bel_trans hbw10 hb11
    obtain ⟨a12, c12, rfl, _⟩ := row_of_own ho11
    clear ho11 hb11
    go_wp2
    go_ret
    exact ⟨_, rfl, ho12, hb12⟩

end Go.Proofs.YthgcjiocelcblaaGreat

namespace Go.Proofs.YthgcjiocelcblaaGreat
open Go.RowKit

theorem seal_any (h : RH) (hf : h.Fits) (a : Option Addr) (len cap : Nat) (ds : List Nat) (a2 : Option Addr) (len2 cap2 : Nat) (be : List Nat) (w : World)
    (hr : Row w a len ds) (hl : len ≤ 100000) (hr2 : Row w a2 len2 be) (hlc2 : len2 ≤ cap2) (hcm2 : cap2 ≤ maxLen) (hn2 : a2 = none → cap2 = 0) (hl2 : len2 ≤ 100000) :
    Calls Tryz.prog 70 #[.agg h.cells, .slice a len cap, .slice a2 len2 cap2] w (RetOwn w (sealB h ds be)) := by
  unfold maxLen at hcm2
  cases a2 with
  | none =>
    obtain rfl := hn2 rfl
    obtain rfl : len2 = 0 := by omega
    obtain rfl : be = [] := List.eq_nil_of_length_eq_zero hr2.1
    exact seal_nil h hf a len cap ds w hr hl
  | some x =>
    obtain ⟨b2, off2, sp2⟩ := x
    by_cases hle : len2 ≤ 32
    · exact seal_one h hf a len cap ds b2 off2 sp2 len2 cap2 be w hr hl hr2 hlc2 hle
    · exact seal_wide h hf a len cap ds b2 off2 sp2 len2 cap2 be w hr hl hr2 hlc2 (by omega) hle hl2

end Go.Proofs.YthgcjiocelcblaaGreat
