/- What each operation of record.Seal's drawn region yields. -/
import Derived.Test.YtnkkeffjnamcgaaRHdr
import Derived.Test.YtnkkeffjnamcgaaInv
import Derived.Test.YtnkkeffjnamcgaaWriterCalls
import Derived.Test.YtnkkeffjnamcgaaTwoRows
namespace Go.Proofs.Ytnkkeffjnamcgaa
open Go.RowKit

theorem put_same (a : Act) (d : Nat) (v : Value) (h : d < a.tmps.size) : (a.put (some d) v).tmps.getD d undef = v := by
  simp [Act.put, h]
theorem put_ne (a : Act) (d k : Nat) (v : Value) (h : k ≠ d) : (a.put (some d) v).tmps.getD k undef = a.tmps.getD k undef := by
  simp [Act.put, Array.getElem?_setIfInBounds_ne (Ne.symm h)]
theorem put_size (a : Act) (d : Nat) (v : Value) : (a.put (some d) v).tmps.size = a.tmps.size := by simp [Act.put]
theorem put_defers (a : Act) (d : Nat) (v : Value) : (a.put (some d) v).defers = a.defers := rfl

/-- A slice of numbers in a block of its own, apart of the writer. -/
def SlK (K : IntKind) (M pw : Nat) (w : World) (sv v : Value) (ns : List Nat) : Prop :=
  ∃ b, v = .slice (some ⟨b, 0, none⟩) ns.length ns.length ∧ RowK K M w (some ⟨b, 0, none⟩) ns.length ns ∧ b ≠ pw ∧ some b ≠ sv.ownBlock ∧ b < w.heap.size
theorem rowK_bel {K : IntKind} {M : Nat} {w w' : World} {a : Option Addr} {len : Nat} {ns : List Nat} (h : RowK K M w a len ns) (hb : Below w.heap.size w w') : RowK K M w' a len ns := by
  obtain ⟨h1, h2, h3⟩ := h
  refine ⟨h1, h2, fun h0 => ?_⟩
  obtain ⟨b, off, h4, h5⟩ := h3 h0
  exact ⟨b, off, h4, fun i hi => cell_bel hb (h5 i hi)⟩
theorem SlK.below {K : IntKind} {M pw : Nat} {w w' : World} {sv v : Value} {ns : List Nat} (h : SlK K M pw w sv v ns) (hb : Below w.heap.size w w') : SlK K M pw w' sv v ns := by
  obtain ⟨b, h1, h2, h3, h4, h5⟩ := h
  exact ⟨b, h1, rowK_bel h2 hb, h3, h4, Nat.lt_of_lt_of_le h5 hb.size⟩
theorem SlK.moved {K : IntKind} {M pw : Nat} {w w' : World} {sv sv' v : Value} {ns : List Nat} (h : SlK K M pw w sv v ns) (hm : Moved w pw sv sv' w') : SlK K M pw w' sv' v ns := by
  obtain ⟨b, h1, h2, h3, h4, h5⟩ := h
  refine ⟨b, h1, rowK_moved h2 hm (fun _ x hx => by cases hx; exact ⟨h3, h4⟩), h3, ?_, Nat.lt_of_lt_of_le h5 hm.size⟩
  rcases hm.where_ with e | e | ⟨k, e, hk⟩
  · rw [e]; exact h4
  · rw [e]; simp
  · rw [e]; simp; omega
theorem SlK.new1 {K : IntKind} {M pw : Nat} {w : World} {sv : Value} {n : Nat} {t : TypeId} (hn : n < M) (hpw : pw < w.heap.size) (ho : ∀ k, sv.ownBlock = some k → k < w.heap.size) : SlK K M pw (w.alloc (.cells #[.int K (n : Int)] t)) sv (.slice (some ⟨w.heap.size, 0, none⟩) 1 1) [n] := by
  refine ⟨_, rfl, ⟨rfl, fun x hx => ?_, fun _ => ⟨_, 0, rfl, fun i hi => ?_⟩⟩, by omega, fun e => ?_, by simp⟩
  · simp at hx; omega
  · obtain rfl : i = 0 := by simp at hi; omega
    exact cell_new1 _ _ _
  · have := ho _ e.symm; omega
theorem SlK.new2 {K : IntKind} {M pw : Nat} {w : World} {sv : Value} {n m : Nat} {t : TypeId} (hn : n < M) (hm : m < M) (hpw : pw < w.heap.size) (ho : ∀ k, sv.ownBlock = some k → k < w.heap.size) : SlK K M pw (w.alloc (.cells #[.int K (n : Int), .int K (m : Int)] t)) sv (.slice (some ⟨w.heap.size, 0, none⟩) 2 2) [n, m] := by
  obtain ⟨c0, c1⟩ := cell_new2 w (.int K (n : Int)) (.int K (m : Int)) t
  refine ⟨_, rfl, ⟨rfl, fun x hx => ?_, fun _ => ⟨_, 0, rfl, fun i hi => ?_⟩⟩, by omega, fun e => ?_, by simp⟩
  · simp at hx; omega
  · simp at hi
    rcases (by omega : i = 0 ∨ i = 1) with rfl | rfl
    · exact c0
    · exact c1
  · have := ho _ e.symm; omega

/-- What is laid behind the first c calls. -/
def sealX (h : RH) : Nat → List Nat
  | 0 => []
  | 1 => [] ++ [22356].flatMap (Crc.les 2)
  | 2 => ([] ++ [22356].flatMap (Crc.les 2)) ++ [h.ki, 0]
  | 3 => (([] ++ [22356].flatMap (Crc.les 2)) ++ [h.ki, 0]) ++ [h.ep, h.ba].flatMap (Crc.les 4)
  | 4 => ((([] ++ [22356].flatMap (Crc.les 2)) ++ [h.ki, 0]) ++ [h.ep, h.ba].flatMap (Crc.les 4)) ++ [h.ix, h.ct].flatMap (Crc.les 2)
  | _ => headB h
theorem sealX_len (h : RH) (c : Nat) : (sealX h c).length ≤ 24 := by
  unfold sealX
  split <;> simp [headB, Crc.les_len]
/-- What operation j yields. -/
def SealV (h : RH) (pw BH : Nat) (w : World) (sv : Value) (j : Nat) (v : Value) : Prop :=
  match j with
  | 0 => v = .pointer (some ⟨pw, 0, none⟩)
  | 1 => SlK .u16 65536 pw w sv v [22356]
  | 2 => v = .pointer (some ⟨pw, 0, none⟩)
  | 3 => v = .pointer (some ⟨BH, 0, none⟩)
  | 4 => v = .int .u8 (h.ki : Int)
  | 5 => SlK .u8 256 pw w sv v [h.ki, 0]
  | 6 => v = .pointer (some ⟨pw, 0, none⟩)
  | 7 => v = .pointer (some ⟨BH, 1, none⟩)
  | 8 => v = .int .u32 (h.ep : Int)
  | 9 => v = .pointer (some ⟨BH, 2, none⟩)
  | 10 => v = .int .u32 (h.ba : Int)
  | 11 => SlK .u32 4294967296 pw w sv v [h.ep, h.ba]
  | 12 => v = .pointer (some ⟨pw, 0, none⟩)
  | 13 => v = .pointer (some ⟨BH, 3, none⟩)
  | 14 => v = .int .u16 (h.ix : Int)
  | 15 => v = .pointer (some ⟨BH, 4, none⟩)
  | 16 => v = .int .u16 (h.ct : Int)
  | 17 => SlK .u16 65536 pw w sv v [h.ix, h.ct]
  | 18 => v = .pointer (some ⟨pw, 0, none⟩)
  | 19 => v = .pointer (some ⟨BH, 5, none⟩)
  | 20 => v = .int .u32 (h.bl : Int)
  | 21 => v = .pointer (some ⟨BH, 6, none⟩)
  | 22 => v = .int .u32 (h.mo : Int)
  | 23 => SlK .u32 4294967296 pw w sv v [h.bl, h.mo]
  | 24 => v = .pointer (some ⟨pw, 0, none⟩)
  | _ => True
theorem SealV.below {h : RH} {pw BH j : Nat} {w w' : World} {sv v : Value} (hv : SealV h pw BH w sv j v) (hb : Below w.heap.size w w') : SealV h pw BH w' sv j v := by
  unfold SealV at *
  split at hv <;> first | exact hv | exact SlK.below hv hb
theorem SealV.moved {h : RH} {pw BH j : Nat} {w w' : World} {sv sv' v : Value} (hv : SealV h pw BH w sv j v) (hm : Moved w pw sv sv' w') : SealV h pw BH w' sv' j v := by
  unfold SealV at *
  split at hv <;> first | exact hv | exact SlK.moved hv hm

/-- What holds whichever operations have come up. -/
structure SealI (h : RH) (pw BH : Nat) (a0 : Act) (W1 : World) (L : Nat → Prop) (a : Act) (w : World) : Prop where
  sz : a.tmps.size = 58
  df : a.defers = []
  old : ∀ k, k < 21 → a.tmps.getD k undef = a0.tmps.getD k undef
  bel : Below pw W1 w
  mem : ∃ sv c, c ≤ 5 ∧ WR pw w pw sv (sealX h c) ∧ (L 2 ↔ 0 < c) ∧ (L 6 ↔ 1 < c) ∧ (L 12 ↔ 2 < c) ∧ (L 18 ↔ 3 < c) ∧ (L 24 ↔ 4 < c) ∧ ∀ j, j < 25 → L j → SealV h pw BH w sv j (a.tmps.getD (21 + j) undef)
section
variable {h : RH} {pw BH : Nat} {a0 a : Act} {W1 w w' : World} {L : Nat → Prop}
theorem slot_put {sv : Value} {i : Nat} {v : Value} (hsz : a.tmps.size = 58) (hi : i < 25) (hV : ∀ j, j < 25 → L j → SealV h pw BH w sv j (a.tmps.getD (21 + j) undef)) (hv : SealV h pw BH w sv i v) :
    ∀ j, j < 25 → (L j ∨ j = i) → SealV h pw BH w sv j ((a.put (some (21 + i)) v).tmps.getD (21 + j) undef) := by
  intro j hj hL
  by_cases e : j = i
  · subst e; rw [put_same _ _ _ (by omega)]; exact hv
  · rw [put_ne _ _ _ _ (by omega)]
    exact hV j hj (hL.resolve_right e)
theorem SealI.get (hI : SealI h pw BH a0 W1 L a w) (j : Nat) (hj : j < 25) (hL : L j) : ∃ sv, SealV h pw BH w sv j (a.tmps.getD (21 + j) undef) := by
  obtain ⟨sv, c, _, _, _, _, _, _, _, hV⟩ := hI.mem
  exact ⟨sv, hV j hj hL⟩
/-- Something that makes memory alone, or none. -/
theorem SealI.plain {v : Value} (hI : SealI h pw BH a0 W1 L a w) (i : Nat) (hi : i < 25) (hc : i ≠ 2 ∧ i ≠ 6 ∧ i ≠ 12 ∧ i ≠ 18 ∧ i ≠ 24) (hb : Below w.heap.size w w') (hv : ∀ sv, (∀ k, sv.ownBlock = some k → k < w.heap.size) → SealV h pw BH w' sv i v) :
    SealI h pw BH a0 W1 (fun k => L k ∨ k = i) (a.put (some (21 + i)) v) w' := by
  obtain ⟨sv, c, hc5, hw, l1, l2, l3, l4, l5, hV⟩ := hI.mem
  obtain ⟨n1, n2, n3, n4, n5⟩ := hc
  have hz := wr_lt hw
  refine ⟨(put_size _ _ _).trans hI.sz, (put_defers _ _ _).trans hI.df, fun k hk => ?_, hI.bel.trans (hb.mono (by omega)), sv, c, hc5, wr_keep hw hb, ?_, ?_, ?_, ?_, ?_, slot_put hI.sz hi (fun j hj hL => (hV j hj hL).below hb) (hv sv fun k hk => (own_base hw.2.2.1 k hk).2)⟩
  · rw [put_ne _ _ _ _ (by omega)]; exact hI.old k hk
  · rw [← l1]; exact or_iff_left (by omega)
  · rw [← l2]; exact or_iff_left (by omega)
  · rw [← l3]; exact or_iff_left (by omega)
  · rw [← l4]; exact or_iff_left (by omega)
  · rw [← l5]; exact or_iff_left (by omega)
/-- A call of the writer. -/
theorem SealI.call {v sv sv' : Value} {c : Nat} (hI : SealI h pw BH a0 W1 L a w) (i : Nat) (hi : i < 25) (hw : WR pw w pw sv (sealX h c)) (hm : Moved w pw sv sv' w') (hw' : WR pw w' pw sv' (sealX h (c + 1))) (hc5 : c < 5) (hic : i = [2, 6, 12, 18, 24].getD c 0)
    (hl : (L 2 ↔ 0 < c) ∧ (L 6 ↔ 1 < c) ∧ (L 12 ↔ 2 < c) ∧ (L 18 ↔ 3 < c) ∧ (L 24 ↔ 4 < c)) (hV : ∀ j, j < 25 → L j → SealV h pw BH w sv j (a.tmps.getD (21 + j) undef)) (hv : v = .pointer (some ⟨pw, 0, none⟩)) :
    SealI h pw BH a0 W1 (fun k => L k ∨ k = i) (a.put (some (21 + i)) v) w' := by
  obtain ⟨l1, l2, l3, l4, l5⟩ := hl
  have hz := wr_lt hw
  have hcs : c = 0 ∨ c = 1 ∨ c = 2 ∨ c = 3 ∨ c = 4 := by omega
  refine ⟨(put_size _ _ _).trans hI.sz, (put_defers _ _ _).trans hI.df, fun k hk => ?_, hI.bel.trans (hm.below hw (Nat.le_of_lt hz)), sv', c + 1, by omega, hw', ?_, ?_, ?_, ?_, ?_, slot_put hI.sz hi (fun j hj hL => (hV j hj hL).moved hm) ?_⟩
  · rw [put_ne _ _ _ _ (by omega)]; exact hI.old k hk
  · rcases hcs with rfl | rfl | rfl | rfl | rfl <;> simp at hic <;> subst hic <;> simp [l1]
  · rcases hcs with rfl | rfl | rfl | rfl | rfl <;> simp at hic <;> subst hic <;> simp [l2]
  · rcases hcs with rfl | rfl | rfl | rfl | rfl <;> simp at hic <;> subst hic <;> simp [l3]
  · rcases hcs with rfl | rfl | rfl | rfl | rfl <;> simp at hic <;> subst hic <;> simp [l4]
  · rcases hcs with rfl | rfl | rfl | rfl | rfl <;> simp at hic <;> subst hic <;> simp [l5]
  · rcases hcs with rfl | rfl | rfl | rfl | rfl <;> simp at hic <;> subst hic <;> exact hv
end

end Go.Proofs.Ytnkkeffjnamcgaa
