/- nand: fresh, plan of nothing. -/
import Derived.Test.YtbfmpcomjmcfjaaNErase
import Derived.Deep.OwnRows
namespace Go.Proofs.Ytbfmpcomjmcfjaa
open Go.RowKit Go.Deep

/-- A chip's blocks, of which the first k have their pages. -/
def freshCell (b m k idx : Nat) : Value :=
  if idx % 4 = 0 then .bool false else if idx % 4 = 1 then .int .i64 0 else if idx % 4 = 2 then .int .i64 0 else
  if idx / 4 < k then .slice (some ⟨b + 1 + idx / 4, 0, none⟩) m m else .slice none 0 0
theorem info_block : (Try.prog.info? 166).map (fun i => (i.zero, i.size, i.bytes)) = some (some (.agg #[.bool false, .int .i64 0, .int .i64 0, .slice none 0 0]), 4, 48) := by kernel_rfl
theorem info_row : (Try.prog.info? 57).map (fun i => (i.zero, i.size, i.bytes)) = some (some (.slice none 0 0), 1, 24) := by kernel_rfl
/-- A chip's blocks stand at b, their pages behind. -/
def FreshAt (w : World) (b n m : Nat) : Prop := w.rowIs b 166 (n * 4) (freshCell b m n) ∧ (∀ j, j < n → w.rowIs (b + 1 + j) 57 m (fun _ => .slice none 0 0)) ∧ b + 1 + n ≤ w.heap.size
def FreshRet (n m : Nat) (w : World) (e : Ending) (w' : World) : Prop :=
  e = .returned (.slice (some ⟨w.heap.size + 1, 0, none⟩) n n) ∧ FreshAt w' (w.heap.size + 1) n m ∧ Below w.heap.size w w' ∧ w'.heap.size = w.heap.size + 2 + n
theorem made_fresh (w : World) (n m : Nat) : (w.alloc (.cells (madeCells (Value.agg #[.bool false, .int .i64 0, .int .i64 0, .slice none 0 0]).cells (n * 4)) 166)).rowIs w.heap.size 166 (n * 4) (freshCell w.heap.size m 0) := by
  refine ⟨_, (MapKept.heap_alloc w _).1, size_madeCells _ _, fun i hi => ?_⟩
  simp only [madeCells, Value.cells, freshCell, Nat.not_lt_zero, if_false]
  rw [Array.getElem?_map, Array.getElem?_range, if_pos hi]
  simp only [Option.map_some, List.size_toArray, List.length_cons, List.length_nil, Nat.zero_add, Nat.reduceAdd]
  rcases (by omega : i % 4 = 0 ∨ i % 4 = 1 ∨ i % 4 = 2 ∨ i % 4 = 3) with e | e | e | e <;> rw [e] <;> rfl
theorem fresh_step (b m k : Nat) (idx : Nat) : (if idx = k * 4 + 3 then .slice (some ⟨b + 1 + k, 0, none⟩) m m else freshCell b m k idx) = freshCell b m (k + 1) idx := by
  unfold freshCell
  by_cases e : idx = k * 4 + 3
  · subst e
    rw [if_pos rfl, if_neg (by omega), if_neg (by omega), if_neg (by omega), if_pos (by omega), show (k * 4 + 3) / 4 = k by omega]
  · rw [if_neg e]
    by_cases h0 : idx % 4 = 0
    · rw [if_pos h0, if_pos h0]
    · rw [if_neg h0, if_neg h0]
      by_cases h1 : idx % 4 = 1
      · rw [if_pos h1, if_pos h1]
      · rw [if_neg h1, if_neg h1]
        by_cases h2 : idx % 4 = 2
        · rw [if_pos h2, if_pos h2]
        · rw [if_neg h2, if_neg h2]
          by_cases h3 : idx / 4 < k
          · rw [if_pos h3, if_pos (by omega)]
          · rw [if_neg h3, if_neg (by omega)]
set_option maxRecDepth 100000 in
set_option maxHeartbeats 1600000 in
theorem fresh_any (a d : Int) (n m : Nat) (w : World) (hn : n ≤ 64) (hm : m ≤ 32) :
    Calls Try.prog 74 #[.agg #[.int .i64 a, .int .i64 (n : Int), .int .i64 (m : Int), .int .i64 d]] w (FreshRet n m w) := by
  obtain ⟨i1, hi1, hz1, hs1, hb1⟩ := info_parts info_block
  obtain ⟨i2, hi2, hz2, hs2, hb2⟩ := info_parts info_row
  have hmk1 : ∀ w, (Instr.makeSlice 159 (.int .i64 (n : Int)) (.int .i64 (n : Int))).run Try.prog w = _ := fun w => run_make w 159 166 i1 _ Try.underlying159 hi1 hz1 .i64 .i64 (n : Int) (n : Int) (by omega) (Int.le_refl _) (by rw [hb1]; omega) (by omega)
  have hmk2 : ∀ w, (Instr.makeSlice 52 (.int .i64 (m : Int)) (.int .i64 (m : Int))).run Try.prog w = _ := fun w => run_make_row 52 57 i2 _ Try.underlying52 hi2 hz2 hs2 rfl .i64 .i64 m (by rw [hb2]; omega) (by omega) w
  simp only [Int.toNat_natCast, hs1] at hmk1
  obtain ⟨w0, hw0⟩ : ∃ w0, w0 = w.alloc (.cells #[.int .i64 a, .int .i64 (n : Int), .int .i64 (m : Int), .int .i64 d] 32) := ⟨_, rfl⟩
  have z0 : w0.heap.size = w.heap.size + 1 := by rw [hw0]; simp
  have hb0 : Below w.heap.size w w0 := by rw [hw0]; exact bel_alloc (Below.refl _ w) _
  have hrow := made_fresh w0 n m
  have hcell : w0.cell? ⟨w.heap.size, 2, none⟩ = some (.int .i64 (m : Int)) := by rw [hw0, World.cell?_alloc_new]; rfl
  have hb1' := bel_alloc hb0 (.cells (madeCells (Value.agg #[.bool false, .int .i64 0, .int .i64 0, .slice none 0 0]).cells (n * 4)) 166)
  have hcell1 : (w0.alloc (.cells (madeCells (Value.agg #[.bool false, .int .i64 0, .int .i64 0, .slice none 0 0]).cells (n * 4)) 166)).cell? ⟨w.heap.size, 2, none⟩ = some (.int .i64 (m : Int)) := (World.cell?_alloc_lt w0 _ _ (by show w.heap.size < w0.heap.size; omega)).trans hcell
  have z1 : (w0.alloc (.cells (madeCells (Value.agg #[.bool false, .int .i64 0, .int .i64 0, .slice none 0 0]).cells (n * 4)) 166)).heap.size = w.heap.size + 2 := by simp [z0]
  obtain ⟨w1, hw1⟩ : ∃ w1, w1 = w0.alloc (.cells (madeCells (Value.agg #[.bool false, .int .i64 0, .int .i64 0, .slice none 0 0]).cells (n * 4)) 166) := ⟨_, rfl⟩
  rw [← hw1, z0] at hrow
  rw [← hw1] at hb1' hcell1 z1
  have HI := Lib.hid (And.intro hrow (And.intro hb1' (And.intro hcell1 z1)))
  have HW := Lib.hid hw1
  have Z0 := Lib.hid z0
  clear hrow hb1' hcell1 z1 hcell hb0 z0
  have HMK := Lib.hid hmk1
  rw [hw0] at HW Z0
  have hmk0 := HMK.out (w.alloc (.cells #[.int .i64 a, .int .i64 (n : Int), .int .i64 (m : Int), .int .i64 d] 32))
  rw [Z0.out] at hmk0
  clear hmk1 hw0 hw1 HMK
  go_enter Try.func74, Try.ntmps74
  go_wp2_with fail
  have HW' : w1 = (w.alloc (.cells #[.int .i64 a, .int .i64 (n : Int), .int .i64 (m : Int), .int .i64 d] 32)).alloc (.cells (madeCells #[.bool false, .int .i64 0, .int .i64 0, .slice none 0 0] (n * 4)) 166) := HW.out
  rw [← HW']
  clear HW' HW hmk0 Z0
  go_loopw [10] (fun i wr => ∃ k : Nat, k ≤ n ∧ i = .int .i64 (k : Int) ∧ wr.heap.size = w.heap.size + 2 + k ∧ wr.rowIs (w.heap.size + 1) 166 (n * 4) (freshCell (w.heap.size + 1) m k) ∧ (∀ j, j < k → wr.rowIs (w.heap.size + 1 + 1 + j) 57 m (fun _ => .slice none 0 0)) ∧ Below w.heap.size w wr ∧ wr.cell? ⟨w.heap.size, 2, none⟩ = some (.int .i64 (m : Int))) (fun i _ => n - (intOf i).toNat)
  case atStart => exact ⟨0, Nat.zero_le _, rfl, HI.out.2.2.2, HI.out.1, fun j hj => by omega, HI.out.2.1, HI.out.2.2.1⟩
  case round =>
    obtain ⟨k, hk, rfl, hz, hrow, hpg, hbel, hc2⟩ := hrel
    obtain ⟨wo, hwo⟩ : ∃ wo : World, wo = wr := ⟨_, rfl⟩
    subst hwo
    by_cases hlt : k < n
    · obtain ⟨V, hV⟩ : ∃ V, wo.alloc (.cells (madeCells #[Value.slice none 0 0] m) 57) = V := ⟨_, rfl⟩
      have hr1 := hrow.alloc (.cells (madeCells #[Value.slice none 0 0] m) 57)
      have hnew := World.rowIs_made wo (.slice none 0 0) m 57
      have hpg1 : ∀ j, j < k + 1 → (wo.alloc (.cells (madeCells #[Value.slice none 0 0] m) 57)).rowIs (w.heap.size + 1 + 1 + j) 57 m (fun _ => .slice none 0 0) := fun j hj => by
        by_cases e : j = k
        · subst e; rw [show w.heap.size + 1 + 1 + j = wo.heap.size by omega]; exact hnew
        · exact (hpg j (by omega)).alloc _
      have hbel1 := bel_alloc hbel (.cells (madeCells #[Value.slice none 0 0] m) 57)
      have hc21 : (wo.alloc (.cells (madeCells #[Value.slice none 0 0] m) 57)).cell? ⟨w.heap.size, 2, none⟩ = some (.int .i64 (m : Int)) := (World.cell?_alloc_lt wo _ _ (by show w.heap.size < wo.heap.size; omega)).trans hc2
      have hz1 : (wo.alloc (.cells (madeCells #[Value.slice none 0 0] m) 57)).heap.size = w.heap.size + 2 + (k + 1) := by simp [hz]; omega
      have hcs := hr1.cell (i := k * 4 + 3) (by omega)
      have hfs := hr1.frozen (k * 4 + 3)
      have hst := hr1.set (k * 4 + 3) (.slice (some ⟨wo.heap.size, 0, none⟩) m m)
      rw [hV] at hr1 hpg1 hbel1 hc21 hz1 hcs hfs hst
      have hst2 : (V.setCell ⟨w.heap.size + 1, k * 4 + 3, none⟩ (.slice (some ⟨wo.heap.size, 0, none⟩) m m)).rowIs (w.heap.size + 1) 166 (n * 4) (freshCell (w.heap.size + 1) m (k + 1)) := hst.congr fun idx _ => by rw [← fresh_step, show w.heap.size + 1 + 1 + k = wo.heap.size by omega]
      have RES := Lib.hid (And.intro hst2 (And.intro (And.intro (fun j hj => (hpg1 j hj).setOther (a := ⟨w.heap.size + 1, k * 4 + 3, none⟩) (by show w.heap.size + 1 + 1 + j ≠ w.heap.size + 1; omega) (.slice (some ⟨wo.heap.size, 0, none⟩) m m)) (hbel1.setCell (p := ⟨w.heap.size + 1, k * 4 + 3, none⟩) (Nat.le_succ _) (.slice (some ⟨wo.heap.size, 0, none⟩) m m)))
        (And.intro ((World.cell?_setCell_far V ⟨w.heap.size + 1, k * 4 + 3, none⟩ ⟨w.heap.size, 2, none⟩ (.slice (some ⟨wo.heap.size, 0, none⟩) m m) (by show w.heap.size + 1 ≠ w.heap.size; omega)).trans hc21) (show (V.setCell ⟨w.heap.size + 1, k * 4 + 3, none⟩ (.slice (some ⟨wo.heap.size, 0, none⟩) m m)).heap.size = w.heap.size + 2 + (k + 1) by simp [hz1]))))
      have hmk := hmk2 wo
      rw [hV] at hmk
      clear hV hr1 hnew hpg1 hbel1 hc21 hz1 hst hst2 hmk2 hrow hpg hbel hz HI
      go_wp2
      go_roundw
      case rel => exact ⟨k + 1, by omega, by go_num, RES.out.2.2.2, RES.out.1, RES.out.2.1.1, RES.out.2.1.2, RES.out.2.2.1⟩
      case measure => simp [intOf]; omega
    · obtain rfl : k = n := by omega
      have HR := Lib.hid (show FreshRet k m w (.returned (.slice (some ⟨w.heap.size + 1, 0, none⟩) k k)) wo from ⟨rfl, ⟨hrow, hpg, by omega⟩, hbel, hz⟩)
      clear hrow hpg hbel hz hmk2 HI hc2
      go_wp2
      go_ret
      exact HR.out


theorem fresh_keep {w w' : World} {b n m : Nat} (h : FreshAt w b n m) (hs : w.heap.size ≤ w'.heap.size) (he : ∀ k, b ≤ k → k ≤ b + n → w'.heap[k]? = w.heap[k]?) : FreshAt w' b n m :=
  ⟨h.1.of_block (he b (Nat.le_refl _) (by omega)), fun j hj => (h.2.1 j hj).of_block (he _ (by omega) (by omega)), Nat.le_trans h.2.2 hs⟩

/-- What plan ends with: what comes, in a map of its ownT; the bytes that are left stand in blocks of its ownT. -/
def PlanRet (E : Nat → NE) (w : World) (e : Ending) (w' : World) : Prop :=
  ∃ (mb : Nat) (lv : Nat → Value) (R : Nat → Prop), e = .returned (.map (some mb)) ∧ w.heap.size ≤ mb ∧ mb < w'.heap.size ∧ Below w.heap.size w w' ∧
    (∀ n : Nat, n ≤ 1000000000000 → ∀ w3 : World, w3.heap[mb]? = w'.heap[mb]? → (Instr.lookup 155 (.map (some mb)) (.int .i64 (n : Int)) false).run Try.prog w3 = .ok ((E n).val (lv n)) w3) ∧
    (∀ k, R k → w.heap.size ≤ k ∧ k < w'.heap.size ∧ k ≠ mb) ∧
    (∀ n : Nat, ∃ a len cap, lv n = .slice a len cap ∧ Row w' a len (E n).left ∧ len ≤ cap ∧ cap ≤ maxLen ∧ (a = none → cap = 0) ∧ ∀ x, a = some x → R x.block)
def NE.zero : NE := ⟨0, 0, 0, []⟩
theorem zero_event (w : World) : (zeroValue 147).run Try.prog w = .ok (NE.zero.val (.slice none 0 0)) w := by kernel_rfl
theorem look_empty (mb : Nat) (n : Nat) (hn : n ≤ 1000000000000) (w : World) (h : w.heap[mb]? = some (.map #[] 0)) : (Instr.lookup 155 (.map (some mb)) (.int .i64 (n : Int)) false).run Try.prog w = .ok (NE.zero.val (.slice none 0 0)) w := by
  have K : Maps.Keyed Try.prog 3 := Maps.int_keyed Try.underlying3
  have hkey : keyOf Try.prog 3 (.int .i64 (n : Int)) = some (.int .i64 (n : Int)) := Maps.keyOf_int_mk Try.underlying3 (WalkArith.wf_i64 (by omega))
  have F : WideElems.Fit (H := Unit) Try.prog 3 (fun _ => none) #[] 0 := ⟨by simp, MapKept.stamped_empty 0, by simp⟩
  rcases Maps.fit_look false K Try.underlying155 (zero_event w) h F hkey with ⟨hrun, _⟩ | ⟨e0, _, he, _⟩
  · exact hrun
  · simp at he
set_option maxRecDepth 100000 in
set_option maxHeartbeats 800000 in
theorem plan_nil (w : World) : Calls Try.prog 73 #[.slice none 0 0] w (PlanRet (fun _ => NE.zero) w) := by
  have hmm : ∀ w, (Instr.makeMap 155 (some (.int .i64 0))).run Try.prog w = .ok (.map (some w.heap.size)) (w.alloc (.map #[] 0)) := fun w => by simp [Instr.makeMap, asInt, asIntOf]
  have hE : Hid (PlanRet (fun _ => NE.zero) w (.returned (.map (some w.heap.size))) (w.alloc (.map #[] 0))) := Lib.hid
    ⟨w.heap.size, fun _ => .slice none 0 0, fun _ => False, rfl, Nat.le_refl _, by simp, bel_alloc (Below.refl _ w) _, fun n hn w3 h3 => look_empty _ n hn w3 (h3.trans (MapKept.heap_alloc w _).1), fun _ h => h.elim,
      fun n => ⟨none, 0, 0, rfl, ⟨rfl, (fun x hx => by cases hx), (fun h => by omega)⟩, Nat.le_refl _, by unfold maxLen; omega, fun _ => rfl, fun x hx => by cases hx⟩⟩
  go_enter Try.func73, Try.ntmps73
  go_wp2_with fail
  go_loop [13] (fun i => i = .int .i64 0) (fun _ => 0)
  case atStart => rfl
  case round =>
    subst hrel
    go_wp2
    go_ret
    exact hE.out

end Go.Proofs.Ytbfmpcomjmcfjaa
