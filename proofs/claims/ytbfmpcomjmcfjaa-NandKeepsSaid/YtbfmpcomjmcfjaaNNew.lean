/- nand.New. -/
import Derived.Test.YtbfmpcomjmcfjaaNMade
namespace Go.Proofs.Ytbfmpcomjmcfjaa
open Go.RowKit Go.Deep

theorem info_chip : (Try.prog.info? 162).map (fun i => (i.zero, i.size, i.bytes)) = some (some (.agg #[.bool false, .slice none 0 0]), 2, 32) := by kernel_rfl
def arrCells (g0 g1 g2 g3 cb mb : Nat) : Array Value := #[.int .i64 (g0 : Int), .int .i64 (g1 : Int), .int .i64 (g2 : Int), .int .i64 (g3 : Int), .slice (some ⟨cb, 0, none⟩) (g0 + 1) (g0 + 1), .map (some mb), .int .i64 0, .bool false]
/-- What stands in memory when the chips' ownT blocks are still to be made. -/
def Begun (B g0 g1 g2 g3 : Nat) (E : Nat → NE) (s9 : Value) (wx : World) : Prop :=
  ∃ (pa cb mb : Nat) (lv : Nat → Value) (R : Nat → Prop), s9 = .pointer (some ⟨pa, 0, none⟩) ∧ (B ≤ pa ∧ pa < wx.heap.size) ∧ (B ≤ cb ∧ cb < wx.heap.size) ∧ (B ≤ mb ∧ mb < wx.heap.size) ∧ (pa ≠ cb ∧ pa ≠ mb ∧ cb ≠ mb) ∧
    (∀ k, R k → B ≤ k ∧ k < wx.heap.size ∧ k ≠ pa ∧ k ≠ cb ∧ k ≠ mb) ∧ wx.heap[pa]? = some (.cells (arrCells g0 g1 g2 g3 cb mb) 158 (0, 0)) ∧ wx.rowIs cb 162 ((g0 + 1) * 2) (chipCell (fun _ => 0) g1 0) ∧
    (∀ n : Nat, n ≤ 1000000000000 → ∀ w3 : World, w3.heap[mb]? = wx.heap[mb]? → (Instr.lookup 155 (.map (some mb)) (.int .i64 (n : Int)) false).run Try.prog w3 = .ok ((E n).val (lv n)) w3) ∧
    (∀ n : Nat, ∃ a len cap, lv n = .slice a len cap ∧ Row wx a len (E n).left ∧ len ≤ cap ∧ cap ≤ maxLen ∧ (a = none → cap = 0) ∧ ∀ x, a = some x → R x.block)
theorem made_chips (w : World) (n bb0 : Nat) (bb : Nat → Nat) : (w.alloc (.cells (madeCells #[.bool false, .slice none 0 0] (n * 2)) 162)).rowIs w.heap.size 162 (n * 2) (chipCell bb bb0 0) := by
  refine ⟨_, (MapKept.heap_alloc w _).1, size_madeCells _ _, fun i hi => ?_⟩
  simp only [madeCells, chipCell, Nat.not_lt_zero, if_false]
  rw [Array.getElem?_map, Array.getElem?_range, if_pos hi]
  simp only [Option.map_some, List.size_toArray, List.length_cons, List.length_nil, Nat.zero_add, Nat.reduceAdd]
  rcases (by omega : i % 2 = 0 ∨ i % 2 = 1) with e | e <;> rw [e] <;> rfl
theorem plan_open {E : Nat → NE} {w w' : World} {e : Ending} (h : PlanRet E w e w') : ∃ mb, e = .returned (.map (some mb)) ∧ PlanRet E w (.returned (.map (some mb))) w' ∧ Below w.heap.size w w' := by
  obtain ⟨mb, lv, R, rfl, r⟩ := h
  exact ⟨mb, rfl, ⟨mb, lv, R, rfl, r⟩, r.2.2.1⟩
/-- The chips' row was made first. -/
theorem begun_a {W V w5 : World} {B g0 g1 g2 g3 : Nat} {E : Nat → NE} {mb : Nat} (hB : B ≤ W.heap.size) (hV : V = W.alloc (.cells (madeCells #[.bool false, .slice none 0 0] ((g0 + 1) * 2)) 162)) (hp : PlanRet E V (.returned (.map (some mb))) w5) :
    Begun B g0 g1 g2 g3 E (.pointer (some ⟨w5.heap.size, 0, none⟩)) (w5.alloc (.cells (arrCells g0 g1 g2 g3 W.heap.size mb) 158)) ∧ Below W.heap.size W (w5.alloc (.cells (arrCells g0 g1 g2 g3 W.heap.size mb) 158)) := by
  obtain ⟨mb', lv, R, e, h1, h2, h3, h4, h5, h6⟩ := hp
  cases e
  have hz : V.heap.size = W.heap.size + 1 := by rw [hV]; simp
  have hr := made_chips W (g0 + 1) g1 (fun _ => 0)
  rw [← hV] at hr
  have hz5 := h3.size
  have hb5 : Below V.heap.size V (w5.alloc (.cells (arrCells g0 g1 g2 g3 W.heap.size mb) 158)) := bel_alloc h3 _
  have hsz : (w5.alloc (.cells (arrCells g0 g1 g2 g3 W.heap.size mb) 158)).heap.size = w5.heap.size + 1 := by simp
  refine ⟨⟨w5.heap.size, W.heap.size, mb, lv, R, rfl, ⟨by omega, by omega⟩, ⟨hB, by omega⟩, ⟨by omega, by omega⟩, ⟨by omega, by omega, by omega⟩, fun k hk => by have := h5 k hk; omega, (MapKept.heap_alloc w5 _).1, hr.of_block (hb5.block _ (by omega)), fun n hn w3 h => h4 n hn w3 (h.trans (heap_alloc_old h2 _)), fun n => ?_⟩, ?_⟩
  · obtain ⟨a, len, cap, k1, k2, k3, k4, k5, k6⟩ := h6 n
    exact ⟨a, len, cap, k1, row_alloc k2 _, k3, k4, k5, k6⟩
  · have : Below W.heap.size W V := by rw [hV]; exact bel_alloc (Below.refl _ W) _
    exact this.trans (hb5.mono (by omega))
/-- The map was made first. -/
theorem begun_b {W w5 V : World} {B g0 g1 g2 g3 : Nat} {E : Nat → NE} {mb : Nat} (hB : B ≤ W.heap.size) (hp : PlanRet E W (.returned (.map (some mb))) w5) (hV : V = w5.alloc (.cells (madeCells #[.bool false, .slice none 0 0] ((g0 + 1) * 2)) 162)) :
    Begun B g0 g1 g2 g3 E (.pointer (some ⟨V.heap.size, 0, none⟩)) (V.alloc (.cells (arrCells g0 g1 g2 g3 w5.heap.size mb) 158)) ∧ Below W.heap.size W (V.alloc (.cells (arrCells g0 g1 g2 g3 w5.heap.size mb) 158)) := by
  obtain ⟨mb', lv, R, e, h1, h2, h3, h4, h5, h6⟩ := hp
  cases e
  have hz : V.heap.size = w5.heap.size + 1 := by rw [hV]; simp
  have hr := made_chips w5 (g0 + 1) g1 (fun _ => 0)
  rw [← hV] at hr
  have hz5 := h3.size
  have hVb : Below w5.heap.size w5 V := by rw [hV]; exact bel_alloc (Below.refl _ w5) _
  have hb5 : Below w5.heap.size w5 (V.alloc (.cells (arrCells g0 g1 g2 g3 w5.heap.size mb) 158)) := bel_alloc hVb _
  have hsz : (V.alloc (.cells (arrCells g0 g1 g2 g3 w5.heap.size mb) 158)).heap.size = V.heap.size + 1 := by simp
  refine ⟨⟨V.heap.size, w5.heap.size, mb, lv, R, rfl, ⟨by omega, by omega⟩, ⟨by omega, by omega⟩, ⟨by omega, by omega⟩, ⟨by omega, by omega, by omega⟩, fun k hk => by have := h5 k hk; omega, (MapKept.heap_alloc V _).1, hr.of_block (heap_alloc_old (by omega) _), fun n hn w3 h => h4 n hn w3 (h.trans (hb5.block _ h2)), fun n => ?_⟩, h3.trans (hb5.mono h3.size)⟩
  obtain ⟨a, len, cap, k1, k2, k3, k4, k5, k6⟩ := h6 n
  exact ⟨a, len, cap, k1, row_keep k2 hb5 (Nat.le_refl _), k3, k4, k5, k6⟩

/-- The first k chips have their blocks. -/
structure MadeTo (wc : World) (cb g0 g1 g2 k : Nat) (bb : Nat → Nat) (wr : World) : Prop where
  kept : Kept (fun b => b = cb) wc wr
  row : wr.rowIs cb 162 ((g0 + 1) * 2) (chipCell bb g1 k)
  at_ : ∀ c, c < k → wc.heap.size ≤ bb c ∧ FreshAt wr (bb c) g1 g2
  ord : ∀ c c', c < c' → c' < k → bb c + 1 + g1 ≤ bb c'
theorem madeTo_zero {wc : World} {cb g0 g1 g2 : Nat} (h : wc.rowIs cb 162 ((g0 + 1) * 2) (chipCell (fun _ => 0) g1 0)) : MadeTo wc cb g0 g1 g2 0 (fun _ => 0) wc :=
  ⟨Kept.refl _ _, h, fun c hc => by omega, fun c c' _ h => by omega⟩
theorem madeTo_step {wc : World} {cb g0 g1 g2 k : Nat} {bb : Nat → Nat} {wr wd w5 : World} (h : MadeTo wc cb g0 g1 g2 k bb wr) (hcb : cb < wc.heap.size) (hdb : Below wr.heap.size wr wd) (hf : FreshAt w5 (wr.heap.size + 1) g1 g2) (hb : Below wd.heap.size wd w5) (w6 : World) (h6 : w6 = w5.setCell ⟨cb, k * 2 + 1, none⟩ (.slice (some ⟨wr.heap.size + 1, 0, none⟩) g1 g1)) :
    MadeTo wc cb g0 g1 g2 (k + 1) (fun c => if c = k then wr.heap.size + 1 else bb c) w6 := by
  subst h6
  have hz := h.kept.size
  have hb5 : Below wr.heap.size wr w5 := hdb.trans (hb.mono hdb.size)
  have hr5 := h.row.of_block (hb5.block cb (by omega))
  have hoth : ∀ j, j ≠ cb → (w5.setCell ⟨cb, k * 2 + 1, none⟩ (.slice (some ⟨wr.heap.size + 1, 0, none⟩) g1 g1)).heap[j]? = w5.heap[j]? := fun j hj => heap_setCell_other w5 _ j _ hj
  have hsz : (w5.setCell ⟨cb, k * 2 + 1, none⟩ (.slice (some ⟨wr.heap.size + 1, 0, none⟩) g1 g1)).heap.size = w5.heap.size := by simp
  refine ⟨(h.kept.trans (Kept.of_below (F := fun b => b = cb) hb5) (fun _ _ h => h)).set _ _ (.inl rfl), (hr5.set (k * 2 + 1) _).congr fun idx _ => ?_, fun c hc => ?_, fun c c' h1 h2 => ?_⟩
  · unfold chipCell
    by_cases e : idx = k * 2 + 1
    · subst e
      rw [if_pos rfl, if_neg (by omega), if_pos (by omega), show (k * 2 + 1) / 2 = k by omega]
      simp
    · rw [if_neg e]
      by_cases h0 : idx % 2 = 0
      · rw [if_pos h0, if_pos h0]
      · rw [if_neg h0, if_neg h0]
        by_cases h1 : idx / 2 < k
        · rw [if_pos h1, if_pos (by omega)]
          simp [show ¬ idx / 2 = k by omega]
        · rw [if_neg h1, if_neg (by omega)]
  · by_cases e : c = k
    · rw [if_pos e]
      exact ⟨by omega, fresh_keep hf (by rw [hsz]; exact Nat.le_refl _) fun j hj _ => hoth j (by omega)⟩
    · rw [if_neg e]
      obtain ⟨a1, a2⟩ := h.at_ c (by omega)
      have := a2.2.2
      exact ⟨a1, fresh_keep a2 (by rw [hsz]; exact hb5.size) fun j hj hj2 => (hoth j (by omega)).trans (hb5.block j (by omega))⟩
  · by_cases e : c' = k
    · rw [if_neg (by omega), if_pos e]
      have := (h.at_ c (by omega)).2.2.2
      omega
    · rw [if_neg (by omega), if_neg e]
      exact h.ord c c' h1 (by omega)
/-- What New ends with, where it answers chips. -/
def NewRet (g0 g1 g2 g3 : Nat) (E : Nat → NE) (w : World) (e : Ending) (w' : World) : Prop :=
  ∃ tag L, e = .returned (.tuple #[.pointer (some ⟨L.pa, 0, none⟩), .int .i64 0]) ∧ NA w.heap.size tag L (NS.fresh g0 g1 g2 g3 E) w' ∧ Below w.heap.size w w'

set_option maxRecDepth 100000 in
set_option maxHeartbeats 3200000 in
theorem new_ok (g0 g1 g2 g3 : Nat) (ea : Option Addr) (en ec : Nat) (E : Nat → NE) (w : World) (hg : GoodG g0 g1 g2 g3) (hen : en ≤ 200)
    (HP : Hid (∀ w', Below w.heap.size w w' → Calls Try.prog 73 #[.slice ea en ec] w' (PlanRet E w'))) :
    Calls Try.prog 20 #[.agg #[.int .i64 (g0 : Int), .int .i64 (g1 : Int), .int .i64 (g2 : Int), .int .i64 (g3 : Int)], .slice none 0 0, .slice ea en ec] w (NewRet g0 g1 g2 g3 E w) := by
  obtain ⟨i1, hi1, hz1, hs1, hb1⟩ := info_parts info_chip
  have hmk1 : ∀ w, (Instr.makeSlice 154 (.int .i64 ((g0 + 1 : Nat) : Int)) (.int .i64 ((g0 + 1 : Nat) : Int))).run Try.prog w = _ := fun w => run_make w 154 162 i1 _ Try.underlying154 hi1 hz1 .i64 .i64 ((g0 + 1 : Nat) : Int) ((g0 + 1 : Nat) : Int) (by omega) (Int.le_refl _) (by rw [hb1]; have := hg.2.1; omega) (by have := hg.2.1; omega)
  simp only [Int.toNat_natCast, hs1, Value.cells] at hmk1
  rw [show ((g0 + 1 : Nat) : Int) = (g0 : Int) + 1 by omega] at hmk1
  have hb0 : Below w.heap.size w (w.alloc (.cells #[.int .i64 (g0 : Int), .int .i64 (g1 : Int), .int .i64 (g2 : Int), .int .i64 (g3 : Int)] 32)) := bel_alloc (Below.refl _ w) _
  have hw0 := heap_alloc_new w (.cells #[.int .i64 (g0 : Int), .int .i64 (g1 : Int), .int .i64 (g2 : Int), .int .i64 (g3 : Int)] 32)
  have HC := Lib.hid (check_good (g0 : Int) g1 g2 g3 (w.alloc (.cells #[.int .i64 (g0 : Int), .int .i64 (g1 : Int), .int .i64 (g2 : Int), .int .i64 (g3 : Int)] 32)) hg)
  have d1 : decide (200 < (en : Int)) = false := by simp; omega
  have HMK := Lib.hid hmk1
  have HB0 := Lib.hid hb0
  have HW0 := Lib.hid hw0
  clear hmk1 hb0 hw0 hen
  go_enter Try.func20, Try.ntmps20
  go_wp2_with fail
  ((with_reducible refine HC.out.mono ?_))
  rintro e w1 ⟨rfl, hb1'⟩
  have HB1 := Lib.hid (HB0.out.trans (hb1'.mono HB0.out.size))
  have HW1 := Lib.hid ((hb1'.block w.heap.size (by simp)).trans HW0.out)
  clear hb1' HC HB0 HW0
  go_upto_region 6 with fail
  go_cut [9] (fun s9 wx => Begun (w.heap.size + 1) g0 g1 g2 g3 E s9 wx ∧ Below w1.heap.size w1 wx)
  case first =>
    obtain ⟨c0, c1, c2, c3⟩ := four_cells HW1.out
    have hmk1 := HMK.out
    have hwr : IntKind.i64.wrap ((g0 : Int) + 1) = (g0 : Int) + 1 := by rw [IntKind.wrap_i64]; have := hg.2.1; omega
    have HZ : Hid (w.heap.size + 1 ≤ w1.heap.size) := Lib.hid (by have h := (Array.getElem?_eq_some_iff.1 HW1.out).1; omega)
    have hg0 : (g0 : Int) ≤ 16 := hg.2.1
    have HCL : Hid (∀ w', Below w1.heap.size w1 w' → w'.cell? ⟨w.heap.size, 0, none⟩ = some (.int .i64 (g0 : Int)) ∧ w'.cell? ⟨w.heap.size, 1, none⟩ = some (.int .i64 (g1 : Int)) ∧ w'.cell? ⟨w.heap.size, 2, none⟩ = some (.int .i64 (g2 : Int)) ∧ w'.cell? ⟨w.heap.size, 3, none⟩ = some (.int .i64 (g3 : Int))) := Lib.hid fun w' hb =>
      four_cells ((hb.block w.heap.size (by have := HZ.out; omega)).trans HW1.out)
    clear c0 c1 c2 c3
    have hbd : Below w1.heap.size w1 w1.drew := (Below.refl _ w1).drew
    have hbc : Below w1.heap.size w1 (w1.alloc (.cells (madeCells #[.bool false, .slice none 0 0] ((g0 + 1) * 2)) 162)).drew := (bel_alloc (Below.refl _ w1) _).drew
    go_region_held3 (fun w' => w'.cell? ⟨w.heap.size, 0, none⟩ = some (.int .i64 (g0 : Int)) ∧ w'.cell? ⟨w.heap.size, 1, none⟩ = some (.int .i64 (g1 : Int)) ∧ w'.cell? ⟨w.heap.size, 2, none⟩ = some (.int .i64 (g2 : Int)) ∧ w'.cell? ⟨w.heap.size, 3, none⟩ = some (.int .i64 (g3 : Int)))
      (first | exact HCL.out _ hbd | exact HCL.out _ hbc | exact hS5 | exact HCL.out _ (bel_alloc hb5 _) | exact HCL.out _ (bel_alloc (bel_alloc hb5 _) _))
      (first
        | (go_simp; go_at_call 73; ((with_reducible refine (HP.out _ ?_).mono ?_)); (first | exact HB1.out.trans (hbd.mono HB1.out.size) | exact HB1.out.trans (hbc.mono HB1.out.size)); (intro e w5 h5; obtain ⟨mb, rfl, h5', hb5'⟩ := plan_open h5; have hb5 : Below w1.heap.size w1 w5 := (by first | exact hbd.trans (hb5'.mono hbd.size) | exact hbc.trans (hb5'.mono hbc.size)); have hS5 := HCL.out _ hb5; have HP5 := Lib.hid h5'; clear h5 h5' hb5')))
    all_goals
      go_wp2_with fail
      go_meet
      first
        | (have hq := begun_a (W := w1.drew) (g0 := g0) (g1 := g1) (g2 := g2) (g3 := g3) HZ.out rfl HP5.out; exact ⟨hq.1, hbd.trans (hq.2.mono hbd.size)⟩)
        | (have hq := begun_b (W := w1.drew) (g0 := g0) (g1 := g1) (g2 := g2) (g3 := g3) HZ.out HP5.out rfl; rw [show (w5.alloc (.cells (madeCells #[.bool false, .slice none 0 0] ((g0 + 1) * 2)) 162)).heap.size = w5.heap.size + 1 by simp] at hq; exact ⟨hq.1, hbd.trans (hq.2.mono hbd.size)⟩)
  case rest =>
  obtain ⟨⟨pa, cb, mb, lv, R, rfl, q1, q2, q3, ⟨q4, q5, q6⟩, q7, q8, q9, q10, q11⟩, hbc⟩ := hcut
  have HI0 := Lib.hid (madeTo_zero (g2 := g2) q9)
  have HPA := Lib.hid q8
  have HAP := Lib.hid (show Apart pa cb mb R (fun _ => 0) 0 0 w.heap.size wc.heap.size → True from fun _ => trivial)
  have HQ := Lib.hid (And.intro q1 (And.intro q2 (And.intro q3 (And.intro q4 (And.intro q5 (And.intro q6 (And.intro q7 (And.intro q10 q11))))))))
  have HBX : Hid (wc.heap[w.heap.size]? = some (.cells #[.int .i64 (g0 : Int), .int .i64 (g1 : Int), .int .i64 (g2 : Int), .int .i64 (g3 : Int)] 32 (0, 0))) := Lib.hid ((hbc.block _ (Array.getElem?_eq_some_iff.1 HW1.out).1).trans HW1.out)
  have HBC := Lib.hid (HB1.out.trans (hbc.mono HB1.out.size))
  have c4 : wc.cell? ⟨pa, 4, none⟩ = some (.slice (some ⟨cb, 0, none⟩) (g0 + 1) (g0 + 1)) := by simp [World.cell?, q8, arrCells]
  have hg1 : (g1 : Int) ≤ 64 := hg.2.2.2.1
  have hg2 : (g2 : Int) ≤ 32 := hg.2.2.2.2.2.1
  have hg0 : (g0 : Int) ≤ 16 := hg.2.1
  have HGG := Lib.hid hg
  clear HAP q1 q2 q3 q4 q5 q6 q7 q8 q9 q10 q11 hbc HW1 HB1 HMK hg
  go_wp2_with fail
  go_loopw [36] (fun i wr => ∃ (k : Nat) (bb : Nat → Nat), k ≤ g0 + 1 ∧ i = .int .i64 (k : Int) ∧ MadeTo wc cb g0 g1 g2 k bb wr) (fun i _ => g0 + 1 - (intOf i).toNat)
  case atStart => exact ⟨0, fun _ => 0, Nat.zero_le _, rfl, HI0.out⟩
  case round =>
    obtain ⟨k, bb, hk, rfl, hm⟩ := hrel
    obtain ⟨wo, hwo⟩ : ∃ wo : World, wo = wr := ⟨_, rfl⟩
    subst hwo
    by_cases hlt : k < g0 + 1
    · have d2 : decide ((k : Int) < (g0 : Int) + 1) = true := by simp; omega
      obtain ⟨p1, p2, p3, p4, p5, p6, p7, _⟩ := HQ.out
      have hzo := hm.kept.size
      have hpaw := (hm.kept.block pa p1.2 p4).trans HPA.out
      have hbxw := (hm.kept.block w.heap.size (by omega) (by show ¬ w.heap.size = cb; omega)).trans HBX.out
      have n1 : ¬ cb = pa := fun e => p4 e.symm
      have n2 : ¬ cb = w.heap.size := by omega
      have HCL : Hid (∀ w', Below wo.heap.size wo w' → w'.cell? ⟨pa, 4, none⟩ = some (.slice (some ⟨cb, 0, none⟩) (g0 + 1) (g0 + 1)) ∧ w'.cell? ⟨w.heap.size, 0, none⟩ = some (.int .i64 (g0 : Int)) ∧ w'.cell? ⟨w.heap.size, 1, none⟩ = some (.int .i64 (g1 : Int)) ∧ w'.cell? ⟨w.heap.size, 2, none⟩ = some (.int .i64 (g2 : Int)) ∧ w'.cell? ⟨w.heap.size, 3, none⟩ = some (.int .i64 (g3 : Int))) := Lib.hid fun w' hb =>
        ⟨by have := (hb.block pa (by omega)).trans hpaw; simp [World.cell?, this, arrCells], four_cells ((hb.block w.heap.size (by omega)).trans hbxw)⟩
      have hbd : Below wo.heap.size wo wo.drew := (Below.refl _ wo).drew
      have HM := Lib.hid hm
      have HCR : Hid (∀ w', Below wo.heap.size wo w' → w'.cell? ⟨cb, k * 2 + 1, none⟩ = some (chipCell bb g1 k (k * 2 + 1)) ∧ w'.frozen? ⟨cb, k * 2 + 1, none⟩ = false) := Lib.hid fun w' hb => by
        have hr := hm.row.of_block (hb.block cb (by omega))
        exact ⟨hr.cell (by omega), hr.frozen _⟩
      have HFR := Lib.hid (fun w' => fresh_any (g0 : Int) (g3 : Int) g1 g2 w' (by omega) (by omega))
      have HLT := Lib.hid (And.intro hlt p2.2)
      have d3 : k < g0 + 1 := hlt
      have d4 : (k : Int) < (g0 : Int) + 1 := by omega
      have d5 : (0 : Int) ≤ (k : Int) := by omega
      clear p1 p2 p3 p4 p5 p6 p7 hzo hpaw hbxw hm hlt c4
      go_upto_region 10 with fail
      go_region_held3 (fun w' => w'.cell? ⟨pa, 4, none⟩ = some (.slice (some ⟨cb, 0, none⟩) (g0 + 1) (g0 + 1)) ∧ w'.cell? ⟨w.heap.size, 0, none⟩ = some (.int .i64 (g0 : Int)) ∧ w'.cell? ⟨w.heap.size, 1, none⟩ = some (.int .i64 (g1 : Int)) ∧ w'.cell? ⟨w.heap.size, 2, none⟩ = some (.int .i64 (g2 : Int)) ∧ w'.cell? ⟨w.heap.size, 3, none⟩ = some (.int .i64 (g3 : Int)))
        (first | exact HCL.out _ hbd | exact hS5 | go_keep)
        (first
          | (go_simp; go_at_call 74; ((with_reducible refine (HFR.out _).mono ?_)); (intro e w5 h5; obtain ⟨rfl, hf5, hb5', hz5⟩ := h5; have hb5 : Below wo.heap.size wo w5 := hbd.trans (hb5'.mono hbd.size); have hS5 := HCL.out _ hb5; obtain ⟨hcr, hfr⟩ := HCR.out _ hb5; have HF5 := Lib.hid (And.intro hf5 hb5'); clear hf5 hb5' hz5)))
      all_goals
        go_wp2_with fail
        go_roundw
        case rel => exact ⟨k + 1, _, by omega, by go_num, madeTo_step HM.out HLT.out.2 hbd HF5.out.1 HF5.out.2 _ rfl⟩
        case measure => simp [intOf]; omega
    · obtain rfl : k = g0 + 1 := by omega
      have HN : Hid (∃ tag L, L.pa = pa ∧ NA w.heap.size tag L (NS.fresh g0 g1 g2 g3 E) wo) := Lib.hid (by
        obtain ⟨p1, p2, p3, p4, p5, p6, p7, p8, p9⟩ := HQ.out
        obtain ⟨x1, x2, x3, x4, x5, x6, x7, x8, x9⟩ := HGG.out
        have hkt := hm.kept
        refine na_made (pa := pa) (cb := cb) (mb := mb) (R := R) (bb := bb) (z0 := wc.heap.size) (lv := lv) ⟨⟨by omega, p1.2⟩, ⟨by omega, p2.2⟩, ⟨by omega, p3.2⟩, ⟨p4, p5, p6⟩, fun k hk => by have := p7 k hk; omega, fun c hc => (hm.at_ c (by omega)).1, fun c c' h1 h2 => hm.ord c c' h1 (by omega)⟩ hkt.size ⟨by show 3 ≤ g0; omega, by show g0 ≤ 16; omega, by show 16 ≤ g1; omega, by show g1 ≤ 64; omega, by show 4 ≤ g2; omega, by show g2 ≤ 32; omega, by show 256 ≤ g3; omega, by show g3 ≤ 1024; omega⟩
          ((hkt.block pa p1.2 p4).trans HPA.out) hm.row (fun c hc => (hm.at_ c (by omega)).2) (fun n hn w3 h3 => p8 n hn w3 (h3.trans (hkt.block mb p3.2 (fun e => p6 e.symm)))) (fun n => ?_)
        obtain ⟨a, len, cap, k1, k2, k3, k4, k5, k6⟩ := p9 n
        exact ⟨a, len, cap, k1, row_same k2 (fun _ x hx => hkt.block _ (p7 _ (k6 x hx)).2.1 (p7 _ (k6 x hx)).2.2.2.1), k3, k4, k5, k6⟩)
      have HB : Hid (Below w.heap.size w wo) := Lib.hid (HBC.out.trans (hm.kept.toBelow HBC.out.size (fun x hx => by have := HQ.out.2.1.1; omega)))
      have d2 : decide ((g0 : Int) + 1 < (g0 : Int) + 1) = false := by simp
      clear hm c4 HGG
      go_wp2_with fail
      go_loop [51] (fun i => i = .int .i64 0) (fun _ => 0)
      case atStart => rfl
      case round =>
        subst hrel
        go_wp2
        go_ret2
        obtain ⟨tag, L, hl, hn⟩ := HN.out
        subst hl
        exact ⟨tag, L, rfl, hn, HB.out⟩

end Go.Proofs.Ytbfmpcomjmcfjaa
