/- Is it a set of a shape? -/
import Derived.Test.YtdljihemnfpkaaaMemFirst
import Derived.Test.YtdljihemnfpkaaaGeoRef
import Derived.BigQuiet
namespace Go.Proofs.Ytdljihemnfpkaaa
open Go.RowKit Go.Deep

/-- A set's box and a shape's behind it. -/
def SG (W : World) (b : Nat) (sq : Nat) (a : Option Addr) (n c : Nat) (sp de dn : Int) (cs bl pg sz : Int) (x : World) : Prop :=
  x.heap[b]? = some (.cells #[.int .u32 (sq : Int), .slice a n c, .int .i64 sp, .int .i64 de, .int .i64 dn] 31 (0, 0)) ∧
    x.heap[b + 1]? = some (.cells #[.int .i64 cs, .int .i64 bl, .int .i64 pg, .int .i64 sz] 27 (0, 0)) ∧ Below W.heap.size W x
section
variable {W x y : World} {b sq n c : Nat} {a : Option Addr} {sp de dn cs bl pg sz : Int}
theorem SG.step (h : SG W b sq a n c sp de dn cs bl pg sz x) (hb : Below x.heap.size x y) : SG W b sq a n c sp de dn cs bl pg sz y := by
  obtain ⟨h0, h1, h2⟩ := h
  exact ⟨(hb.block _ (Array.getElem?_eq_some_iff.1 h0).1).trans h0, (hb.block _ (Array.getElem?_eq_some_iff.1 h1).1).trans h1, bel_trans h2 hb⟩
theorem SG.set (h : SG W b sq a n c sp de dn cs bl pg sz x) {q : Nat} (hq : b + 1 < q) (hW : W.heap.size ≤ q) (o : Nat) (v : Value) : SG W b sq a n c sp de dn cs bl pg sz (x.setCell ⟨q, o, none⟩ v) := by
  obtain ⟨h0, h1, h2⟩ := h
  exact ⟨(heap_setCell_other _ _ b _ (by simp only; omega)).trans h0, (heap_setCell_other _ _ (b + 1) _ (by simp only; omega)).trans h1, h2.setCell (p := ⟨q, o, none⟩) hW _⟩
theorem SG.low (h : SG W b sq a n c sp de dn cs bl pg sz x) {B : Nat} (hB : b + 1 < B) (hW : W.heap.size ≤ B) (hb : Below B x y) : SG W b sq a n c sp de dn cs bl pg sz y := by
  obtain ⟨h0, h1, h2⟩ := h
  exact ⟨(hb.block _ (by omega)).trans h0, (hb.block _ (by omega)).trans h1, h2.trans (hb.mono hW)⟩
theorem SG.cells (h : SG W b sq a n c sp de dn cs bl pg sz x) :
    x.cell? ⟨b, 0, none⟩ = some (.int .u32 (sq : Int)) ∧ x.cell? ⟨b, 1, none⟩ = some (.slice a n c) ∧ x.cell? ⟨b, 2, none⟩ = some (.int .i64 sp) ∧ x.cell? ⟨b, 3, none⟩ = some (.int .i64 de) ∧ x.cell? ⟨b, 4, none⟩ = some (.int .i64 dn) ∧
      x.cell? ⟨b + 1, 0, none⟩ = some (.int .i64 cs) ∧ x.cell? ⟨b + 1, 1, none⟩ = some (.int .i64 bl) ∧ x.cell? ⟨b + 1, 2, none⟩ = some (.int .i64 pg) ∧ x.cell? ⟨b + 1, 3, none⟩ = some (.int .i64 sz) := by
  obtain ⟨h0, h1, _⟩ := h
  obtain ⟨z0, z1, z2, z3, z4⟩ := five_at h0
  obtain ⟨y0, y1, y2, y3⟩ := mfour_at h1
  exact ⟨z0, z1, z2, z3, z4, y0, y1, y2, y3⟩
end
theorem sg_new (w : World) (sq : Nat) (a : Option Addr) (n c : Nat) (sp de dn cs bl pg sz : Int) :
    SG w w.heap.size sq a n c sp de dn cs bl pg sz ((w.alloc (.cells #[.int .u32 (sq : Int), .slice a n c, .int .i64 sp, .int .i64 de, .int .i64 dn] 31)).alloc (.cells #[.int .i64 cs, .int .i64 bl, .int .i64 pg, .int .i64 sz] 27)) := by
  refine ⟨?_, ?_, bel_alloc (bel_alloc (Below.refl _ w) _) _⟩
  · rw [heap_alloc_oldm (by simp)]; exact heap_alloc_new w _
  · have := heap_alloc_new (w.alloc (.cells #[.int .u32 (sq : Int), .slice a n c, .int .i64 sp, .int .i64 de, .int .i64 dn] 31)) (.cells #[.int .i64 cs, .int .i64 bl, .int .i64 pg, .int .i64 sz] 27)
    simpa using this
section
variable (sq : Nat) (a : Option Addr) (n c : Nat) (sp de dn : Int) (cs : Nat) (bl pg sz : Int) (w : World)
set_option maxRecDepth 100000 in
theorem deadRight_any (z : Bool) (hz : z = decide (de = 255 ∨ (0 ≤ de ∧ de < (cs : Int)))) : Calls Try.prog 27 #[.agg #[.int .u32 (sq : Int), .slice a n c, .int .i64 sp, .int .i64 de, .int .i64 dn], .agg #[.int .i64 (cs : Int), .int .i64 bl, .int .i64 pg, .int .i64 sz]] w fun e w' => e = .returned (.bool z) ∧ Below w.heap.size w w' := by
  have HS := Lib.hid (sg_new w sq a n c sp de dn cs bl pg sz)
  have HF := Lib.hid fun x : World => full_any sq a n c sp de dn x
  have HZ := Lib.hid hz
  clear hz
  go_enter Try.func27, Try.ntmps27
  go_upto_region 1 with fail
  obtain ⟨w1, hw1⟩ : ∃ x, x = (w.alloc (.cells #[.int .u32 (sq : Int), .slice a n c, .int .i64 sp, .int .i64 de, .int .i64 dn] 31)).alloc (.cells #[.int .i64 (cs : Int), .int .i64 bl, .int .i64 pg, .int .i64 sz] 27) := ⟨_, rfl⟩
  obtain ⟨b, hb⟩ : ∃ x, x = w.heap.size := ⟨_, rfl⟩
  rw [← hw1, ← hb] at HS
  rw [← hw1, ← hb]
  clear hw1 hb
  obtain ⟨z0, z1, z2, z3, z4, y0, y1, y2, y3⟩ := HS.out.cells
  go_wp2_with fail
  ((with_reducible refine (HF.out _).mono ?_))
  rintro e w2 ⟨rfl, hb2⟩
  have HS2 := Lib.hid (HS.out.step hb2)
  clear hb2 z0 z1 z2 z3 z4 y0 y1 y2 y3
  obtain ⟨z0, z1, z2, z3, z4, y0, y1, y2, y3⟩ := HS2.out.cells
  by_cases h1 : de = 255
  · have q1 : (de == 255) = true := by simpa using h1
    have E := Lib.hid (HZ.out.trans (show _ = true by simp [h1]))
    clear h1
    go_wp2
    go_ret
    exact ⟨by rw [E.out]; rfl, HS2.out.2.2⟩
  · have q1 : (de == 255) = false := by simpa using h1
    by_cases h2 : 0 ≤ de
    · have q2 : decide (0 ≤ de) = true := by simpa using h2
      have E := Lib.hid (HZ.out.trans (show _ = decide (de < (cs : Int)) by simp [h1, h2]))
      clear h1 h2
      go_wp2
      go_ret
      exact ⟨by rw [E.out]; rfl, HS2.out.2.2⟩
    · have q2 : decide (0 ≤ de) = false := by simpa using h2
      have E := Lib.hid (HZ.out.trans (show _ = false by simp [h1, h2]))
      clear h1 h2
      go_wp2
      go_ret
      exact ⟨by rw [E.out]; rfl, HS2.out.2.2⟩
set_option maxRecDepth 100000 in
theorem doneRight_any (z : Bool) (hz : z = decide ((0 ≤ dn ∧ dn ≤ bl - 5) ∧ (dn = 0 ∨ (de ≠ 255 ∧ sp ≠ 255)))) (hb0 : 0 ≤ bl) (hb1 : bl ≤ 1000) : Calls Try.prog 28 #[.agg #[.int .u32 (sq : Int), .slice a n c, .int .i64 sp, .int .i64 de, .int .i64 dn], .agg #[.int .i64 (cs : Int), .int .i64 bl, .int .i64 pg, .int .i64 sz]] w fun e w' => e = .returned (.bool z) ∧ Below w.heap.size w w' := by
  have HS := Lib.hid (sg_new w sq a n c sp de dn cs bl pg sz)
  have HF := Lib.hid fun x : World => full_any sq a n c sp de dn x
  have HV := Lib.hid fun x : World => virtual_any (cs : Int) bl pg sz x hb0 hb1
  have HZ := Lib.hid hz
  clear hz hb0 hb1
  go_enter Try.func28, Try.ntmps28
  go_upto_region 1 with fail
  obtain ⟨w1, hw1⟩ : ∃ x, x = (w.alloc (.cells #[.int .u32 (sq : Int), .slice a n c, .int .i64 sp, .int .i64 de, .int .i64 dn] 31)).alloc (.cells #[.int .i64 (cs : Int), .int .i64 bl, .int .i64 pg, .int .i64 sz] 27) := ⟨_, rfl⟩
  obtain ⟨b, hb⟩ : ∃ x, x = w.heap.size := ⟨_, rfl⟩
  rw [← hw1, ← hb] at HS
  rw [← hw1, ← hb]
  clear hw1 hb
  obtain ⟨z0, z1, z2, z3, z4, y0, y1, y2, y3⟩ := HS.out.cells
  by_cases h0 : dn < 0
  · have q0 : decide (dn < 0) = true := by simpa using h0
    have E := Lib.hid (HZ.out.trans (show _ = false by simp; omega))
    clear h0
    go_wp2_with fail
    go_quiet (fail)
    go_wp2
    go_ret
    exact ⟨by rw [E.out]; rfl, HS.out.2.2.trans ((mbel_drewN w1 nq).mono HS.out.2.2.size)⟩
  · have q0 : decide (dn < 0) = false := by simpa using h0
    have HS1 : Hid (SG w b sq a n c sp de dn (cs : Int) bl pg sz w1.drew) := Lib.hid (HS.out.step (Below.refl _ _).drew)
    have hS0 : w1.drew.cell? ⟨b, 4, none⟩ = some (.int .i64 dn) ∧ w1.drew.cell? ⟨b + 1, 0, none⟩ = some (.int .i64 (cs : Int)) ∧ w1.drew.cell? ⟨b + 1, 1, none⟩ = some (.int .i64 bl) ∧ w1.drew.cell? ⟨b + 1, 2, none⟩ = some (.int .i64 pg) ∧ w1.drew.cell? ⟨b + 1, 3, none⟩ = some (.int .i64 sz) := ⟨z4, y0, y1, y2, y3⟩
    clear z0 z1 z2 z3 z4 y0 y1 y2 y3
    by_cases h5 : bl - 5 < dn
    · have q5 : decide (bl - 5 < dn) = true := by simpa using h5
      have E := Lib.hid (HZ.out.trans (show _ = false by simp; omega))
      clear h5 h0
      go_wp2_with fail
      go_region_held3 (fun x => x.cell? ⟨b, 4, none⟩ = some (.int .i64 dn) ∧ x.cell? ⟨b + 1, 0, none⟩ = some (.int .i64 (cs : Int)) ∧ x.cell? ⟨b + 1, 1, none⟩ = some (.int .i64 bl) ∧ x.cell? ⟨b + 1, 2, none⟩ = some (.int .i64 pg) ∧ x.cell? ⟨b + 1, 3, none⟩ = some (.int .i64 sz))
        (first | with_reducible exact hS0 | with_reducible exact hSx | go_keep)
        ((go_simp; go_at_call 51; ((with_reducible refine (HV.out _).mono ?_)); (intro e w6 hr; obtain ⟨rfl, hb6⟩ := hr; have HS2 := Lib.hid (HS1.out.step hb6); obtain ⟨z0, z1, z2, z3, z4, y0, y1, y2, y3⟩ := HS2.out.cells; have hSx := And.intro z4 (And.intro y0 (And.intro y1 (And.intro y2 y3))))))
      all_goals
        clear hS0 hSx
        go_wp2
        go_ret
        exact ⟨by rw [E.out]; rfl, HS2.out.2.2⟩
    · have q5 : decide (bl - 5 < dn) = false := by simpa using h5
      by_cases h6 : dn = 0
      · have q6 : (dn == 0) = true := by simpa using h6
        have E := Lib.hid (HZ.out.trans (show _ = true by simp; omega))
        clear h5 h0 h6
        go_wp2_with fail
        go_region_held3 (fun x => x.cell? ⟨b, 4, none⟩ = some (.int .i64 dn) ∧ x.cell? ⟨b + 1, 0, none⟩ = some (.int .i64 (cs : Int)) ∧ x.cell? ⟨b + 1, 1, none⟩ = some (.int .i64 bl) ∧ x.cell? ⟨b + 1, 2, none⟩ = some (.int .i64 pg) ∧ x.cell? ⟨b + 1, 3, none⟩ = some (.int .i64 sz))
          (first | with_reducible exact hS0 | with_reducible exact hSx | go_keep)
          ((go_simp; go_at_call 51; ((with_reducible refine (HV.out _).mono ?_)); (intro e w6 hr; obtain ⟨rfl, hb6⟩ := hr; have HS2 := Lib.hid (HS1.out.step hb6); obtain ⟨z0, z1, z2, z3, z4, y0, y1, y2, y3⟩ := HS2.out.cells; have hSx := And.intro z4 (And.intro y0 (And.intro y1 (And.intro y2 y3))))))
        all_goals
          clear hS0 hSx
          go_wp2
          go_ret
          exact ⟨by rw [E.out]; rfl, HS2.out.2.2⟩
      · have q6 : (dn == 0) = false := by simpa using h6
        have E := Lib.hid (HZ.out.trans (show _ = decide (de ≠ 255 ∧ sp ≠ 255) by simp [h6]; omega))
        clear h5 h0 h6
        go_wp2_with fail
        go_region_held3 (fun x => x.cell? ⟨b, 4, none⟩ = some (.int .i64 dn) ∧ x.cell? ⟨b + 1, 0, none⟩ = some (.int .i64 (cs : Int)) ∧ x.cell? ⟨b + 1, 1, none⟩ = some (.int .i64 bl) ∧ x.cell? ⟨b + 1, 2, none⟩ = some (.int .i64 pg) ∧ x.cell? ⟨b + 1, 3, none⟩ = some (.int .i64 sz))
          (first | with_reducible exact hS0 | with_reducible exact hSx | go_keep)
          ((go_simp; go_at_call 51; ((with_reducible refine (HV.out _).mono ?_)); (intro e w6 hr; obtain ⟨rfl, hb6⟩ := hr; have HS2 := Lib.hid (HS1.out.step hb6); obtain ⟨z0, z1, z2, z3, z4, y0, y1, y2, y3⟩ := HS2.out.cells; have hSx := And.intro z4 (And.intro y0 (And.intro y1 (And.intro y2 y3))))))
        all_goals
          clear hS0 hSx
          go_wp2_with fail
          ((with_reducible refine (HF.out _).mono ?_))
          rintro e w3 ⟨rfl, hb3⟩
          have HS3 := Lib.hid (HS2.out.step hb3)
          clear hb3 z0 z1 z2 z3 z4 y0 y1 y2 y3
          obtain ⟨z0, z1, z2, z3, z4, y0, y1, y2, y3⟩ := HS3.out.cells
          by_cases h7 : de = 255
          · have q7 : (de == 255) = true := by simpa using h7
            have E2 := Lib.hid (E.out.trans (show _ = false by simp [h7]))
            clear h7
            go_wp2
            go_ret
            exact ⟨by rw [E2.out]; rfl, HS3.out.2.2⟩
          · have q7 : (de == 255) = false := by simpa using h7
            have E2 := Lib.hid (E.out.trans (show _ = (sp != 255) by simp [h7, bne]; rfl))
            clear h7
            go_wp2
            go_ret
            exact ⟨by rw [E2.out]; rfl, HS3.out.2.2⟩
set_option maxRecDepth 100000 in
set_option maxHeartbeats 1000000 in
theorem apart_any (L : List Int) (LL : List Int) (hr : RowI w a n c L) (hn : n ≤ 16) (hcs : cs ≤ 16) (hsp : In64 sp) (hLL : LL = L ++ if sp = 255 then [] else [sp]) (z : Bool) (hz : z = decide (Apart cs LL)) :
    Calls Try.prog 29 #[.agg #[.int .u32 (sq : Int), .slice a n c, .int .i64 sp, .int .i64 de, .int .i64 dn], .agg #[.int .i64 (cs : Int), .int .i64 bl, .int .i64 pg, .int .i64 sz]] w fun e w' => e = .returned (.bool z) ∧ Below w.heap.size w w' := by
  have HS := Lib.hid (sg_new w sq a n c sp de dn cs bl pg sz)
  have HCL : Hid (∀ x : World, Below w.heap.size w x → Calls Try.prog 52 #[.slice a n c] x fun e w' => ∃ v', e = .returned v' ∧ OwnI x.heap.size w' v' L ∧ Below x.heap.size x w') := Lib.hid fun x hx => cloneI_any a n c L x (rowI_below hr hx) (by omega)
  have HZ := Lib.hid hz
  have HLL := Lib.hid hLL
  have HLN : Hid (L.length = n) := Lib.hid hr.1
  have HIN : Hid (∀ z ∈ LL, -9223372036854775808 ≤ z ∧ z ≤ 9223372036854775807) := Lib.hid (by
    intro z hz'
    rw [hLL, List.mem_append] at hz'
    rcases hz' with h | h
    · exact hr.2.2.2.2.1 z h
    · split at h
      · cases h
      · rw [List.mem_singleton] at h; subst h; exact hsp)
  clear hz hLL hr hsp
  go_enter Try.func29, Try.ntmps29
  go_upto_region 1 with fail
  obtain ⟨w1, hw1⟩ : ∃ x, x = (w.alloc (.cells #[.int .u32 (sq : Int), .slice a n c, .int .i64 sp, .int .i64 de, .int .i64 dn] 31)).alloc (.cells #[.int .i64 (cs : Int), .int .i64 bl, .int .i64 pg, .int .i64 sz] 27) := ⟨_, rfl⟩
  obtain ⟨b, hb⟩ : ∃ x, x = w.heap.size := ⟨_, rfl⟩
  have HS1 := HS
  rw [← hw1, ← hb] at HS1
  rw [← hw1, ← hb]
  have HWB : Hid (w.heap.size = b) := Lib.hid hb.symm
  have HB1 : Hid (w1.heap.size = b + 1 + 1) := Lib.hid (by rw [hw1, hb]; simp)
  clear hw1 hb HS
  go_upto_region 2 with fail
  obtain ⟨tb, htb⟩ : ∃ x, x = w1.heap.size := ⟨_, rfl⟩
  have hT0 : (w1.alloc (.cells #[.bool false, .bool false, .bool false, .bool false, .bool false, .bool false, .bool false, .bool false, .bool false, .bool false, .bool false, .bool false, .bool false, .bool false, .bool false, .bool false, .bool false] 100)).rowIs w1.heap.size 100 17 (takenC LL 0) := by
    refine World.rowIs_alloc w1 _ 100 _ (fun i hi => ?_)
    rw [takenC_zero, show (#[.bool false, .bool false, .bool false, .bool false, .bool false, .bool false, .bool false, .bool false, .bool false, .bool false, .bool false, .bool false, .bool false, .bool false, .bool false, .bool false, .bool false] : Array Value) = Array.replicate 17 (.bool false) from rfl, Array.getElem?_replicate, if_pos (by simpa using hi)]
  have hS0 := HS1.out.step (bel_alloc (Below.refl _ w1) (.cells #[.bool false, .bool false, .bool false, .bool false, .bool false, .bool false, .bool false, .bool false, .bool false, .bool false, .bool false, .bool false, .bool false, .bool false, .bool false, .bool false, .bool false] 100))
  have hz2 : (w1.alloc (.cells #[.bool false, .bool false, .bool false, .bool false, .bool false, .bool false, .bool false, .bool false, .bool false, .bool false, .bool false, .bool false, .bool false, .bool false, .bool false, .bool false, .bool false] 100)).heap.size = w1.heap.size + 1 := by simp
  obtain ⟨w2, hw2⟩ : ∃ x, x = w1.alloc (.cells #[.bool false, .bool false, .bool false, .bool false, .bool false, .bool false, .bool false, .bool false, .bool false, .bool false, .bool false, .bool false, .bool false, .bool false, .bool false, .bool false, .bool false] 100) := ⟨_, rfl⟩
  rw [← hw2, ← htb] at hT0 hz2
  rw [← hw2] at hS0
  rw [← hw2, ← htb]
  have HTB : Hid (tb = b + 1 + 1) := Lib.hid (by rw [htb, HB1.out])
  have HT2 := Lib.hid hT0
  have HS2 := Lib.hid hS0
  have HZ2 := Lib.hid hz2
  clear htb hT0 hS0 hz2 hw2 HB1 HS1
  obtain ⟨z0, z1, z2, z3, z4, y0, y1, y2, y3⟩ := HS2.out.cells
  go_wp2_with fail
  have hcl := HCL.out _ HS2.out.2.2
  ((with_reducible refine hcl.mono ?_))
  clear hcl
  rintro e w3 ⟨lv, rfl, ho, hb3⟩
  have HT3 := Lib.hid (HT2.out.of_block (hb3.block _ HT2.out.lt))
  have HS3 := Lib.hid (HS2.out.step hb3)
  have HO3 : Hid (OwnI (tb + 1) w3 lv L) := Lib.hid (by rw [HZ2.out] at ho; exact ho)
  have HZ3 : Hid (tb + 1 ≤ w3.heap.size) := Lib.hid (by rw [← HZ2.out]; exact hb3.size)
  clear ho hb3 z0 z1 z2 z3 z4 y0 y1 y2 y3
  obtain ⟨z0, z1, z2, z3, z4, y0, y1, y2, y3⟩ := HS3.out.cells
  by_cases h5 : sp = 255
  · have q5 : (sp != 255) = false := by simpa using h5
    have HO : Hid (OwnI (tb + 1) w3 lv LL) := Lib.hid (by rw [HLL.out, if_pos h5, List.append_nil]; exact HO3.out)
    have HT := HT3
    have HSG := HS3
    clear HT3 HS3 HO3 h5 z0 z1 z3 z4 y0 y1 y2 y3 HT2 HS2
    go_upto_region 5 with fail
    obtain ⟨la, lc, rfl, _, _⟩ := ownI_row HO.out HIN.out
    have HLM : Hid (LL.length ≤ 17) := Lib.hid (by rw [HLL.out, List.length_append, HLN.out]; split <;> simp <;> omega)
    obtain ⟨N, hN⟩ : ∃ x, x = LL.length := ⟨_, rfl⟩
    rw [← hN] at HO HLM
    rw [← hN]
    have HN := Lib.hid hN
    clear hN
    clear z2
    go_wp2_with fail
    go_loopw [22] (fun i wr => ∃ k : Nat, k ≤ N ∧ i = .int .i64 (k : Int) ∧ Apart cs (LL.take k) ∧ wr.rowIs tb 100 17 (takenC LL k) ∧ SG w b sq a n c sp de dn (cs : Int) bl pg sz wr ∧ OwnI (tb + 1) wr (.slice la N lc) LL) (fun i _ => N - (intOf i).toNat)
    case atStart => exact ⟨0, Nat.zero_le _, rfl, apart_nil cs, HT.out, HSG.out, HO.out⟩
    case round =>
      obtain ⟨k, hk, rfl, hA, hT, hS, hO⟩ := hrel
      have HA := Lib.hid hA
      have H100 := Lib.hid hT
      have HSS := Lib.hid hS
      have HOO := Lib.hid hO
      clear hA hT hS hO
      by_cases hlt : k < N
      · have t1 : decide (k < N) = true := by simpa using hlt
        have hk17 : k < 17 := by have := HLM.out; omega
        have hkl : k < LL.length := by rw [← HN.out]; exact hlt
        obtain ⟨la', lc', hle, hrow, _⟩ := ownI_row HOO.out HIN.out
        obtain ⟨rfl, _, rfl⟩ : la = la' ∧ N = LL.length ∧ lc = lc' := by simpa using hle
        obtain ⟨eb, eo, rfl, hcell, hx0, hx1⟩ := rowI_at hrow hkl
        obtain ⟨x, hx⟩ : ∃ x, x = LL.getD k 0 := ⟨_, rfl⟩
        rw [← hx] at hcell hx0 hx1
        have HX := Lib.hid hx
        have HKL := Lib.hid hkl
        have i0 : (0 : Int) ≤ (k : Int) := by omega
        have i1 : (k : Int) < (N : Int) := by omega
        obtain ⟨_, _, _, _, _, y0, _, _, _⟩ := HSS.out.cells
        clear hx hkl hrow hle
        by_cases h1 : x < 0
        · have q1 : decide (x < 0) = true := by simpa using h1
          have E := Lib.hid (HZ.out.trans (show _ = false by simpa using apart_not HKL.out (.inl (by rw [← HX.out]; exact h1))))
          clear h1
          go_wp2
          go_ret
          exact ⟨by rw [E.out]; rfl, HSS.out.2.2⟩
        · have q1 : decide (x < 0) = false := by simpa using h1
          obtain ⟨m, rfl⟩ : ∃ m : Nat, x = (m : Int) := ⟨x.toNat, by omega⟩
          by_cases h2 : cs < m
          · have q2 : decide ((cs : Int) < (m : Int)) = true := by simpa using h2
            have q2' : decide (cs < m) = true := by simpa using h2
            have E := Lib.hid (HZ.out.trans (show _ = false by simpa using apart_not HKL.out (.inr (.inl (by rw [← HX.out]; omega)))))
            clear h1 h2
            go_wp2
            go_ret
            exact ⟨by rw [E.out]; rfl, HSS.out.2.2⟩
          · have q2 : decide ((cs : Int) < (m : Int)) = false := by simpa using h2
            have q2' : decide (cs < m) = false := by simpa using h2
            have i2 : (0 : Int) ≤ (m : Int) := by omega
            have i3 : (m : Int) < 17 := by omega
            have tc := H100.out.cell (i := m) (by omega)
            have tf := H100.out.frozen m
            unfold takenC at tc
            by_cases h3 : (m : Int) ∈ LL.take k
            · have q3 : decide ((m : Int) ∈ LL.take k) = true := by simpa using h3
              rw [q3] at tc
              have E := Lib.hid (HZ.out.trans (show _ = false by simpa using apart_not HKL.out (.inr (.inr (by rw [← HX.out]; exact h3)))))
              clear h1 h2 h3 q3
              go_wp2
              go_ret
              exact ⟨by rw [E.out]; rfl, HSS.out.2.2⟩
            · have q3 : decide ((m : Int) ∈ LL.take k) = false := by simpa using h3
              rw [q3] at tc
              have HMC : Hid (m ≤ cs) := Lib.hid (by omega)
              have hA2 := Lib.hid (apart_more HA.out HKL.out HX.out.symm HMC.out h3)
              have hT2 : Hid ((wr.setCell ⟨tb, m, none⟩ (.bool true)).rowIs tb 100 17 (takenC LL (k + 1))) := Lib.hid ((H100.out.set m (.bool true)).congr fun j _ => takenC_more HKL.out HX.out.symm j)
              have hS2 : Hid (SG w b sq a n c sp de dn (cs : Int) bl pg sz (wr.setCell ⟨tb, m, none⟩ (.bool true))) := Lib.hid (HSS.out.set (by rw [HTB.out]; omega) (by have := HWB.out; have := HTB.out; omega) _ _)
              have hO2 : Hid (OwnI (tb + 1) (wr.setCell ⟨tb, m, none⟩ (.bool true)) (.slice (some ⟨eb, eo, none⟩) N lc) LL) := Lib.hid (ownsRow_setCell_below HOO.out (by simp) _)
              clear h1 h2 h3 q3
              go_wp2
              go_roundw
              case rel => have := HLM.out; exact ⟨k + 1, by omega, by go_num, hA2.out, hT2.out, hS2.out, hO2.out⟩
              case measure => have := HLM.out; simp [intOf]; omega
      · obtain rfl : k = N := by omega
        have t1 : decide (k < k) = false := by simp
        have E := Lib.hid (HZ.out.trans (show _ = true by
          have h1 := HA.out
          rw [List.take_of_length_le (by rw [HN.out]; exact Nat.le_refl _)] at h1
          simpa using h1))
        clear hlt
        go_wp2
        go_ret
        exact ⟨by rw [E.out]; rfl, HSS.out.2.2⟩
  · have q5 : (sp != 255) = true := by simpa using h5
    go_wp2_with (at_builtin; refine wpList_appV rfl _ _ rfl (tb + 1) _ L rfl (ownI_below HO3.out (bel_alloc (Below.refl _ _) _)) ⟨w3.heap.size, 0, none⟩ sp 1 rfl (cell_new1 _ _ _) (by simp; have := HZ3.out; omega) (by rw [HLN.out]; omega) ?_)
    intro lv2 w4 own grow wh hb4
    have HO : Hid (OwnI (tb + 1) w4 lv2 LL) := Lib.hid (by rw [HLL.out, if_neg h5]; exact own)
    have hb5 := (bel_alloc (Below.refl _ w3) (.cells #[.int .i64 sp] 3))
    have HT := Lib.hid ((HT3.out.alloc (.cells #[.int .i64 sp] 3)).of_block (hb4.block _ (by omega)))
    have HSG := Lib.hid ((HS3.out.step hb5).low (B := tb + 1) (by have := HTB.out; omega) (by have := HTB.out; have := HWB.out; omega) hb4)
    clear own grow wh hb4 hb5 HT3 HS3 HO3 h5 z0 z1 z2 z3 z4 y0 y1 y2 y3 HT2 HS2
    go_upto_region 5 with fail
    obtain ⟨la, lc, rfl, _, _⟩ := ownI_row HO.out HIN.out
    have HLM : Hid (LL.length ≤ 17) := Lib.hid (by rw [HLL.out, List.length_append, HLN.out]; split <;> simp <;> omega)
    obtain ⟨N, hN⟩ : ∃ x, x = LL.length := ⟨_, rfl⟩
    rw [← hN] at HO HLM
    rw [← hN]
    have HN := Lib.hid hN
    clear hN
    go_wp2_with fail
    go_loopw [22] (fun i wr => ∃ k : Nat, k ≤ N ∧ i = .int .i64 (k : Int) ∧ Apart cs (LL.take k) ∧ wr.rowIs tb 100 17 (takenC LL k) ∧ SG w b sq a n c sp de dn (cs : Int) bl pg sz wr ∧ OwnI (tb + 1) wr (.slice la N lc) LL) (fun i _ => N - (intOf i).toNat)
    case atStart => exact ⟨0, Nat.zero_le _, rfl, apart_nil cs, HT.out, HSG.out, HO.out⟩
    case round =>
      obtain ⟨k, hk, rfl, hA, hT, hS, hO⟩ := hrel
      have HA := Lib.hid hA
      have H100 := Lib.hid hT
      have HSS := Lib.hid hS
      have HOO := Lib.hid hO
      clear hA hT hS hO
      by_cases hlt : k < N
      · have t1 : decide (k < N) = true := by simpa using hlt
        have hk17 : k < 17 := by have := HLM.out; omega
        have hkl : k < LL.length := by rw [← HN.out]; exact hlt
        obtain ⟨la', lc', hle, hrow, _⟩ := ownI_row HOO.out HIN.out
        obtain ⟨rfl, _, rfl⟩ : la = la' ∧ N = LL.length ∧ lc = lc' := by simpa using hle
        obtain ⟨eb, eo, rfl, hcell, hx0, hx1⟩ := rowI_at hrow hkl
        obtain ⟨x, hx⟩ : ∃ x, x = LL.getD k 0 := ⟨_, rfl⟩
        rw [← hx] at hcell hx0 hx1
        have HX := Lib.hid hx
        have HKL := Lib.hid hkl
        have i0 : (0 : Int) ≤ (k : Int) := by omega
        have i1 : (k : Int) < (N : Int) := by omega
        obtain ⟨_, _, _, _, _, y0, _, _, _⟩ := HSS.out.cells
        clear hx hkl hrow hle
        by_cases h1 : x < 0
        · have q1 : decide (x < 0) = true := by simpa using h1
          have E := Lib.hid (HZ.out.trans (show _ = false by simpa using apart_not HKL.out (.inl (by rw [← HX.out]; exact h1))))
          clear h1
          go_wp2
          go_ret
          exact ⟨by rw [E.out]; rfl, HSS.out.2.2⟩
        · have q1 : decide (x < 0) = false := by simpa using h1
          obtain ⟨m, rfl⟩ : ∃ m : Nat, x = (m : Int) := ⟨x.toNat, by omega⟩
          by_cases h2 : cs < m
          · have q2 : decide ((cs : Int) < (m : Int)) = true := by simpa using h2
            have q2' : decide (cs < m) = true := by simpa using h2
            have E := Lib.hid (HZ.out.trans (show _ = false by simpa using apart_not HKL.out (.inr (.inl (by rw [← HX.out]; omega)))))
            clear h1 h2
            go_wp2
            go_ret
            exact ⟨by rw [E.out]; rfl, HSS.out.2.2⟩
          · have q2 : decide ((cs : Int) < (m : Int)) = false := by simpa using h2
            have q2' : decide (cs < m) = false := by simpa using h2
            have i2 : (0 : Int) ≤ (m : Int) := by omega
            have i3 : (m : Int) < 17 := by omega
            have tc := H100.out.cell (i := m) (by omega)
            have tf := H100.out.frozen m
            unfold takenC at tc
            by_cases h3 : (m : Int) ∈ LL.take k
            · have q3 : decide ((m : Int) ∈ LL.take k) = true := by simpa using h3
              rw [q3] at tc
              have E := Lib.hid (HZ.out.trans (show _ = false by simpa using apart_not HKL.out (.inr (.inr (by rw [← HX.out]; exact h3)))))
              clear h1 h2 h3 q3
              go_wp2
              go_ret
              exact ⟨by rw [E.out]; rfl, HSS.out.2.2⟩
            · have q3 : decide ((m : Int) ∈ LL.take k) = false := by simpa using h3
              rw [q3] at tc
              have HMC : Hid (m ≤ cs) := Lib.hid (by omega)
              have hA2 := Lib.hid (apart_more HA.out HKL.out HX.out.symm HMC.out h3)
              have hT2 : Hid ((wr.setCell ⟨tb, m, none⟩ (.bool true)).rowIs tb 100 17 (takenC LL (k + 1))) := Lib.hid ((H100.out.set m (.bool true)).congr fun j _ => takenC_more HKL.out HX.out.symm j)
              have hS2 : Hid (SG w b sq a n c sp de dn (cs : Int) bl pg sz (wr.setCell ⟨tb, m, none⟩ (.bool true))) := Lib.hid (HSS.out.set (by rw [HTB.out]; omega) (by have := HWB.out; have := HTB.out; omega) _ _)
              have hO2 : Hid (OwnI (tb + 1) (wr.setCell ⟨tb, m, none⟩ (.bool true)) (.slice (some ⟨eb, eo, none⟩) N lc) LL) := Lib.hid (ownsRow_setCell_below HOO.out (by simp) _)
              clear h1 h2 h3 q3
              go_wp2
              go_roundw
              case rel => have := HLM.out; exact ⟨k + 1, by omega, by go_num, hA2.out, hT2.out, hS2.out, hO2.out⟩
              case measure => have := HLM.out; simp [intOf]; omega
      · obtain rfl : k = N := by omega
        have t1 : decide (k < k) = false := by simp
        have E := Lib.hid (HZ.out.trans (show _ = true by
          have h1 := HA.out
          rw [List.take_of_length_le (by rw [HN.out]; exact Nat.le_refl _)] at h1
          simpa using h1))
        clear hlt
        go_wp2
        go_ret
        exact ⟨by rw [E.out]; rfl, HSS.out.2.2⟩
end
end Go.Proofs.Ytdljihemnfpkaaa
