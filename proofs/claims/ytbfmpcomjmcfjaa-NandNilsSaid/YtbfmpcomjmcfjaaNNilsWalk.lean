/- NandNils: the walk. -/
import Derived.Test.YtbfmpcomjmcfjaaNNils
namespace Go.Proofs.Ytbfmpcomjmcfjaa
open Go.RowKit Go.Deep

/-- The shape that came in stands in its box still. -/
def BX (w : World) (o : Obj) (x : World) : Prop := Below w.heap.size w x ∧ x.heap[w.heap.size]? = some o
theorem BX.step {w : World} {o : Obj} {x y : World} (h : BX w o x) (hb : Below x.heap.size x y) : BX w o y :=
  ⟨h.1.trans (hb.mono h.1.size), (hb.block _ (Array.getElem?_eq_some_iff.1 h.2).1).trans h.2⟩
theorem two_step {x : World} {Q : World → Prop} {y : World} (hq : ∀ z, Q z → Below x.heap.size x z) (h : ∃ z, Q z ∧ Below z.heap.size z y) : Below x.heap.size x y := by
  obtain ⟨z, h1, h2⟩ := h
  exact (hq z h1).trans (h2.mono (hq z h1).size)
instance (a b c d : Int) : Decidable (GoodG a b c d) := by unfold GoodG; infer_instance
theorem info_event : (Try.prog.info? 147).map (fun i => (i.zero, i.size, i.bytes)) = some (some (.agg #[.int .i64 0, .int .i64 0, .int .i64 0, .slice none 0 0]), 4, 48) := by kernel_rfl

set_option maxRecDepth 100000 in
set_option maxHeartbeats 6400000 in
theorem nandNils_walk (a b c d n : Int) (w : World) (hin : (-9223372036854775808 ≤ a ∧ a ≤ 9223372036854775807) ∧ (-9223372036854775808 ≤ b ∧ b ≤ 9223372036854775807) ∧ (-9223372036854775808 ≤ c ∧ c ≤ 9223372036854775807) ∧ (-9223372036854775808 ≤ d ∧ d ≤ 9223372036854775807)) :
    Calls Try.prog 6 #[.agg #[.int .i64 a, .int .i64 b, .int .i64 c, .int .i64 d], .int .i64 n] w fun e w' => e = .returned (.bool true) ∧ Below w.heap.size w w' := by
  have hx0 : BX w (.cells #[.int .i64 a, .int .i64 b, .int .i64 c, .int .i64 d] 32) (w.alloc (.cells #[.int .i64 a, .int .i64 b, .int .i64 c, .int .i64 d] 32)) := ⟨bel_alloc (Below.refl _ w) _, heap_alloc_new w _⟩
  have HX0 := Lib.hid hx0
  have HIN := Lib.hid hin
  clear hx0 hin
  go_enter Try.func6, Try.ntmps6
  go_wp2_with fail
  obtain ⟨w0, hw0⟩ : ∃ w0, w0 = w.alloc (.cells #[.int .i64 a, .int .i64 b, .int .i64 c, .int .i64 d] 32) := ⟨_, rfl⟩
  rw [← hw0] at HX0 ⊢
  clear hw0
  refine (read_err (.pointer none) 0 0 60 0 _ (by decide) (bad_nil 0 0 w0)).mono ?_
  rintro e w1 ⟨rfl, hq⟩
  have HX1 := Lib.hid (HX0.out.step (two_step (fun _ h => h) hq))
  clear hq HX0
  go_wp2_with fail
  refine (boot_nil w1).mono ?_
  rintro e w2 ⟨rfl, rfl⟩
  go_wp2_with fail
  refine (kill_nil n w1).mono ?_
  rintro e w2 ⟨rfl, rfl⟩
  go_wp2_with fail
  refine (begun_any w1).mono ?_
  rintro e w2 ⟨rfl, hb⟩
  have HX2 := Lib.hid (HX1.out.step hb)
  clear hb HX1
  go_wp2_with fail
  refine (program_err (.pointer none) 0 0 60 0 (.slice none 0 0) (.slice none 0 0) _ (by decide) (bad_nil 0 0 w2)).mono ?_
  rintro e w3 ⟨rfl, hq⟩
  have HX3 := Lib.hid (HX2.out.step (two_step (fun _ h => h) hq))
  clear hq HX2
  go_wp2_with fail
  refine (erase_err (.pointer none) 0 0 60 _ (by decide) (bad_nil 0 0 w3)).mono ?_
  rintro e w4 ⟨rfl, hq⟩
  have HX4 := Lib.hid (HX3.out.step (two_step (fun _ h => h) hq))
  clear hq HX3
  go_wp2_with fail
  refine (chips_nil w4).mono ?_
  rintro e w5 ⟨rfl, rfl⟩
  go_wp2_with fail
  refine (ops_nil w4).mono ?_
  rintro e w5 ⟨rfl, rfl⟩
  go_wp2_with fail
  refine (off_nil w4).mono ?_
  rintro e w5 ⟨rfl, rfl⟩
  go_wp2_with fail
  refine (dead_nil n w4).mono ?_
  rintro e w5 ⟨rfl, rfl⟩
  go_wp2_with fail
  refine (erases_nil n w4).mono ?_
  rintro e w5 ⟨rfl, rfl⟩
  go_wp2_with fail
  refine (copy_nil w4).mono ?_
  rintro e w5 ⟨rfl, rfl⟩
  go_wp2_with fail
  refine (dump_nil w4).mono ?_
  rintro e w5 ⟨rfl, rfl⟩
  go_wp2_with fail
  refine (geo_nil w4).mono ?_
  rintro e w5 ⟨rfl, hb⟩
  have HX5 := Lib.hid (HX4.out.step hb)
  clear hb HX4
  obtain ⟨g0, g1, g2, g3⟩ := four_cells HX5.out.2
  go_upto_region 7 with fail
  obtain ⟨F, hF⟩ : ∃ F, F = decide (GoodG a b c d) := ⟨_, rfl⟩
  have HF := Lib.hid hF
  clear hF
  go_cut [9] (fun s9 wx => s9 = .bool F ∧ wx = w5)
  case first =>
    obtain ⟨i1, i2, i3, i4⟩ := HIN.out
    by_cases q0 : a < 3
    · have t0 : decide ((3 : Int) ≤ a) = false := by simp; omega
      have HFF : Hid (F = false) := Lib.hid (by rw [HF.out]; exact decide_eq_false (by unfold GoodG; omega))
      clear q0 i1 i2 i3 i4
      go_wp2
      go_meet
      exact ⟨by rw [HFF.out], rfl⟩
    · have t0 : decide ((3 : Int) ≤ a) = true := by simp; omega
      by_cases q1 : 16 < a
      · have t1 : decide (a ≤ 16) = false := by simp; omega
        have HFF : Hid (F = false) := Lib.hid (by rw [HF.out]; exact decide_eq_false (by unfold GoodG; omega))
        clear q0 q1 i1 i2 i3 i4
        go_wp2
        go_meet
        exact ⟨by rw [HFF.out], rfl⟩
      · have t1 : decide (a ≤ 16) = true := by simp; omega
        by_cases q2 : b < 16
        · have t2 : decide ((16 : Int) ≤ b) = false := by simp; omega
          have HFF : Hid (F = false) := Lib.hid (by rw [HF.out]; exact decide_eq_false (by unfold GoodG; omega))
          clear q0 q1 q2 i1 i2 i3 i4
          go_wp2
          go_meet
          exact ⟨by rw [HFF.out], rfl⟩
        · have t2 : decide ((16 : Int) ≤ b) = true := by simp; omega
          by_cases q3 : 64 < b
          · have t3 : decide (b ≤ 64) = false := by simp; omega
            have HFF : Hid (F = false) := Lib.hid (by rw [HF.out]; exact decide_eq_false (by unfold GoodG; omega))
            clear q0 q1 q2 q3 i1 i2 i3 i4
            go_wp2
            go_meet
            exact ⟨by rw [HFF.out], rfl⟩
          · have t3 : decide (b ≤ 64) = true := by simp; omega
            by_cases q4 : c < 4
            · have t4 : decide ((4 : Int) ≤ c) = false := by simp; omega
              have HFF : Hid (F = false) := Lib.hid (by rw [HF.out]; exact decide_eq_false (by unfold GoodG; omega))
              clear q0 q1 q2 q3 q4 i1 i2 i3 i4
              go_wp2
              go_meet
              exact ⟨by rw [HFF.out], rfl⟩
            · have t4 : decide ((4 : Int) ≤ c) = true := by simp; omega
              by_cases q5 : 32 < c
              · have t5 : decide (c ≤ 32) = false := by simp; omega
                have HFF : Hid (F = false) := Lib.hid (by rw [HF.out]; exact decide_eq_false (by unfold GoodG; omega))
                clear q0 q1 q2 q3 q4 q5 i1 i2 i3 i4
                go_wp2
                go_meet
                exact ⟨by rw [HFF.out], rfl⟩
              · have t5 : decide (c ≤ 32) = true := by simp; omega
                by_cases q6 : d < 256
                · have t6 : decide ((256 : Int) ≤ d) = false := by simp; omega
                  have HFF : Hid (F = false) := Lib.hid (by rw [HF.out]; exact decide_eq_false (by unfold GoodG; omega))
                  clear q0 q1 q2 q3 q4 q5 q6 i1 i2 i3 i4
                  go_wp2
                  go_meet
                  exact ⟨by rw [HFF.out], rfl⟩
                · have t6 : decide ((256 : Int) ≤ d) = true := by simp; omega
                  by_cases q7 : 1024 < d
                  · have t7 : decide (d ≤ 1024) = false := by simp; omega
                    have HFF : Hid (F = false) := Lib.hid (by rw [HF.out]; exact decide_eq_false (by unfold GoodG; omega))
                    clear q0 q1 q2 q3 q4 q5 q6 q7 i1 i2 i3 i4
                    go_wp2
                    go_meet
                    exact ⟨by rw [HFF.out], rfl⟩
                  · have t7 : decide (d ≤ 1024) = true := by simp; omega
                    have k9 : (0 : Int) ≤ d := by omega
                    by_cases q8 : d % 64 ≠ 0
                    · have t8 : (d % 64 == 0) = false := by simp; omega
                      have HFF : Hid (F = false) := Lib.hid (by rw [HF.out]; exact decide_eq_false (by unfold GoodG; omega))
                      clear q0 q1 q2 q3 q4 q5 q6 q7 q8 i1 i2 i3 i4
                      go_wp2
                      go_meet
                      exact ⟨by rw [HFF.out], rfl⟩
                    · have t8 : (d % 64 == 0) = true := by simp; omega
                      have HFF : Hid (F = true) := Lib.hid (by rw [HF.out]; exact decide_eq_true (by unfold GoodG; omega))
                      clear q0 q1 q2 q3 q4 q5 q6 q7 q8 i1 i2 i3 i4
                      go_wp2
                      go_meet
                      exact ⟨by rw [HFF.out], rfl⟩
  case rest =>
  obtain ⟨rfl, hw5⟩ := hcut
  rw [hw5]
  clear hw5
  clear g0 g1 g2 g3
  obtain ⟨g0, g1, g2, g3⟩ := four_cells HX5.out.2
  by_cases hg : GoodG a b c d
  · have HFT : F = true := HF.out.trans (decide_eq_true hg)
    rw [HFT]
    have HG := Lib.hid hg
    clear HFT
    obtain ⟨n0, rfl⟩ : ∃ n0 : Nat, a = (n0 : Int) := ⟨a.toNat, by unfold GoodG at hg; omega⟩
    obtain ⟨n1, rfl⟩ : ∃ n1 : Nat, b = (n1 : Int) := ⟨b.toNat, by unfold GoodG at hg; omega⟩
    obtain ⟨n2, rfl⟩ : ∃ n2 : Nat, c = (n2 : Int) := ⟨c.toNat, by unfold GoodG at hg; omega⟩
    obtain ⟨n3, rfl⟩ : ∃ n3 : Nat, d = (n3 : Int) := ⟨d.toNat, by unfold GoodG at hg; omega⟩
    go_wp2_with fail
    refine (new_ok n0 n1 n2 n3 none 0 0 (fun _ => NE.zero) w5 HG.out (by omega) (Lib.hid fun w' _ => plan_nil w')).mono ?_
    rintro e w6 ⟨tag, L, rfl, _, hb⟩
    obtain ⟨pa, hpa⟩ : ∃ pa, L.pa = pa := ⟨_, rfl⟩
    rw [hpa]
    clear hpa
    have HX6 := Lib.hid (HX5.out.step hb)
    clear hb hg
    go_upto_region 9 with fail
    have hsh : ∀ x, Hid (Calls Try.prog 19 #[.int .i64 0] x fun e w' => e = .returned (.agg #[.int .i64 3, .int .i64 16, .int .i64 4, .int .i64 256]) ∧ Below x.heap.size x w') := fun x => Lib.hid ((shape_any 0 x).mono fun e w' h => by
      obtain ⟨⟨r, _, hr, _, he⟩, hb⟩ := h
      obtain rfl := hr rfl
      exact ⟨he, hb⟩)
    have hnm : ∀ (x : World) (ea : Option Addr) (ec : Nat), Hid (Calls Try.prog 20 #[.agg #[.int .i64 3, .int .i64 16, .int .i64 4, .int .i64 256], .slice none 0 0, .slice ea 201 ec] x fun e w' => e = .returned (.tuple #[.pointer none, .int .i64 34]) ∧ Below x.heap.size x w') := fun x ea ec => Lib.hid (new_many 3 16 4 256 ea 201 ec x (by unfold GoodG; omega) (by omega))
    go_cut [12, 13] (fun s12 s13 wx => s12 = .pointer none ∧ s13 = .int .i64 34 ∧ Below w6.heap.size w6 wx)
    case first =>
      obtain ⟨i1, hi1, hz1, hs1, hb1⟩ := info_parts info_event
      have hmk : ∀ x, (Instr.makeSlice 23 (.int .i64 201) (.int .i64 201)).run Try.prog x = _ := fun x => run_make x 23 147 i1 _ Try.underlying23 hi1 hz1 .i64 .i64 201 201 (by omega) (by omega) (by rw [hb1]; omega) (by omega)
      simp only [hs1] at hmk
      obtain ⟨cs, hcs⟩ : ∃ cs, cs = madeCells (Value.agg #[.int .i64 0, .int .i64 0, .int .i64 0, .slice none 0 0]).cells (Int.toNat 201 * 4) := ⟨_, rfl⟩
      rw [← hcs, show Int.toNat 201 = 201 from rfl] at hmk
      clear hcs hi1 hz1 hs1 hb1
      have hbd : Below w6.heap.size w6 w6.drew := (Below.refl _ w6).drew
      have hba : Below w6.heap.size w6 (w6.alloc (.cells cs 147)).drew := (bel_alloc (Below.refl _ w6) _).drew
      go_region_held3 (fun w' => True) (exact trivial)
        (first
          | (go_simp; go_at_call 19; ((with_reducible refine ((hsh _).out).mono ?_)); (rintro e w7 ⟨rfl, hb7'⟩; have hb7 : Below w6.heap.size w6 w7 := (by first | exact hbd.trans (hb7'.mono hbd.size) | exact hba.trans (hb7'.mono hba.size)); clear hb7'))
          | (go_simp; go_at_call 20; ((with_reducible refine ((hnm _ _ _).out).mono ?_)); (rintro e w8 ⟨rfl, hb8'⟩; have hb8 : Below w6.heap.size w6 w8 := (by first | exact hb7.trans (hb8'.mono hb7.size) | exact (bel_alloc hb7 _).trans (hb8'.mono (bel_alloc hb7 _).size)); clear hb8')))
      all_goals (go_wp2_with fail; go_meet; exact ⟨rfl, rfl, hb8⟩)
    case rest =>
    obtain ⟨rfl, rfl, hb9⟩ := hcut
    have HX9 := Lib.hid (HX6.out.step hb9)
    clear hb9 hsh hnm
    obtain ⟨j0, j1, j2, j3⟩ := four_cells HX9.out.2
    go_wp2_with fail
    refine (check_good (n0 : Int) (n1 : Int) (n2 : Int) (n3 : Int) _ HG.out).mono ?_
    rintro e w9 ⟨rfl, hb⟩
    have HB := Lib.hid (HX9.out.step hb).1
    clear hb
    go_wp2
    go_ret
    exact ⟨rfl, HB.out⟩
  · have HFT : F = false := HF.out.trans (decide_eq_false hg)
    rw [HFT]
    have HG := Lib.hid hg
    clear HFT
    go_wp2_with fail
    refine (new_bad a b c d (.slice none 0 0) w5 HG.out).mono ?_
    rintro e w6 ⟨rfl, hb⟩
    have HX6 := Lib.hid (HX5.out.step hb)
    clear hb hg
    go_upto_region 9 with fail
    have hsh : ∀ x, Hid (Calls Try.prog 19 #[.int .i64 0] x fun e w' => e = .returned (.agg #[.int .i64 3, .int .i64 16, .int .i64 4, .int .i64 256]) ∧ Below x.heap.size x w') := fun x => Lib.hid ((shape_any 0 x).mono fun e w' h => by
      obtain ⟨⟨r, _, hr, _, he⟩, hb⟩ := h
      obtain rfl := hr rfl
      exact ⟨he, hb⟩)
    have hnm : ∀ (x : World) (ea : Option Addr) (ec : Nat), Hid (Calls Try.prog 20 #[.agg #[.int .i64 3, .int .i64 16, .int .i64 4, .int .i64 256], .slice none 0 0, .slice ea 201 ec] x fun e w' => e = .returned (.tuple #[.pointer none, .int .i64 34]) ∧ Below x.heap.size x w') := fun x ea ec => Lib.hid (new_many 3 16 4 256 ea 201 ec x (by unfold GoodG; omega) (by omega))
    go_cut [12, 13] (fun s12 s13 wx => s12 = .pointer none ∧ s13 = .int .i64 34 ∧ Below w6.heap.size w6 wx)
    case first =>
      obtain ⟨i1, hi1, hz1, hs1, hb1⟩ := info_parts info_event
      have hmk : ∀ x, (Instr.makeSlice 23 (.int .i64 201) (.int .i64 201)).run Try.prog x = _ := fun x => run_make x 23 147 i1 _ Try.underlying23 hi1 hz1 .i64 .i64 201 201 (by omega) (by omega) (by rw [hb1]; omega) (by omega)
      simp only [hs1] at hmk
      obtain ⟨cs, hcs⟩ : ∃ cs, cs = madeCells (Value.agg #[.int .i64 0, .int .i64 0, .int .i64 0, .slice none 0 0]).cells (Int.toNat 201 * 4) := ⟨_, rfl⟩
      rw [← hcs, show Int.toNat 201 = 201 from rfl] at hmk
      clear hcs hi1 hz1 hs1 hb1
      have hbd : Below w6.heap.size w6 w6.drew := (Below.refl _ w6).drew
      have hba : Below w6.heap.size w6 (w6.alloc (.cells cs 147)).drew := (bel_alloc (Below.refl _ w6) _).drew
      go_region_held3 (fun w' => True) (exact trivial)
        (first
          | (go_simp; go_at_call 19; ((with_reducible refine ((hsh _).out).mono ?_)); (rintro e w7 ⟨rfl, hb7'⟩; have hb7 : Below w6.heap.size w6 w7 := (by first | exact hbd.trans (hb7'.mono hbd.size) | exact hba.trans (hb7'.mono hba.size)); clear hb7'))
          | (go_simp; go_at_call 20; ((with_reducible refine ((hnm _ _ _).out).mono ?_)); (rintro e w8 ⟨rfl, hb8'⟩; have hb8 : Below w6.heap.size w6 w8 := (by first | exact hb7.trans (hb8'.mono hb7.size) | exact (bel_alloc hb7 _).trans (hb8'.mono (bel_alloc hb7 _).size)); clear hb8')))
      all_goals (go_wp2_with fail; go_meet; exact ⟨rfl, rfl, hb8⟩)
    case rest =>
    obtain ⟨rfl, rfl, hb9⟩ := hcut
    have HX9 := Lib.hid (HX6.out.step hb9)
    clear hb9 hsh hnm
    obtain ⟨j0, j1, j2, j3⟩ := four_cells HX9.out.2
    go_wp2_with fail
    refine (check_bad a b c d _ HG.out).mono ?_
    rintro e w9 ⟨rfl, hb⟩
    have HB := Lib.hid (HX9.out.step hb).1
    clear hb
    go_wp2
    go_ret
    exact ⟨rfl, HB.out⟩

end Go.Proofs.Ytbfmpcomjmcfjaa
