/- member.Set's Check. -/
import Derived.Test.YtdljihemnfpkaaaMemCheck
namespace Go.Proofs.Ytdljihemnfpkaaa
open Go.RowKit Go.Deep

def setOk (cs : Nat) (bl : Int) (L : List Int) (sp de dn : Int) : Prop :=
  L.length = cs ∧ (de = 255 ∨ (0 ≤ de ∧ de < (cs : Int))) ∧ ((0 ≤ dn ∧ dn ≤ bl - 5) ∧ (dn = 0 ∨ (de ≠ 255 ∧ sp ≠ 255))) ∧ Apart cs (L ++ if sp = 255 then [] else [sp])
instance (cs : Nat) (bl : Int) (L : List Int) (sp de dn : Int) : Decidable (setOk cs bl L sp de dn) := by unfold setOk; infer_instance
set_option maxRecDepth 100000 in
set_option maxHeartbeats 1000000 in
theorem setCheck_any (sq : Nat) (a : Option Addr) (n c : Nat) (sp de dn : Int) (cs : Nat) (bl pg sz : Int) (L : List Int) (w : World) (hr : RowI w a n c L) (hg : GoodG (cs : Int) bl pg sz) (hsp : In64 sp) (r : Int) (hR : r = if setOk cs bl L sp de dn then 0 else 62) :
    Calls Try.prog 12 #[.agg #[.int .u32 (sq : Int), .slice a n c, .int .i64 sp, .int .i64 de, .int .i64 dn], .agg #[.int .i64 (cs : Int), .int .i64 bl, .int .i64 pg, .int .i64 sz]] w fun e w' => e = .returned (.int .i64 r) ∧ Below w.heap.size w w' := by
  have HS := Lib.hid (sg_new w sq a n c sp de dn cs bl pg sz)
  have HC := Lib.hid fun x : World => check_good (cs : Int) bl pg sz x hg
  obtain ⟨b1, hb1⟩ : ∃ z, z = decide (de = 255 ∨ (0 ≤ de ∧ de < (cs : Int))) := ⟨_, rfl⟩
  obtain ⟨b2, hb2⟩ : ∃ z, z = decide ((0 ≤ dn ∧ dn ≤ bl - 5) ∧ (dn = 0 ∨ (de ≠ 255 ∧ sp ≠ 255))) := ⟨_, rfl⟩
  obtain ⟨b3, hb3⟩ : ∃ z, z = decide (Apart cs (L ++ if sp = 255 then [] else [sp])) := ⟨_, rfl⟩
  have H1 := Lib.hid fun x : World => deadRight_any sq a n c sp de dn cs bl pg sz x b1 hb1
  have H2 := Lib.hid fun x : World => doneRight_any sq a n c sp de dn cs bl pg sz x b2 hb2 (by have := hg.2.2.1; omega) (by have := hg.2.2.2.1; omega)
  have H3 : Hid (n = cs → ∀ x : World, Below w.heap.size w x → Calls Try.prog 29 #[.agg #[.int .u32 (sq : Int), .slice a n c, .int .i64 sp, .int .i64 de, .int .i64 dn], .agg #[.int .i64 (cs : Int), .int .i64 bl, .int .i64 pg, .int .i64 sz]] x fun e w' => e = .returned (.bool b3) ∧ Below x.heap.size x w') := Lib.hid fun hn x hx => by
    have := hg.2.1
    exact apart_any sq a n c sp de dn cs bl pg sz x L _ (rowI_below hr hx) (by omega) (by omega) hsp rfl b3 hb3
  have HR : Hid (r = if n = cs ∧ b1 = true ∧ b2 = true ∧ b3 = true then 0 else 62) := Lib.hid (by
    rw [hR, hb1, hb2, hb3]
    have hiff : setOk cs bl L sp de dn ↔ (n = cs ∧ decide (de = 255 ∨ (0 ≤ de ∧ de < (cs : Int))) = true ∧ decide ((0 ≤ dn ∧ dn ≤ bl - 5) ∧ (dn = 0 ∨ (de ≠ 255 ∧ sp ≠ 255))) = true ∧ decide (Apart cs (L ++ if sp = 255 then [] else [sp])) = true) := by
      simp only [decide_eq_true_eq]
      unfold setOk
      rw [hr.1]
    by_cases h : setOk cs bl L sp de dn
    · rw [if_pos h, if_pos (hiff.1 h)]
    · rw [if_neg h, if_neg (fun q => h (hiff.2 q))])
  clear hR hr hg hsp hb1 hb2 hb3
  go_enter Try.func12, Try.ntmps12
  go_upto_region 1 with fail
  obtain ⟨w1, hw1⟩ : ∃ x, x = (w.alloc (.cells #[.int .u32 (sq : Int), .slice a n c, .int .i64 sp, .int .i64 de, .int .i64 dn] 31)).alloc (.cells #[.int .i64 (cs : Int), .int .i64 bl, .int .i64 pg, .int .i64 sz] 27) := ⟨_, rfl⟩
  obtain ⟨b, hb⟩ : ∃ x, x = w.heap.size := ⟨_, rfl⟩
  rw [← hw1, ← hb] at HS
  rw [← hw1, ← hb]
  clear hw1 hb
  obtain ⟨z0, z1, z2, z3, z4, y0, y1, y2, y3⟩ := HS.out.cells
  go_wp2_with fail
  ((with_reducible refine (HC.out _).mono ?_))
  rintro e w2 ⟨rfl, hb2⟩
  have HS2 := Lib.hid (HS.out.step hb2)
  clear hb2 z0 z1 z2 z3 z4 y0 y1 y2 y3 HS
  obtain ⟨z0, z1, z2, z3, z4, y0, y1, y2, y3⟩ := HS2.out.cells
  by_cases hn : n = cs
  · have q0 : ((n : Int) != (cs : Int)) = false := by simp; omega
    have q0' : (n != cs) = false := by simp; omega
    have HN := Lib.hid hn
    clear hn
    go_wp2_with fail
    ((with_reducible refine (H1.out _).mono ?_))
    rintro e w3 ⟨rfl, hb3⟩
    have HS3 := Lib.hid (HS2.out.step hb3)
    clear hb3 z0 z1 z2 z3 z4 y0 y1 y2 y3 HS2
    obtain ⟨z0, z1, z2, z3, z4, y0, y1, y2, y3⟩ := HS3.out.cells
    cases b1 with
    | false =>
      have E := Lib.hid (HR.out.trans (show _ = (62 : Int) by simp))
      go_wp2
      go_ret
      exact ⟨by rw [E.out]; rfl, HS3.out.2.2⟩
    | true =>
      go_wp2_with fail
      ((with_reducible refine (H2.out _).mono ?_))
      rintro e w4 ⟨rfl, hb4⟩
      have HS4 := Lib.hid (HS3.out.step hb4)
      clear hb4 z0 z1 z2 z3 z4 y0 y1 y2 y3 HS3
      obtain ⟨z0, z1, z2, z3, z4, y0, y1, y2, y3⟩ := HS4.out.cells
      cases b2 with
      | false =>
        have E := Lib.hid (HR.out.trans (show _ = (62 : Int) by simp))
        go_wp2
        go_ret
        exact ⟨by rw [E.out]; rfl, HS4.out.2.2⟩
      | true =>
        have h3 := H3.out HN.out _ HS4.out.2.2
        go_wp2_with fail
        ((with_reducible refine h3.mono ?_))
        rintro e w5 ⟨rfl, hb5⟩
        have HS5 := Lib.hid (HS4.out.step hb5)
        have E := Lib.hid (HR.out.trans (show _ = if b3 = true then (0 : Int) else 62 by simp [HN.out]))
        clear hb5 z0 z1 z2 z3 z4 y0 y1 y2 y3 HS4 h3
        cases b3 with
        | false =>
          go_wp2
          go_ret
          exact ⟨by rw [E.out]; rfl, HS5.out.2.2⟩
        | true =>
          go_wp2
          go_ret
          exact ⟨by rw [E.out]; rfl, HS5.out.2.2⟩
  · have q0 : ((n : Int) != (cs : Int)) = true := by simp; omega
    have q0' : (n != cs) = true := by simp; omega
    have E := Lib.hid (HR.out.trans (show _ = (62 : Int) by simp [hn]))
    clear hn
    go_wp2
    go_ret
    exact ⟨by rw [E.out]; rfl, HS2.out.2.2⟩

/-- A number, modulo k. -/
def modM (k : Nat) (x : Int) : Nat := ((IntKind.u64.wrap x).tmod (k : Int)).toNat
theorem modM_eq (k : Nat) (x : Int) (h0 : 0 < k) (h1 : k ≤ 1000) : (IntKind.u64.wrap x).tmod (k : Int) = (modM k x : Int) ∧ modM k x < k := by
  have h2 : 0 ≤ IntKind.u64.wrap x := by rw [IntKind.wrap_u64]; omega
  have h3 : 0 ≤ (IntKind.u64.wrap x).tmod (k : Int) := Int.tmod_nonneg _ h2
  have h4 : (IntKind.u64.wrap x).tmod (k : Int) < (k : Int) := Int.tmod_lt_of_pos _ (by omega)
  unfold modM
  omega
/-- How many members. -/
def memN (x : Int) : Nat := 3 + modM 14 x
theorem mod14_eq (x : Int) : wrap64 (3 + wrap64 ((IntKind.u64.wrap x).tmod 14)) = (memN x : Int) ∧ 3 ≤ memN x ∧ memN x ≤ 16 := by
  unfold memN
  obtain ⟨h1, h2⟩ := modM_eq 14 x (by omega) (by omega)
  rw [show ((14 : Nat) : Int) = 14 from rfl] at h1
  have e1 : wrap64 ((IntKind.u64.wrap x).tmod 14) = (modM 14 x : Int) := by rw [h1]; exact IntWalk.wrap64_in _ (by omega)
  rw [e1]
  refine ⟨?_, by omega, by omega⟩
  rw [IntWalk.wrap64_in _ (by omega)]
  omega
theorem memShape_any (x : Int) (w : World) : Calls Try.prog 6 #[.int .i64 x] w fun e w' => e = .returned (.agg #[.int .i64 (memN x : Int), .int .i64 20, .int .i64 6, .int .i64 256]) ∧ Below w.heap.size w w' := by
  have hq := (mod14_eq x).1
  go_enter Try.func6, Try.ntmps6
  go_wp2
  rw [← hq]
  exact bodyPost_ret (v := .agg #[.int .i64 (wrap64 (3 + wrap64 ((IntKind.u64.wrap x).tmod 14))), .int .i64 20, .int .i64 6, .int .i64 256]) (by simp [results, Try.results6, go_sem]) rfl ⟨rfl, bel_alloc (Below.refl _ w) _⟩
set_option maxRecDepth 100000 in
set_option maxHeartbeats 1000000 in
theorem memFirst0_any (w : World) : Calls Try.prog 5 #[] w fun e w' => e = .returned (.bool true) ∧ Below w.heap.size w w' := by
  have HSH := Lib.hid fun x : World => memShape_any 0 x
  rw [show ((memN 0 : Nat) : Int) = 3 by decide] at HSH
  have HFI := Lib.hid fun x : World => memFirst_any 3 20 6 256 x (by omega)
  rw [show ((3 : Nat) : Int) = 3 from rfl] at HFI
  have HFU := Lib.hid fun (a : Option Addr) (n c : Nat) (x : World) => full_any 1 a n c 3 255 0 x
  rw [show ((1 : Nat) : Int) = 1 from rfl] at HFU
  go_enter Try.func5, Try.ntmps5
  go_wp2_with fail
  ((with_reducible refine (HSH.out _).mono ?_))
  rintro e w2 ⟨rfl, hb2⟩
  have HB2 := Lib.hid hb2
  clear hb2
  go_wp2_with fail
  ((with_reducible refine (HFI.out _).mono ?_))
  rintro e w3 ⟨v, rfl, ho, hb3⟩
  obtain ⟨a, c, rfl, hrow, _⟩ := ownI_row ho (firstL_in 3 (by omega))
  have HB3 := Lib.hid (bel_trans HB2.out hb3)
  rw [firstL_len] at hrow ⊢
  have l0 := heap_alloc_new w3 (.cells #[.int .u32 1, .slice a 3 c, .int .i64 3, .int .i64 255, .int .i64 0] 31)
  have hr4 := rowI_below hrow (bel_alloc (Below.refl _ w3) (.cells #[.int .u32 1, .slice a 3 c, .int .i64 3, .int .i64 255, .int .i64 0] 31))
  have hb4 := bel_alloc HB3.out (.cells #[.int .u32 1, .slice a 3 c, .int .i64 3, .int .i64 255, .int .i64 0] 31)
  clear ho hb3 hrow
  go_upto_region 2 with fail
  obtain ⟨b, hb⟩ : ∃ x, x = w3.heap.size := ⟨_, rfl⟩
  obtain ⟨w4, hw4⟩ : ∃ x, x = w3.alloc (.cells #[.int .u32 1, .slice a 3 c, .int .i64 3, .int .i64 255, .int .i64 0] 31) := ⟨_, rfl⟩
  rw [← hw4, ← hb] at l0
  rw [← hw4] at hr4 hb4
  rw [← hw4, ← hb]
  have HB4 := Lib.hid hb4
  clear hb hw4 hb4
  obtain ⟨eb, eo, rfl, hcell, _, _⟩ := rowI_at hr4 (k := 2) (by omega)
  rw [firstL_at 3 2 (by omega)] at hcell
  obtain ⟨z0, z1, z2, z3, z4⟩ := five_at l0
  have HBL := Lib.hid l0
  clear hr4 l0
  go_wp2_with fail
  ((with_reducible refine (HFU.out _ _ _ _).mono ?_))
  rintro e w5 ⟨rfl, hb5⟩
  obtain ⟨y0, y1, y2, y3, y4⟩ := five_at ((hb5.block _ (Array.getElem?_eq_some_iff.1 HBL.out).1).trans HBL.out)
  have HB5 := Lib.hid (bel_trans HB4.out hb5)
  clear hb5 z0 z1 z2 z3 z4
  go_wp2
  go_ret
  exact ⟨rfl, HB5.out⟩
end Go.Proofs.Ytdljihemnfpkaaa
