/- GeomNumbers: the walk. -/
import Derived.Test.YtmggjknljbpbgaaGeoRefN
import Derived.Test.YtmggjknljbpbgaaGeomNextsWalk
namespace Go.Proofs.Ytmggjknljbpbgaa
open Go.RowKit

/-- A shape's box and two places'. -/
def NB (W : World) (a b c d p q r : Int) (bq : Nat) (s t u : Int) (x : World) : Prop :=
  GP W W.heap.size a b c d (W.heap.size + 1) p q r x ∧ x.cell? ⟨bq, 0, none⟩ = some (.int .i64 s) ∧ x.cell? ⟨bq, 1, none⟩ = some (.int .i64 t) ∧ x.cell? ⟨bq, 2, none⟩ = some (.int .i64 u)
theorem NB.step {W x y : World} {a b c d p q r : Int} {bq : Nat} {s t u : Int} (h : NB W a b c d p q r bq s t u x) (hb : Below x.heap.size x y) : NB W a b c d p q r bq s t u y :=
  ⟨h.1.step hb, cell_step h.2.1 hb, cell_step h.2.2.1 hb, cell_step h.2.2.2 hb⟩
theorem nb_new {W x : World} {a b c d p q r : Int} (h : GP W W.heap.size a b c d (W.heap.size + 1) p q r x) (s t u : Int) : NB W a b c d p q r x.heap.size s t u (x.alloc (.cells #[.int .i64 s, .int .i64 t, .int .i64 u] 33)) := by
  obtain ⟨h0, h1, h2⟩ := three_new x (.int .i64 s) (.int .i64 t) (.int .i64 u) 33
  exact ⟨h.step (bel_alloc (Below.refl _ _) _), h0, h1, h2⟩

set_option maxRecDepth 100000 in
set_option maxHeartbeats 3200000 in
theorem numbers_bad (a b c d p q r : Int) (n : Nat) (w : World) (hg : ¬ GoodG a b c d) :
    Calls Try.prog 4 #[.agg #[.int .i64 a, .int .i64 b, .int .i64 c, .int .i64 d], .agg #[.int .i64 p, .int .i64 q, .int .i64 r], .int .u32 (n : Int)] w fun e w' => e = .returned (.bool true) ∧ Below w.heap.size w w' := by
  have HPl := Lib.hid placed_any
  have HC := Lib.hid fun x : World => check_bad a b c d x hg
  have HK := Lib.hid fun x : World => number_badGeo a b c d p q r x hg
  have HA := Lib.hid fun x : World => at_badGeo a b c d n x hg
  have HEQ := Lib.hid (eql_place 0 0 0)
  clear hg
  have H0 := Lib.hid (gp_new w a b c d p q r)
  go_enter Try.func4, Try.ntmps4
  obtain ⟨⟨c0, c1, c2, c3, _⟩, p0, p1, p2⟩ := H0.out
  go_wp2_with fail
  ((with_reducible refine (HK.out _).mono ?_))
  rintro e w1 ⟨rfl, hb⟩
  have H1 := Lib.hid (H0.out.step hb)
  clear hb c0 c1 c2 c3 p0 p1 p2
  obtain ⟨⟨c0, c1, c2, c3, _⟩, p0, p1, p2⟩ := H1.out
  go_wp2_with fail
  ((with_reducible refine (HA.out _).mono ?_))
  rintro e w2 ⟨rfl, hb⟩
  have H2 := Lib.hid (H1.out.step hb)
  clear hb c0 c1 c2 c3 p0 p1 p2
  have H3 := Lib.hid (nb_new H2.out 0 0 0)
  obtain ⟨bq, hbq⟩ : ∃ bq, bq = w2.heap.size := ⟨_, rfl⟩
  go_upto_region 3 with fail
  rw [← hbq] at H3 ⊢
  obtain ⟨w3, hw⟩ : ∃ x, x = w2.alloc (.cells #[.int .i64 0, .int .i64 0, .int .i64 0] 33) := ⟨_, rfl⟩
  rw [← hw] at H3 ⊢
  clear hw hbq
  obtain ⟨⟨⟨c0, c1, c2, c3, _⟩, p0, p1, p2⟩, s0, s1, s2⟩ := H3.out
  go_wp2_with fail
  ((with_reducible refine (HC.out _).mono ?_))
  rintro e w4 ⟨rfl, hb⟩
  have H4 := Lib.hid (H3.out.step hb)
  clear hb c0 c1 c2 c3 p0 p1 p2 s0 s1 s2
  obtain ⟨⟨⟨c0, c1, c2, c3, _⟩, p0, p1, p2⟩, s0, s1, s2⟩ := H4.out
  go_wp2_with fail
  ((with_reducible refine (HPl.out _).mono ?_))
  rintro e w5 ⟨rfl, hb⟩
  have H5 := Lib.hid (H4.out.step hb)
  clear hb c0 c1 c2 c3 p0 p1 p2 s0 s1 s2
  obtain ⟨⟨⟨c0, c1, c2, c3, hbe⟩, p0, p1, p2⟩, s0, s1, s2⟩ := H5.out
  have he := HEQ.out
  go_wp2
  go_ret
  exact ⟨rfl, hbe⟩
theorem num_lt {a b c d p q r : Int} (hg : GoodG a b c d) (h : InR a b c p q r) : NumOf a c p q r ≤ (b - 5) * (c * (a - 1)) := by
  obtain ⟨h1, h2, h3⟩ := h
  have g1 := hg.1
  have g5 := hg.2.2.2.2.1
  unfold NumOf
  have e1 : p * c + q + 1 ≤ (b - 5) * c := by
    have := Int.mul_le_mul_of_nonneg_right (show p + 1 ≤ b - 5 by omega) (show 0 ≤ c by omega)
    rw [Int.add_mul] at this; omega
  have e2 := Int.mul_le_mul_of_nonneg_right e1 (show 0 ≤ a - 1 by omega)
  rw [Int.add_mul, Int.mul_assoc (b - 5)] at e2
  omega
set_option maxRecDepth 100000 in
set_option maxHeartbeats 3200000 in
theorem numbers_oo (a b c d p q r : Int) (n : Nat) (w : World) (hg : GoodG a b c d) (hn : n < 4294967296) (hp : ¬ InR a b c p q r) (hv : ¬ (1 ≤ n ∧ (n : Int) ≤ (b - 5) * (c * (a - 1)))) :
    Calls Try.prog 4 #[.agg #[.int .i64 a, .int .i64 b, .int .i64 c, .int .i64 d], .agg #[.int .i64 p, .int .i64 q, .int .i64 r], .int .u32 (n : Int)] w fun e w' => e = .returned (.bool true) ∧ Below w.heap.size w w' := by
  have HPl := Lib.hid placed_any
  have HC := Lib.hid fun x : World => check_good a b c d x hg
  have HV := Lib.hid fun x : World => virtual_any a b c d x (by have := hg.2.2.1; omega) (by have := hg.2.2.2.1; omega)
  have hvb := vol_bd hg
  have g1 := hg.1
  have g2 := hg.2.1
  have g3 := hg.2.2.1
  have g4 := hg.2.2.2.1
  have g5 := hg.2.2.2.2.1
  have g6 := hg.2.2.2.2.2.1
  have HK := Lib.hid fun x : World => number_no a b c d p q r x hg hp
  have HR := Lib.hid fun x : World => refNum_no a b c d p q r x hg hp
  have HA := Lib.hid fun x : World => at_no a b c d n x hg hv
  have hvb2 := hvb.2.2
  rw [← Int.mul_assoc] at hvb2
  have m1 := mul_bd (show 0 ≤ b - 5 by omega) (show b - 5 ≤ 59 by omega) (show 0 ≤ c by omega) (show c ≤ 32 by omega)
  have HU1 := Lib.hid (wrap_of (x := (b - 5) * c) (by omega) (by omega))
  have HU2 := Lib.hid (wrap_of (x := (b - 5) * c * (a - 1)) (by omega) (by omega))
  have HU3 := Lib.hid (wrap_of (x := a - 1) (by omega) (by omega))
  have HG := Lib.hid hv
  clear hvb hvb2 m1 hp hv hg
  have H0 := Lib.hid (gp_new w a b c d p q r)
  go_enter Try.func4, Try.ntmps4
  obtain ⟨⟨c0, c1, c2, c3, _⟩, p0, p1, p2⟩ := H0.out
  go_wp2_with fail
  ((with_reducible refine (HK.out _).mono ?_))
  rintro e w1 ⟨rfl, hb⟩
  have H1 := Lib.hid (H0.out.step hb)
  clear hb c0 c1 c2 c3 p0 p1 p2
  obtain ⟨⟨c0, c1, c2, c3, _⟩, p0, p1, p2⟩ := H1.out
  go_wp2_with fail
  ((with_reducible refine (HA.out _).mono ?_))
  rintro e w2 ⟨rfl, hb⟩
  have H2 := Lib.hid (H1.out.step hb)
  clear hb c0 c1 c2 c3 p0 p1 p2
  have H3 := Lib.hid (nb_new H2.out 0 0 0)
  obtain ⟨bq, hbq⟩ : ∃ bq, bq = w2.heap.size := ⟨_, rfl⟩
  go_upto_region 3 with fail
  rw [← hbq] at H3 ⊢
  obtain ⟨w3, hw⟩ : ∃ x, x = w2.alloc (.cells #[.int .i64 0, .int .i64 0, .int .i64 0] 33) := ⟨_, rfl⟩
  rw [← hw] at H3 ⊢
  clear hw hbq
  obtain ⟨⟨⟨c0, c1, c2, c3, _⟩, p0, p1, p2⟩, s0, s1, s2⟩ := H3.out
  go_wp2_with fail
  ((with_reducible refine (HC.out _).mono ?_))
  rintro e w4 ⟨rfl, hb⟩
  have H4 := Lib.hid (H3.out.step hb)
  clear hb c0 c1 c2 c3 p0 p1 p2 s0 s1 s2
  obtain ⟨⟨⟨c0, c1, c2, c3, _⟩, p0, p1, p2⟩, s0, s1, s2⟩ := H4.out
  go_wp2_with fail
  ((with_reducible refine (HPl.out _).mono ?_))
  rintro e w5 ⟨rfl, hb⟩
  have H5 := Lib.hid (H4.out.step hb)
  clear hb c0 c1 c2 c3 p0 p1 p2 s0 s1 s2
  obtain ⟨⟨⟨c0, c1, c2, c3, _⟩, p0, p1, p2⟩, s0, s1, s2⟩ := H5.out
  go_wp2_with fail
  ((with_reducible refine (HR.out _).mono ?_))
  rintro e w6 ⟨rfl, hb⟩
  have H6 := Lib.hid (H5.out.step hb)
  clear hb c0 c1 c2 c3 p0 p1 p2 s0 s1 s2
  go_upto_region 11 with fail
  obtain ⟨S, hSd⟩ : ∃ S : World → Prop, (∀ x, S x → NB w a b c d p q r bq 0 0 0 x) ∧ (∀ x, NB w a b c d p q r bq 0 0 0 x → S x) := ⟨_, fun _ h => h, fun _ h => h⟩
  have hS0 := hSd.2 _ (H6.out.step ((Below.refl _ _).drew))
  haveI hne : Nonempty (Wd S) := ⟨⟨_, hS0⟩⟩
  have HS := Lib.hid hSd
  clear hSd
  have f0 : ∀ y : Wd S, y.w.cell? ⟨w.heap.size, 0, none⟩ = some (.int .i64 a) := fun y => (HS.out.1 _ y.ok).1.1.1
  have f1 : ∀ y : Wd S, y.w.cell? ⟨w.heap.size, 1, none⟩ = some (.int .i64 b) := fun y => (HS.out.1 _ y.ok).1.1.2.1
  have f2 : ∀ y : Wd S, y.w.cell? ⟨w.heap.size, 2, none⟩ = some (.int .i64 c) := fun y => (HS.out.1 _ y.ok).1.1.2.2.1
  have f3 : ∀ y : Wd S, y.w.cell? ⟨w.heap.size, 3, none⟩ = some (.int .i64 d) := fun y => (HS.out.1 _ y.ok).1.1.2.2.2.1
  have HST : Hid (∀ (y : Wd S) (z : World), Below y.w.heap.size y.w z → S z) := Lib.hid fun y z hb => HS.out.2 _ ((HS.out.1 _ y.ok).step hb)
  have u1 := HU1.out
  have u2 := HU2.out
  have u3 := HU3.out
  refine wp_region_wd S (by kernel_rfl) (by kernel_rfl) hS0 ?_
  repeat (go_big_quiet_step (first
    | (go_at_call 27; with_reducible exact Calls.wd (HST.out _) (HV.out _))))
  refine wpQuiet_nil ?_
  intro w9 hw'
  have H9 := Lib.hid (HS.out.1 _ (wd_ok hw'))
  clear hw' u1 u2 u3 f0 f1 f2 f3 hne
  by_cases h1 : 1 ≤ n
  · have k1 : decide ((1 : Int) ≤ (n : Int)) = true := by simp; omega
    have k2 : decide ((n : Int) ≤ (b - 5) * c * (a - 1)) = false := by rw [Int.mul_assoc]; have := HG.out; simp; omega
    go_wp2
    go_ret
    exact ⟨rfl, H9.out.1.1.2.2.2.2⟩
  · have k1 : decide ((1 : Int) ≤ (n : Int)) = false := by simp; omega
    go_wp2
    go_ret
    exact ⟨rfl, H9.out.1.1.2.2.2.2⟩
set_option maxRecDepth 100000 in
set_option maxHeartbeats 3200000 in
theorem numbers_oi (a b c d p q r : Int) (n : Nat) (w : World) (hg : GoodG a b c d) (hn : n < 4294967296) (hp : ¬ InR a b c p q r) (hv : (1 ≤ n ∧ (n : Int) ≤ (b - 5) * (c * (a - 1)))) :
    Calls Try.prog 4 #[.agg #[.int .i64 a, .int .i64 b, .int .i64 c, .int .i64 d], .agg #[.int .i64 p, .int .i64 q, .int .i64 r], .int .u32 (n : Int)] w fun e w' => e = .returned (.bool true) ∧ Below w.heap.size w w' := by
  have HPl := Lib.hid placed_any
  have HC := Lib.hid fun x : World => check_good a b c d x hg
  have HV := Lib.hid fun x : World => virtual_any a b c d x (by have := hg.2.2.1; omega) (by have := hg.2.2.2.1; omega)
  have hvb := vol_bd hg
  have g1 := hg.1
  have g2 := hg.2.1
  have g3 := hg.2.2.1
  have g4 := hg.2.2.2.1
  have g5 := hg.2.2.2.2.1
  have g6 := hg.2.2.2.2.2.1
  have HK := Lib.hid fun x : World => number_no a b c d p q r x hg hp
  have HR := Lib.hid fun x : World => refNum_no a b c d p q r x hg hp
  obtain ⟨j, rfl⟩ : ∃ j, n = j + 1 := ⟨n - 1, by omega⟩
  have hj : (j : Int) < (b - 5) * (c * (a - 1)) := by omega
  have HA := Lib.hid fun x : World => at_ok a b c d j x hg hj
  obtain ⟨y1, y2⟩ := num_of_at g1 g5 hj
  obtain ⟨sg, hsg⟩ : ∃ v, v = AtSeg a c j := ⟨_, rfl⟩
  obtain ⟨rw', hrw⟩ : ∃ v, v = AtRow a c j := ⟨_, rfl⟩
  obtain ⟨sl, hsl⟩ : ∃ v, v = AtSlot a j := ⟨_, rfl⟩
  rw [← hsg, ← hrw, ← hsl] at HA y1 y2
  have HB := Lib.hid fun x : World => number_ok a b c d sg rw' sl x hg y1.1 y1.2.1 y1.2.2
  rw [y2] at HB
  rw [show (((j + 1 : Nat) : Int)) = (j : Int) + 1 by omega] at hv ⊢
  have k1 : decide ((1 : Int) ≤ (j : Int) + 1) = true := by simp; omega
  have k2 : decide ((j : Int) + 1 ≤ (b - 5) * c * (a - 1)) = true := by rw [Int.mul_assoc]; simpa using hv.2
  clear y1 y2 hsg hrw hsl hj
  have hvb2 := hvb.2.2
  rw [← Int.mul_assoc] at hvb2
  have m1 := mul_bd (show 0 ≤ b - 5 by omega) (show b - 5 ≤ 59 by omega) (show 0 ≤ c by omega) (show c ≤ 32 by omega)
  have HU1 := Lib.hid (wrap_of (x := (b - 5) * c) (by omega) (by omega))
  have HU2 := Lib.hid (wrap_of (x := (b - 5) * c * (a - 1)) (by omega) (by omega))
  have HU3 := Lib.hid (wrap_of (x := a - 1) (by omega) (by omega))
  have HG := Lib.hid hv
  clear hvb hvb2 m1 hp hv hg
  have H0 := Lib.hid (gp_new w a b c d p q r)
  go_enter Try.func4, Try.ntmps4
  obtain ⟨⟨c0, c1, c2, c3, _⟩, p0, p1, p2⟩ := H0.out
  go_wp2_with fail
  ((with_reducible refine (HK.out _).mono ?_))
  rintro e w1 ⟨rfl, hb⟩
  have H1 := Lib.hid (H0.out.step hb)
  clear hb c0 c1 c2 c3 p0 p1 p2
  obtain ⟨⟨c0, c1, c2, c3, _⟩, p0, p1, p2⟩ := H1.out
  go_wp2_with fail
  ((with_reducible refine (HA.out _).mono ?_))
  rintro e w2 ⟨rfl, hb⟩
  have H2 := Lib.hid (H1.out.step hb)
  clear hb c0 c1 c2 c3 p0 p1 p2
  have H3 := Lib.hid (nb_new H2.out sg rw' sl)
  obtain ⟨bq, hbq⟩ : ∃ bq, bq = w2.heap.size := ⟨_, rfl⟩
  go_upto_region 3 with fail
  rw [← hbq] at H3 ⊢
  obtain ⟨w3, hw⟩ : ∃ x, x = w2.alloc (.cells #[.int .i64 sg, .int .i64 rw', .int .i64 sl] 33) := ⟨_, rfl⟩
  rw [← hw] at H3 ⊢
  clear hw hbq
  obtain ⟨⟨⟨c0, c1, c2, c3, _⟩, p0, p1, p2⟩, s0, s1, s2⟩ := H3.out
  go_wp2_with fail
  ((with_reducible refine (HC.out _).mono ?_))
  rintro e w4 ⟨rfl, hb⟩
  have H4 := Lib.hid (H3.out.step hb)
  clear hb c0 c1 c2 c3 p0 p1 p2 s0 s1 s2
  obtain ⟨⟨⟨c0, c1, c2, c3, _⟩, p0, p1, p2⟩, s0, s1, s2⟩ := H4.out
  go_wp2_with fail
  ((with_reducible refine (HPl.out _).mono ?_))
  rintro e w5 ⟨rfl, hb⟩
  have H5 := Lib.hid (H4.out.step hb)
  clear hb c0 c1 c2 c3 p0 p1 p2 s0 s1 s2
  obtain ⟨⟨⟨c0, c1, c2, c3, _⟩, p0, p1, p2⟩, s0, s1, s2⟩ := H5.out
  go_wp2_with fail
  ((with_reducible refine (HR.out _).mono ?_))
  rintro e w6 ⟨rfl, hb⟩
  have H6 := Lib.hid (H5.out.step hb)
  clear hb c0 c1 c2 c3 p0 p1 p2 s0 s1 s2
  go_upto_region 11 with fail
  obtain ⟨S, hSd⟩ : ∃ S : World → Prop, (∀ x, S x → NB w a b c d p q r bq sg rw' sl x) ∧ (∀ x, NB w a b c d p q r bq sg rw' sl x → S x) := ⟨_, fun _ h => h, fun _ h => h⟩
  have hS0 := hSd.2 _ (H6.out.step ((Below.refl _ _).drew))
  haveI hne : Nonempty (Wd S) := ⟨⟨_, hS0⟩⟩
  have HS := Lib.hid hSd
  clear hSd
  have f0 : ∀ y : Wd S, y.w.cell? ⟨w.heap.size, 0, none⟩ = some (.int .i64 a) := fun y => (HS.out.1 _ y.ok).1.1.1
  have f1 : ∀ y : Wd S, y.w.cell? ⟨w.heap.size, 1, none⟩ = some (.int .i64 b) := fun y => (HS.out.1 _ y.ok).1.1.2.1
  have f2 : ∀ y : Wd S, y.w.cell? ⟨w.heap.size, 2, none⟩ = some (.int .i64 c) := fun y => (HS.out.1 _ y.ok).1.1.2.2.1
  have f3 : ∀ y : Wd S, y.w.cell? ⟨w.heap.size, 3, none⟩ = some (.int .i64 d) := fun y => (HS.out.1 _ y.ok).1.1.2.2.2.1
  have HST : Hid (∀ (y : Wd S) (z : World), Below y.w.heap.size y.w z → S z) := Lib.hid fun y z hb => HS.out.2 _ ((HS.out.1 _ y.ok).step hb)
  have u1 := HU1.out
  have u2 := HU2.out
  have u3 := HU3.out
  refine wp_region_wd S (by kernel_rfl) (by kernel_rfl) hS0 ?_
  repeat (go_big_quiet_step (first
    | (go_at_call 27; with_reducible exact Calls.wd (HST.out _) (HV.out _))))
  refine wpQuiet_nil ?_
  intro w9 hw'
  have H9 := Lib.hid (HS.out.1 _ (wd_ok hw'))
  clear hw' u1 u2 u3 f0 f1 f2 f3 hne
  obtain ⟨⟨⟨c0, c1, c2, c3, _⟩, p0, p1, p2⟩, s0, s1, s2⟩ := H9.out
  go_wp2_with fail
  ((with_reducible refine (HB.out _).mono ?_))
  rintro e w10 ⟨rfl, hb⟩
  have H10 := Lib.hid (H9.out.step hb)
  clear hb c0 c1 c2 c3 p0 p1 p2 s0 s1 s2
  go_wp2
  go_ret
  exact ⟨rfl, H10.out.1.1.2.2.2.2⟩
set_option maxRecDepth 100000 in
set_option maxHeartbeats 3200000 in
theorem numbers_io (a b c d p q r : Int) (n : Nat) (w : World) (hg : GoodG a b c d) (hn : n < 4294967296) (hp : InR a b c p q r) (hv : ¬ (1 ≤ n ∧ (n : Int) ≤ (b - 5) * (c * (a - 1)))) :
    Calls Try.prog 4 #[.agg #[.int .i64 a, .int .i64 b, .int .i64 c, .int .i64 d], .agg #[.int .i64 p, .int .i64 q, .int .i64 r], .int .u32 (n : Int)] w fun e w' => e = .returned (.bool true) ∧ Below w.heap.size w w' := by
  have HPl := Lib.hid placed_any
  have HC := Lib.hid fun x : World => check_good a b c d x hg
  have HV := Lib.hid fun x : World => virtual_any a b c d x (by have := hg.2.2.1; omega) (by have := hg.2.2.2.1; omega)
  have hvb := vol_bd hg
  have g1 := hg.1
  have g2 := hg.2.1
  have g3 := hg.2.2.1
  have g4 := hg.2.2.2.1
  have g5 := hg.2.2.2.2.1
  have g6 := hg.2.2.2.2.2.1
  obtain ⟨_, _, _, _, kb1, kb2⟩ := refNum_bd hg hp
  have HK := Lib.hid fun x : World => number_ok a b c d p q r x hg hp.1 hp.2.1 hp.2.2
  have HR := Lib.hid fun x : World => refNum_ok a b c d p q r x hg hp
  obtain ⟨i, hi⟩ : ∃ i : Nat, (i : Int) + 1 = NumOf a c p q r := ⟨(NumOf a c p q r - 1).toNat, by omega⟩
  obtain ⟨z1, z2, z3⟩ := at_of_num g1 g5 hp hi
  have hlt : (i : Int) < (b - 5) * (c * (a - 1)) := by
    have := num_lt hg hp; omega
  have HA3 := Lib.hid fun x : World => at_ok a b c d i x hg hlt
  rw [hi, z1, z2, z3] at HA3
  obtain ⟨K, hK⟩ : ∃ K, K = NumOf a c p q r := ⟨_, rfl⟩
  rw [← hK] at HK HR HA3 kb1 kb2
  have kk : (K != 0) = true := by simp; omega
  have HNP := Lib.hid (neq_place p q r)
  clear hi z1 z2 z3 hlt hK
  have HA := Lib.hid fun x : World => at_no a b c d n x hg hv
  have hvb2 := hvb.2.2
  rw [← Int.mul_assoc] at hvb2
  have m1 := mul_bd (show 0 ≤ b - 5 by omega) (show b - 5 ≤ 59 by omega) (show 0 ≤ c by omega) (show c ≤ 32 by omega)
  have HU1 := Lib.hid (wrap_of (x := (b - 5) * c) (by omega) (by omega))
  have HU2 := Lib.hid (wrap_of (x := (b - 5) * c * (a - 1)) (by omega) (by omega))
  have HU3 := Lib.hid (wrap_of (x := a - 1) (by omega) (by omega))
  have HG := Lib.hid hv
  clear hvb hvb2 m1 hp hv hg
  have H0 := Lib.hid (gp_new w a b c d p q r)
  go_enter Try.func4, Try.ntmps4
  obtain ⟨⟨c0, c1, c2, c3, _⟩, p0, p1, p2⟩ := H0.out
  go_wp2_with fail
  ((with_reducible refine (HK.out _).mono ?_))
  rintro e w1 ⟨rfl, hb⟩
  have H1 := Lib.hid (H0.out.step hb)
  clear hb c0 c1 c2 c3 p0 p1 p2
  obtain ⟨⟨c0, c1, c2, c3, _⟩, p0, p1, p2⟩ := H1.out
  go_wp2_with fail
  ((with_reducible refine (HA.out _).mono ?_))
  rintro e w2 ⟨rfl, hb⟩
  have H2 := Lib.hid (H1.out.step hb)
  clear hb c0 c1 c2 c3 p0 p1 p2
  have H3 := Lib.hid (nb_new H2.out 0 0 0)
  obtain ⟨bq, hbq⟩ : ∃ bq, bq = w2.heap.size := ⟨_, rfl⟩
  go_upto_region 3 with fail
  rw [← hbq] at H3 ⊢
  obtain ⟨w3, hw⟩ : ∃ x, x = w2.alloc (.cells #[.int .i64 0, .int .i64 0, .int .i64 0] 33) := ⟨_, rfl⟩
  rw [← hw] at H3 ⊢
  clear hw hbq
  obtain ⟨⟨⟨c0, c1, c2, c3, _⟩, p0, p1, p2⟩, s0, s1, s2⟩ := H3.out
  go_wp2_with fail
  ((with_reducible refine (HC.out _).mono ?_))
  rintro e w4 ⟨rfl, hb⟩
  have H4 := Lib.hid (H3.out.step hb)
  clear hb c0 c1 c2 c3 p0 p1 p2 s0 s1 s2
  obtain ⟨⟨⟨c0, c1, c2, c3, _⟩, p0, p1, p2⟩, s0, s1, s2⟩ := H4.out
  go_wp2_with fail
  ((with_reducible refine (HPl.out _).mono ?_))
  rintro e w5 ⟨rfl, hb⟩
  have H5 := Lib.hid (H4.out.step hb)
  clear hb c0 c1 c2 c3 p0 p1 p2 s0 s1 s2
  obtain ⟨⟨⟨c0, c1, c2, c3, _⟩, p0, p1, p2⟩, s0, s1, s2⟩ := H5.out
  go_wp2_with fail
  ((with_reducible refine (HR.out _).mono ?_))
  rintro e w6 ⟨rfl, hb⟩
  have H6 := Lib.hid (H5.out.step hb)
  clear hb c0 c1 c2 c3 p0 p1 p2 s0 s1 s2
  obtain ⟨⟨⟨c0, c1, c2, c3, _⟩, p0, p1, p2⟩, s0, s1, s2⟩ := H6.out
  go_wp2_with fail
  ((with_reducible refine (HA3.out _).mono ?_))
  rintro e w7 ⟨rfl, hb⟩
  have H7 := Lib.hid (H6.out.step hb)
  clear hb c0 c1 c2 c3 p0 p1 p2 s0 s1 s2
  have H8 := Lib.hid (nb_new H7.out.1 p q r)
  have HX8 := Lib.hid (H7.out.step (bel_alloc (Below.refl _ w7) (.cells #[.int .i64 p, .int .i64 q, .int .i64 r] 33)))
  obtain ⟨br, hbr⟩ : ∃ br, br = w7.heap.size := ⟨_, rfl⟩
  go_upto_region 9 with fail
  rw [← hbr] at H8 ⊢
  obtain ⟨w8, hw⟩ : ∃ x, x = w7.alloc (.cells #[.int .i64 p, .int .i64 q, .int .i64 r] 33) := ⟨_, rfl⟩
  rw [← hw] at H8 HX8 ⊢
  clear hw hbr
  obtain ⟨⟨⟨c0, c1, c2, c3, _⟩, p0, p1, p2⟩, r0, r1, r2⟩ := H8.out
  have hne := HNP.out
  go_upto_region 11 with fail
  clear c0 c1 c2 c3 p0 p1 p2 r0 r1 r2 hne
  obtain ⟨S, hSd⟩ : ∃ S : World → Prop, (∀ x, S x → NB w a b c d p q r bq 0 0 0 x) ∧ (∀ x, NB w a b c d p q r bq 0 0 0 x → S x) := ⟨_, fun _ h => h, fun _ h => h⟩
  have hS0 := hSd.2 _ (HX8.out.step ((Below.refl _ _).drew))
  haveI hne : Nonempty (Wd S) := ⟨⟨_, hS0⟩⟩
  have HS := Lib.hid hSd
  clear hSd
  have f0 : ∀ y : Wd S, y.w.cell? ⟨w.heap.size, 0, none⟩ = some (.int .i64 a) := fun y => (HS.out.1 _ y.ok).1.1.1
  have f1 : ∀ y : Wd S, y.w.cell? ⟨w.heap.size, 1, none⟩ = some (.int .i64 b) := fun y => (HS.out.1 _ y.ok).1.1.2.1
  have f2 : ∀ y : Wd S, y.w.cell? ⟨w.heap.size, 2, none⟩ = some (.int .i64 c) := fun y => (HS.out.1 _ y.ok).1.1.2.2.1
  have f3 : ∀ y : Wd S, y.w.cell? ⟨w.heap.size, 3, none⟩ = some (.int .i64 d) := fun y => (HS.out.1 _ y.ok).1.1.2.2.2.1
  have HST : Hid (∀ (y : Wd S) (z : World), Below y.w.heap.size y.w z → S z) := Lib.hid fun y z hb => HS.out.2 _ ((HS.out.1 _ y.ok).step hb)
  have u1 := HU1.out
  have u2 := HU2.out
  have u3 := HU3.out
  refine wp_region_wd S (by kernel_rfl) (by kernel_rfl) hS0 ?_
  repeat (go_big_quiet_step (first
    | (go_at_call 27; with_reducible exact Calls.wd (HST.out _) (HV.out _))))
  refine wpQuiet_nil ?_
  intro w9 hw'
  have H9 := Lib.hid (HS.out.1 _ (wd_ok hw'))
  clear hw' u1 u2 u3 f0 f1 f2 f3 hne
  by_cases h1 : 1 ≤ n
  · have k1 : decide ((1 : Int) ≤ (n : Int)) = true := by simp; omega
    have k2 : decide ((n : Int) ≤ (b - 5) * c * (a - 1)) = false := by rw [Int.mul_assoc]; have := HG.out; simp; omega
    go_wp2
    go_ret
    exact ⟨rfl, H9.out.1.1.2.2.2.2⟩
  · have k1 : decide ((1 : Int) ≤ (n : Int)) = false := by simp; omega
    go_wp2
    go_ret
    exact ⟨rfl, H9.out.1.1.2.2.2.2⟩
set_option maxRecDepth 100000 in
set_option maxHeartbeats 3200000 in
theorem numbers_ii (a b c d p q r : Int) (n : Nat) (w : World) (hg : GoodG a b c d) (hn : n < 4294967296) (hp : InR a b c p q r) (hv : (1 ≤ n ∧ (n : Int) ≤ (b - 5) * (c * (a - 1)))) :
    Calls Try.prog 4 #[.agg #[.int .i64 a, .int .i64 b, .int .i64 c, .int .i64 d], .agg #[.int .i64 p, .int .i64 q, .int .i64 r], .int .u32 (n : Int)] w fun e w' => e = .returned (.bool true) ∧ Below w.heap.size w w' := by
  have HPl := Lib.hid placed_any
  have HC := Lib.hid fun x : World => check_good a b c d x hg
  have HV := Lib.hid fun x : World => virtual_any a b c d x (by have := hg.2.2.1; omega) (by have := hg.2.2.2.1; omega)
  have hvb := vol_bd hg
  have g1 := hg.1
  have g2 := hg.2.1
  have g3 := hg.2.2.1
  have g4 := hg.2.2.2.1
  have g5 := hg.2.2.2.2.1
  have g6 := hg.2.2.2.2.2.1
  obtain ⟨_, _, _, _, kb1, kb2⟩ := refNum_bd hg hp
  have HK := Lib.hid fun x : World => number_ok a b c d p q r x hg hp.1 hp.2.1 hp.2.2
  have HR := Lib.hid fun x : World => refNum_ok a b c d p q r x hg hp
  obtain ⟨i, hi⟩ : ∃ i : Nat, (i : Int) + 1 = NumOf a c p q r := ⟨(NumOf a c p q r - 1).toNat, by omega⟩
  obtain ⟨z1, z2, z3⟩ := at_of_num g1 g5 hp hi
  have hlt : (i : Int) < (b - 5) * (c * (a - 1)) := by
    have := num_lt hg hp; omega
  have HA3 := Lib.hid fun x : World => at_ok a b c d i x hg hlt
  rw [hi, z1, z2, z3] at HA3
  obtain ⟨K, hK⟩ : ∃ K, K = NumOf a c p q r := ⟨_, rfl⟩
  rw [← hK] at HK HR HA3 kb1 kb2
  have kk : (K != 0) = true := by simp; omega
  have HNP := Lib.hid (neq_place p q r)
  clear hi z1 z2 z3 hlt hK
  obtain ⟨j, rfl⟩ : ∃ j, n = j + 1 := ⟨n - 1, by omega⟩
  have hj : (j : Int) < (b - 5) * (c * (a - 1)) := by omega
  have HA := Lib.hid fun x : World => at_ok a b c d j x hg hj
  obtain ⟨y1, y2⟩ := num_of_at g1 g5 hj
  obtain ⟨sg, hsg⟩ : ∃ v, v = AtSeg a c j := ⟨_, rfl⟩
  obtain ⟨rw', hrw⟩ : ∃ v, v = AtRow a c j := ⟨_, rfl⟩
  obtain ⟨sl, hsl⟩ : ∃ v, v = AtSlot a j := ⟨_, rfl⟩
  rw [← hsg, ← hrw, ← hsl] at HA y1 y2
  have HB := Lib.hid fun x : World => number_ok a b c d sg rw' sl x hg y1.1 y1.2.1 y1.2.2
  rw [y2] at HB
  rw [show (((j + 1 : Nat) : Int)) = (j : Int) + 1 by omega] at hv ⊢
  have k1 : decide ((1 : Int) ≤ (j : Int) + 1) = true := by simp; omega
  have k2 : decide ((j : Int) + 1 ≤ (b - 5) * c * (a - 1)) = true := by rw [Int.mul_assoc]; simpa using hv.2
  clear y1 y2 hsg hrw hsl hj
  have hvb2 := hvb.2.2
  rw [← Int.mul_assoc] at hvb2
  have m1 := mul_bd (show 0 ≤ b - 5 by omega) (show b - 5 ≤ 59 by omega) (show 0 ≤ c by omega) (show c ≤ 32 by omega)
  have HU1 := Lib.hid (wrap_of (x := (b - 5) * c) (by omega) (by omega))
  have HU2 := Lib.hid (wrap_of (x := (b - 5) * c * (a - 1)) (by omega) (by omega))
  have HU3 := Lib.hid (wrap_of (x := a - 1) (by omega) (by omega))
  have HG := Lib.hid hv
  clear hvb hvb2 m1 hp hv hg
  have H0 := Lib.hid (gp_new w a b c d p q r)
  go_enter Try.func4, Try.ntmps4
  obtain ⟨⟨c0, c1, c2, c3, _⟩, p0, p1, p2⟩ := H0.out
  go_wp2_with fail
  ((with_reducible refine (HK.out _).mono ?_))
  rintro e w1 ⟨rfl, hb⟩
  have H1 := Lib.hid (H0.out.step hb)
  clear hb c0 c1 c2 c3 p0 p1 p2
  obtain ⟨⟨c0, c1, c2, c3, _⟩, p0, p1, p2⟩ := H1.out
  go_wp2_with fail
  ((with_reducible refine (HA.out _).mono ?_))
  rintro e w2 ⟨rfl, hb⟩
  have H2 := Lib.hid (H1.out.step hb)
  clear hb c0 c1 c2 c3 p0 p1 p2
  have H3 := Lib.hid (nb_new H2.out sg rw' sl)
  obtain ⟨bq, hbq⟩ : ∃ bq, bq = w2.heap.size := ⟨_, rfl⟩
  go_upto_region 3 with fail
  rw [← hbq] at H3 ⊢
  obtain ⟨w3, hw⟩ : ∃ x, x = w2.alloc (.cells #[.int .i64 sg, .int .i64 rw', .int .i64 sl] 33) := ⟨_, rfl⟩
  rw [← hw] at H3 ⊢
  clear hw hbq
  obtain ⟨⟨⟨c0, c1, c2, c3, _⟩, p0, p1, p2⟩, s0, s1, s2⟩ := H3.out
  go_wp2_with fail
  ((with_reducible refine (HC.out _).mono ?_))
  rintro e w4 ⟨rfl, hb⟩
  have H4 := Lib.hid (H3.out.step hb)
  clear hb c0 c1 c2 c3 p0 p1 p2 s0 s1 s2
  obtain ⟨⟨⟨c0, c1, c2, c3, _⟩, p0, p1, p2⟩, s0, s1, s2⟩ := H4.out
  go_wp2_with fail
  ((with_reducible refine (HPl.out _).mono ?_))
  rintro e w5 ⟨rfl, hb⟩
  have H5 := Lib.hid (H4.out.step hb)
  clear hb c0 c1 c2 c3 p0 p1 p2 s0 s1 s2
  obtain ⟨⟨⟨c0, c1, c2, c3, _⟩, p0, p1, p2⟩, s0, s1, s2⟩ := H5.out
  go_wp2_with fail
  ((with_reducible refine (HR.out _).mono ?_))
  rintro e w6 ⟨rfl, hb⟩
  have H6 := Lib.hid (H5.out.step hb)
  clear hb c0 c1 c2 c3 p0 p1 p2 s0 s1 s2
  obtain ⟨⟨⟨c0, c1, c2, c3, _⟩, p0, p1, p2⟩, s0, s1, s2⟩ := H6.out
  go_wp2_with fail
  ((with_reducible refine (HA3.out _).mono ?_))
  rintro e w7 ⟨rfl, hb⟩
  have H7 := Lib.hid (H6.out.step hb)
  clear hb c0 c1 c2 c3 p0 p1 p2 s0 s1 s2
  have H8 := Lib.hid (nb_new H7.out.1 p q r)
  have HX8 := Lib.hid (H7.out.step (bel_alloc (Below.refl _ w7) (.cells #[.int .i64 p, .int .i64 q, .int .i64 r] 33)))
  obtain ⟨br, hbr⟩ : ∃ br, br = w7.heap.size := ⟨_, rfl⟩
  go_upto_region 9 with fail
  rw [← hbr] at H8 ⊢
  obtain ⟨w8, hw⟩ : ∃ x, x = w7.alloc (.cells #[.int .i64 p, .int .i64 q, .int .i64 r] 33) := ⟨_, rfl⟩
  rw [← hw] at H8 HX8 ⊢
  clear hw hbr
  obtain ⟨⟨⟨c0, c1, c2, c3, _⟩, p0, p1, p2⟩, r0, r1, r2⟩ := H8.out
  have hne := HNP.out
  go_upto_region 11 with fail
  clear c0 c1 c2 c3 p0 p1 p2 r0 r1 r2 hne
  obtain ⟨S, hSd⟩ : ∃ S : World → Prop, (∀ x, S x → NB w a b c d p q r bq sg rw' sl x) ∧ (∀ x, NB w a b c d p q r bq sg rw' sl x → S x) := ⟨_, fun _ h => h, fun _ h => h⟩
  have hS0 := hSd.2 _ (HX8.out.step ((Below.refl _ _).drew))
  haveI hne : Nonempty (Wd S) := ⟨⟨_, hS0⟩⟩
  have HS := Lib.hid hSd
  clear hSd
  have f0 : ∀ y : Wd S, y.w.cell? ⟨w.heap.size, 0, none⟩ = some (.int .i64 a) := fun y => (HS.out.1 _ y.ok).1.1.1
  have f1 : ∀ y : Wd S, y.w.cell? ⟨w.heap.size, 1, none⟩ = some (.int .i64 b) := fun y => (HS.out.1 _ y.ok).1.1.2.1
  have f2 : ∀ y : Wd S, y.w.cell? ⟨w.heap.size, 2, none⟩ = some (.int .i64 c) := fun y => (HS.out.1 _ y.ok).1.1.2.2.1
  have f3 : ∀ y : Wd S, y.w.cell? ⟨w.heap.size, 3, none⟩ = some (.int .i64 d) := fun y => (HS.out.1 _ y.ok).1.1.2.2.2.1
  have HST : Hid (∀ (y : Wd S) (z : World), Below y.w.heap.size y.w z → S z) := Lib.hid fun y z hb => HS.out.2 _ ((HS.out.1 _ y.ok).step hb)
  have u1 := HU1.out
  have u2 := HU2.out
  have u3 := HU3.out
  refine wp_region_wd S (by kernel_rfl) (by kernel_rfl) hS0 ?_
  repeat (go_big_quiet_step (first
    | (go_at_call 27; with_reducible exact Calls.wd (HST.out _) (HV.out _))))
  refine wpQuiet_nil ?_
  intro w9 hw'
  have H9 := Lib.hid (HS.out.1 _ (wd_ok hw'))
  clear hw' u1 u2 u3 f0 f1 f2 f3 hne
  obtain ⟨⟨⟨c0, c1, c2, c3, _⟩, p0, p1, p2⟩, s0, s1, s2⟩ := H9.out
  go_wp2_with fail
  ((with_reducible refine (HB.out _).mono ?_))
  rintro e w10 ⟨rfl, hb⟩
  have H10 := Lib.hid (H9.out.step hb)
  clear hb c0 c1 c2 c3 p0 p1 p2 s0 s1 s2
  go_wp2
  go_ret
  exact ⟨rfl, H10.out.1.1.2.2.2.2⟩
theorem geomNumbers_walk (a b c d p q r x : Int) (w : World) (_ : In64x4 a b c d) (_ : True) (hx : (Lit.int .u32 x).wf = true) :
    Calls Try.prog 4 #[.agg #[.int .i64 a, .int .i64 b, .int .i64 c, .int .i64 d], .agg #[.int .i64 p, .int .i64 q, .int .i64 r], .int .u32 x] w fun e w' => e = .returned (.bool true) ∧ Below w.heap.size w w' := by
  obtain ⟨n, rfl, hn⟩ := wfn_u32' hx
  by_cases hg : GoodG a b c d
  case neg => exact numbers_bad a b c d p q r n w hg
  by_cases hp : InR a b c p q r <;> by_cases hv : 1 ≤ n ∧ (n : Int) ≤ (b - 5) * (c * (a - 1))
  · exact numbers_ii a b c d p q r n w hg hn hp hv
  · exact numbers_io a b c d p q r n w hg hn hp hv
  · exact numbers_oi a b c d p q r n w hg hn hp hv
  · exact numbers_oo a b c d p q r n w hg hn hp hv

end Go.Proofs.Ytmggjknljbpbgaa
