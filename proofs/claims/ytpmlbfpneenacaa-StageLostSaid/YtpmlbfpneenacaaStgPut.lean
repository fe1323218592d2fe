/- stage: Room, Spot, find. -/
import Derived.Test.YtpmlbfpneenacaaGeoRef
import Derived.Test.YtpmlbfpneenacaaWd
import Derived.Test.YtpmlbfpneenacaaFits
import Derived.Test.YtpmlbfpneenacaaStWrite
namespace Go.Proofs.Ytpmlbfpneenacaa
open Go.RowKit

def roomN (n pg : Nat) : Nat := pg * (n / 2)
theorem pairsN_any (n bl pg sz : Nat) (w : World) (hg : GoodG n bl pg sz) :
    Calls Try.prog 85 #[.agg #[.int .i64 (n : Int), .int .i64 (bl : Int), .int .i64 (pg : Int), .int .i64 (sz : Int)]] w fun e w' => e = .returned (.int .i64 ((n / 2 : Nat) : Int)) ∧ Below w.heap.size w w' := by
  have h := pairs_any (n : Int) bl pg sz w hg.1 (by have := hg.2.1; omega)
  rw [show ((n / 2 : Nat) : Int) = (n : Int) / 2 by omega]
  exact h
set_option maxRecDepth 100000 in
set_option maxHeartbeats 1000000 in
theorem room_any (n bl pg sz : Nat) (w : World) (hg : GoodG n bl pg sz) :
    Calls Try.prog 41 #[.agg #[.int .i64 (n : Int), .int .i64 (bl : Int), .int .i64 (pg : Int), .int .i64 (sz : Int)]] w fun e w' => e = .returned (.int .i64 (roomN n pg : Int)) ∧ Below w.heap.size w w' := by
  have HP := Lib.hid fun x : World => pairsN_any n bl pg sz x hg
  obtain ⟨P, hP⟩ : ∃ P, P = n / 2 := ⟨_, rfl⟩
  rw [← hP] at HP
  obtain ⟨R, hR⟩ : ∃ R, R = roomN n pg := ⟨_, rfl⟩
  have hR2 : (R : Int) = (pg : Int) * (P : Int) := by rw [hR, hP]; unfold roomN; simp
  have hRb : R ≤ 256 := by
    rw [hR]; unfold roomN
    have h1 : pg ≤ 32 := by have := hg.2.2.2.2.2.1; omega
    have h2 : n / 2 ≤ 8 := by have := hg.2.1; omega
    exact Nat.le_trans (Nat.mul_le_mul h1 h2) (by omega)
  rw [← hR]
  have hw1 : wrap64 ((pg : Int) * (P : Int)) = (R : Int) := by rw [← hR2]; exact IntWalk.wrap64_in _ (by omega)
  have hw2 : IntKind.i64.wrap ((pg : Int) * (P : Int)) = (R : Int) := by rw [← hR2, IntKind.wrap_i64]; omega
  have k : (if (R : Int) < 0 then (0 : Int) else (R : Int)) = (R : Int) := by rw [if_neg (by omega)]
  have hS0 := (gs_new w (n : Int) bl pg sz).drew
  obtain ⟨S, hSd⟩ : ∃ S : World → Prop, (∀ x, S x → GS w w.heap.size (n : Int) bl pg sz x) ∧ (∀ x, GS w w.heap.size (n : Int) bl pg sz x → S x) := ⟨_, fun _ h => h, fun _ h => h⟩
  replace hS0 := hSd.2 _ hS0
  haveI hne : Nonempty (Wd S) := ⟨⟨_, hS0⟩⟩
  have HS := Lib.hid hSd
  clear hSd hg hP hR hR2 hRb
  have f0 : ∀ y : Wd S, y.w.cell? ⟨w.heap.size, 0, none⟩ = some (.int .i64 (n : Int)) := fun y => (HS.out.1 _ y.ok).1
  have f1 : ∀ y : Wd S, y.w.cell? ⟨w.heap.size, 1, none⟩ = some (.int .i64 (bl : Int)) := fun y => (HS.out.1 _ y.ok).2.1
  have f2 : ∀ y : Wd S, y.w.cell? ⟨w.heap.size, 2, none⟩ = some (.int .i64 (pg : Int)) := fun y => (HS.out.1 _ y.ok).2.2.1
  have f3 : ∀ y : Wd S, y.w.cell? ⟨w.heap.size, 3, none⟩ = some (.int .i64 (sz : Int)) := fun y => (HS.out.1 _ y.ok).2.2.2.1
  have HST : Hid (∀ (y : Wd S) (z : World), Below y.w.heap.size y.w z → S z) := Lib.hid fun y z hb => HS.out.2 _ ((HS.out.1 _ y.ok).step hb)
  go_enter Try.func41, Try.ntmps41
  go_wp2_with fail
  refine wp_region_wd S (by kernel_rfl) (by kernel_rfl) hS0 ?_
  repeat (go_big_quiet_step (first
    | (go_at_call 85; with_reducible exact Calls.wd (HST.out _) (HP.out _))))
  refine wpQuiet_nil ?_
  intro _ hw'
  obtain ⟨y, rfl⟩ := hw'
  have hbe := (HS.out.1 _ y.ok).2.2.2.2
  go_wp2
  go_ret
  exact ⟨rfl, hbe⟩
/-- A page's row and its pair's first member. -/
def rowN (n k : Nat) : Nat := k / (n / 2)
def firN (n k : Nat) : Nat := 2 * (k % (n / 2))
theorem spot_in {n bl pg sz k : Nat} (hg : GoodG n bl pg sz) (hk : k < roomN n pg) : rowN n k < pg ∧ firN n k + 1 < n := by
  have h1 := hg.1
  have hp : 0 < n / 2 := by omega
  unfold rowN firN roomN at *
  refine ⟨Nat.div_lt_of_lt_mul (by rw [Nat.mul_comm]; exact hk), ?_⟩
  have := Nat.mod_lt k hp
  omega
set_option maxRecDepth 100000 in
set_option maxHeartbeats 1000000 in
theorem spot_ok (n bl pg sz k : Nat) (w : World) (hg : GoodG n bl pg sz) (hk : k < roomN n pg) :
    Calls Try.prog 39 #[.agg #[.int .i64 (n : Int), .int .i64 (bl : Int), .int .i64 (pg : Int), .int .i64 (sz : Int)], .int .i64 (k : Int)] w fun e w' => e = .returned (.tuple #[.int .i64 (rowN n k : Int), .int .i64 (firN n k : Int), .int .i64 0]) ∧ Below w.heap.size w w' := by
  have HC := Lib.hid fun x : World => check_good (n : Int) bl pg sz x hg
  have HR := Lib.hid fun x : World => room_any n bl pg sz x hg
  have HP := Lib.hid fun x : World => pairsN_any n bl pg sz x hg
  obtain ⟨P, hP⟩ : ∃ P, P = n / 2 := ⟨_, rfl⟩
  have hP0 : 0 < P := by have := hg.1; omega
  have hP8 : P ≤ 8 := by have := hg.2.1; omega
  have hrb : roomN n pg ≤ 256 := by
    unfold roomN
    have h1 : pg ≤ 32 := by have := hg.2.2.2.2.2.1; omega
    have h2 : n / 2 ≤ 8 := by have := hg.2.1; omega
    exact Nat.le_trans (Nat.mul_le_mul h1 h2) (by omega)
  have e1 : (k : Int) / (P : Int) = (rowN n k : Int) := by unfold rowN; rw [← hP]; simp
  have e1' : (k : Int).tdiv (P : Int) = (rowN n k : Int) := by rw [Int.tdiv_eq_ediv_of_nonneg (by omega)]; exact e1
  have e2 : (k : Int) % (P : Int) = ((k % P : Nat) : Int) := by simp
  have e2' : (k : Int).tmod (P : Int) = ((k % P : Nat) : Int) := by rw [Int.tmod_eq_emod_of_nonneg (by omega)]; exact e2
  obtain ⟨q, hq⟩ : ∃ q, q = k % P := ⟨_, rfl⟩
  have hq8 : q < P := by rw [hq]; exact Nat.mod_lt _ hP0
  have e3 : (firN n k : Int) = (q : Int) * 2 := by unfold firN; rw [← hP, ← hq]; push_cast; omega
  rw [← hq] at e2 e2'
  rw [← hP] at HP
  obtain ⟨R, hR⟩ : ∃ R, R = roomN n pg := ⟨_, rfl⟩
  rw [← hR] at HR hk hrb
  obtain ⟨r1, hr1⟩ : ∃ r, r = rowN n k := ⟨_, rfl⟩
  rw [← hr1] at e1 e1' ⊢
  have hr1b : r1 ≤ 256 := by rw [hr1]; exact Nat.le_trans (Nat.div_le_self _ _) (by omega)
  obtain ⟨f1, hf1⟩ : ∃ f, f = firN n k := ⟨_, rfl⟩
  rw [← hf1] at e3 ⊢
  have e4 : wrap64 (r1 : Int) = (r1 : Int) := IntWalk.wrap64_in _ (by omega)
  have e5 : wrap64 ((q : Int) * 2) = (f1 : Int) := by rw [← e3]; exact IntWalk.wrap64_in _ (by omega)
  have t0 : decide ((k : Int) < 0) = false := by simp
  have t1 : decide ((R : Int) ≤ (k : Int)) = false := by simp; omega
  have t1' : decide (R ≤ k) = false := by simp; omega
  have nz : (P : Int) ≠ 0 := by omega
  have nz' : ((P : Int) == 0) = false := by simp; omega
  have hS0 := gs_new w (n : Int) bl pg sz
  have HS := Lib.hid hS0
  clear hS0 hg hP hP0 hP8 hR hq hr1 e3 hr1b hf1
  go_enter Try.func39, Try.ntmps39
  obtain ⟨c0, c1, c2, c3, _⟩ := HS.out
  go_wp2_with fail
  ((with_reducible refine (HC.out _).mono ?_))
  rintro e w2 ⟨rfl, hb2⟩
  have HS2 := Lib.hid (HS.out.step hb2)
  clear hb2 c0 c1 c2 c3
  obtain ⟨c0, c1, c2, c3, _⟩ := HS2.out
  go_wp2_with fail
  ((with_reducible refine (HR.out _).mono ?_))
  rintro e w3 ⟨rfl, hb3⟩
  have HS3 := Lib.hid (HS2.out.step hb3)
  clear hb3 c0 c1 c2 c3
  obtain ⟨c0, c1, c2, c3, _⟩ := HS3.out
  go_wp2_with fail
  ((with_reducible refine (HP.out _).mono ?_))
  rintro e w4 ⟨rfl, hb4⟩
  have HS4 := Lib.hid (HS3.out.step hb4)
  clear hb4 c0 c1 c2 c3
  go_wp2_with fail
  go_quiet (fail)
  go_wp2
  rw [e4, e5]
  go_ret3
  exact ⟨rfl, bel_trans HS4.out.2.2.2.2 ⟨rfl, rfl, rfl, Nat.le_refl _, fun _ _ => rfl⟩⟩
set_option maxRecDepth 100000 in
set_option maxHeartbeats 1000000 in
theorem spot_range (n bl pg sz : Nat) (k : Int) (w : World) (hg : GoodG n bl pg sz) (hk : k < 0 ∨ (roomN n pg : Int) ≤ k) :
    Calls Try.prog 39 #[.agg #[.int .i64 (n : Int), .int .i64 (bl : Int), .int .i64 (pg : Int), .int .i64 (sz : Int)], .int .i64 k] w fun e w' => e = .returned (.tuple #[.int .i64 0, .int .i64 0, .int .i64 34]) ∧ Below w.heap.size w w' := by
  have HC := Lib.hid fun x : World => check_good (n : Int) bl pg sz x hg
  have HR := Lib.hid fun x : World => room_any n bl pg sz x hg
  obtain ⟨R, hR⟩ : ∃ R, R = roomN n pg := ⟨_, rfl⟩
  rw [← hR] at HR hk
  have HS := Lib.hid (gs_new w (n : Int) bl pg sz)
  clear hg hR
  by_cases h0 : k < 0
  · have t0 : decide (k < 0) = true := by simpa using h0
    clear h0 hk
    go_enter Try.func39, Try.ntmps39
    obtain ⟨c0, c1, c2, c3, _⟩ := HS.out
    go_wp2_with fail
    ((with_reducible refine (HC.out _).mono ?_))
    rintro e w2 ⟨rfl, hb2⟩
    have HS2 := Lib.hid (HS.out.step hb2)
    clear hb2 c0 c1 c2 c3
    go_wp2
    go_ret3
    exact ⟨rfl, HS2.out.2.2.2.2⟩
  · have t0 : decide (k < 0) = false := by simpa using h0
    have t1 : decide ((R : Int) ≤ k) = true := by simp; omega
    clear h0 hk
    go_enter Try.func39, Try.ntmps39
    obtain ⟨c0, c1, c2, c3, _⟩ := HS.out
    go_wp2_with fail
    ((with_reducible refine (HC.out _).mono ?_))
    rintro e w2 ⟨rfl, hb2⟩
    have HS2 := Lib.hid (HS.out.step hb2)
    clear hb2 c0 c1 c2 c3
    obtain ⟨c0, c1, c2, c3, _⟩ := HS2.out
    go_wp2_with fail
    ((with_reducible refine (HR.out _).mono ?_))
    rintro e w3 ⟨rfl, hb3⟩
    have HS3 := Lib.hid (HS2.out.step hb3)
    clear hb3 c0 c1 c2 c3
    go_wp2
    go_ret3
    exact ⟨rfl, HS3.out.2.2.2.2⟩
set_option maxRecDepth 100000 in
set_option maxHeartbeats 1000000 in
theorem find_ok (n bl pg sz k wh : Nat) (w : World) (hg : GoodG n bl pg sz) (hk : k < roomN n pg) (hw : wh ≤ 1) :
    Calls Try.prog 87 #[.agg #[.int .i64 (n : Int), .int .i64 (bl : Int), .int .i64 (pg : Int), .int .i64 (sz : Int)], .int .i64 (wh : Int), .int .i64 (k : Int)] w fun e w' => e = .returned (.tuple #[.agg #[.int .i64 (4 + (wh : Int)), .int .i64 (rowN n k : Int), .int .i64 (firN n k : Int)], .int .i64 0]) ∧ Below w.heap.size w w' := by
  have HSP := Lib.hid fun x : World => spot_ok n bl pg sz k x hg hk
  have HS := Lib.hid (gs_new w (n : Int) bl pg sz)
  clear hg hk
  go_enter Try.func87, Try.ntmps87
  go_upto_region 1 with fail
  obtain ⟨w0, hw0⟩ : ∃ x, x = (w.alloc (.cells #[.int .i64 (n : Int), .int .i64 (bl : Int), .int .i64 (pg : Int), .int .i64 (sz : Int)] 54)).alloc (.cells #[.int .i64 0, .int .i64 0, .int .i64 0] 176) := ⟨_, rfl⟩
  have k0 : GS w w.heap.size (n : Int) bl pg sz w0 ∧ w0.heap[w.heap.size + 1]? = some (.cells #[.int .i64 0, .int .i64 0, .int .i64 0] 176 (0, 0)) := by
    rw [hw0]
    refine ⟨HS.out.step (bel_alloc (Below.refl _ _) _), ?_⟩
    have := heap_alloc_new (w.alloc (.cells #[.int .i64 (n : Int), .int .i64 (bl : Int), .int .i64 (pg : Int), .int .i64 (sz : Int)] 54)) (.cells #[.int .i64 0, .int .i64 0, .int .i64 0] 176)
    simpa using this
  rw [← hw0]
  clear hw0
  obtain ⟨k1, k2⟩ := k0
  have HS0 := Lib.hid k1
  have HB0 := Lib.hid k2
  obtain ⟨c0, c1, c2, c3, _⟩ := k1
  clear k2
  go_wp2_with fail
  ((with_reducible refine (HSP.out _).mono ?_))
  rintro e w2 ⟨rfl, hb2⟩
  have HS2 := Lib.hid (HS0.out.step hb2)
  have hl2 := (hb2.block _ (Array.getElem?_eq_some_iff.1 HB0.out).1).trans HB0.out
  have HL2 := Lib.hid hl2
  have y0 : w2.cell? ⟨w.heap.size + 1, 0, none⟩ = some (.int .i64 0) ∧ w2.cell? ⟨w.heap.size + 1, 1, none⟩ = some (.int .i64 0) ∧ w2.cell? ⟨w.heap.size + 1, 2, none⟩ = some (.int .i64 0) := by simp [World.cell?, hl2]
  obtain ⟨y0, y1, y2⟩ := y0
  have yf : ∀ o, w2.frozen? ⟨w.heap.size + 1, o, none⟩ = false := fun o => by simp [World.frozen?, hl2]
  have hE : (((w2.setCell ⟨w.heap.size + 1, 0, none⟩ (.int .i64 (4 + (wh : Int)))).setCell ⟨w.heap.size + 1, 1, none⟩ (.int .i64 (rowN n k : Int))).setCell ⟨w.heap.size + 1, 2, none⟩ (.int .i64 (firN n k : Int))).heap[w.heap.size + 1]? = some (.cells #[.int .i64 (4 + (wh : Int)), .int .i64 (rowN n k : Int), .int .i64 (firN n k : Int)] 176 (0, 0)) := by
    have h0 := heap_setCell_same w2 (w.heap.size + 1) 0 _ _ (.int .i64 (4 + (wh : Int))) hl2
    have h1 := heap_setCell_same _ (w.heap.size + 1) 1 _ _ (.int .i64 (rowN n k : Int)) h0
    have h2 := heap_setCell_same _ (w.heap.size + 1) 2 _ _ (.int .i64 (firN n k : Int)) h1
    simpa using h2
  have HE := Lib.hid hE
  have HBF : Hid (Below w.heap.size w (((w2.setCell ⟨w.heap.size + 1, 0, none⟩ (.int .i64 (4 + (wh : Int)))).setCell ⟨w.heap.size + 1, 1, none⟩ (.int .i64 (rowN n k : Int))).setCell ⟨w.heap.size + 1, 2, none⟩ (.int .i64 (firN n k : Int)))) := Lib.hid (((HS2.out.2.2.2.2.setCell (p := ⟨w.heap.size + 1, 0, none⟩) (by simp) _).setCell (p := ⟨w.heap.size + 1, 1, none⟩) (by simp) _).setCell (p := ⟨w.heap.size + 1, 2, none⟩) (by simp) _)
  obtain ⟨r1, hr1⟩ : ∃ r, r = rowN n k := ⟨_, rfl⟩
  obtain ⟨f1, hf1⟩ : ∃ r, r = firN n k := ⟨_, rfl⟩
  rw [← hr1, ← hf1] at HE HBF ⊢
  have HR1 := Lib.hid hr1
  have HF1 := Lib.hid hf1
  clear hr1 hf1 hb2 hl2 hE c0 c1 c2 c3
  go_wp2
  have hq : ∀ W : World, W.heap[w.heap.size + 1]? = some (.cells #[.int .i64 (4 + (wh : Int)), .int .i64 (r1 : Int), .int .i64 (f1 : Int)] 176 (0, 0)) → W.cell? ⟨w.heap.size + 1, 0, none⟩ = some (.int .i64 (4 + (wh : Int))) ∧ W.cell? ⟨w.heap.size + 1, 1, none⟩ = some (.int .i64 (r1 : Int)) ∧ W.cell? ⟨w.heap.size + 1, 2, none⟩ = some (.int .i64 (f1 : Int)) := fun W h => by simp [World.cell?, h]
  obtain ⟨q0, q1, q2⟩ := hq _ HE.out
  rw [← HR1.out, ← HF1.out]
  refine bodyPost_ret (v := .tuple #[.agg #[.int .i64 (4 + (wh : Int)), .int .i64 (r1 : Int), .int .i64 (f1 : Int)], .int .i64 0]) ?_ rfl ⟨rfl, HBF.out⟩
  simp [results, Try.results87, go_sem, q0, q1, q2]
set_option maxRecDepth 100000 in
set_option maxHeartbeats 1000000 in
theorem find_range (n bl pg sz : Nat) (k wh : Int) (w : World) (hg : GoodG n bl pg sz) (hk : k < 0 ∨ (roomN n pg : Int) ≤ k) :
    Calls Try.prog 87 #[.agg #[.int .i64 (n : Int), .int .i64 (bl : Int), .int .i64 (pg : Int), .int .i64 (sz : Int)], .int .i64 wh, .int .i64 k] w fun e w' => e = .returned (.tuple #[.agg #[.int .i64 0, .int .i64 0, .int .i64 0], .int .i64 34]) ∧ Below w.heap.size w w' := by
  have HSP := Lib.hid fun x : World => spot_range n bl pg sz k x hg hk
  have HS := Lib.hid (gs_new w (n : Int) bl pg sz)
  clear hg hk
  go_enter Try.func87, Try.ntmps87
  go_upto_region 1 with fail
  obtain ⟨w0, hw0⟩ : ∃ x, x = (w.alloc (.cells #[.int .i64 (n : Int), .int .i64 (bl : Int), .int .i64 (pg : Int), .int .i64 (sz : Int)] 54)).alloc (.cells #[.int .i64 0, .int .i64 0, .int .i64 0] 176) := ⟨_, rfl⟩
  have k0 : GS w w.heap.size (n : Int) bl pg sz w0 ∧ w0.heap[w.heap.size + 1]? = some (.cells #[.int .i64 0, .int .i64 0, .int .i64 0] 176 (0, 0)) := by
    rw [hw0]
    refine ⟨HS.out.step (bel_alloc (Below.refl _ _) _), ?_⟩
    have := heap_alloc_new (w.alloc (.cells #[.int .i64 (n : Int), .int .i64 (bl : Int), .int .i64 (pg : Int), .int .i64 (sz : Int)] 54)) (.cells #[.int .i64 0, .int .i64 0, .int .i64 0] 176)
    simpa using this
  rw [← hw0]
  clear hw0
  obtain ⟨k1, k2⟩ := k0
  have HS0 := Lib.hid k1
  have HB0 := Lib.hid k2
  obtain ⟨c0, c1, c2, c3, _⟩ := k1
  clear k2
  go_wp2_with fail
  ((with_reducible refine (HSP.out _).mono ?_))
  rintro e w2 ⟨rfl, hb2⟩
  have HS2 := Lib.hid (HS0.out.step hb2)
  have hl2 := (hb2.block _ (Array.getElem?_eq_some_iff.1 HB0.out).1).trans HB0.out
  have y0 : w2.cell? ⟨w.heap.size + 1, 0, none⟩ = some (.int .i64 0) ∧ w2.cell? ⟨w.heap.size + 1, 1, none⟩ = some (.int .i64 0) ∧ w2.cell? ⟨w.heap.size + 1, 2, none⟩ = some (.int .i64 0) := by simp [World.cell?, hl2]
  obtain ⟨y0, y1, y2⟩ := y0
  have yf : ∀ o, w2.frozen? ⟨w.heap.size + 1, o, none⟩ = false := fun o => by simp [World.frozen?, hl2]
  have hE : (((w2.setCell ⟨w.heap.size + 1, 0, none⟩ (.int .i64 0)).setCell ⟨w.heap.size + 1, 1, none⟩ (.int .i64 0)).setCell ⟨w.heap.size + 1, 2, none⟩ (.int .i64 0)).heap[w.heap.size + 1]? = some (.cells #[.int .i64 0, .int .i64 0, .int .i64 0] 176 (0, 0)) := by
    have h0 := heap_setCell_same w2 (w.heap.size + 1) 0 _ _ (.int .i64 0) hl2
    have h1 := heap_setCell_same _ (w.heap.size + 1) 1 _ _ (.int .i64 0) h0
    have h2 := heap_setCell_same _ (w.heap.size + 1) 2 _ _ (.int .i64 0) h1
    simpa using h2
  have HE := Lib.hid hE
  have HBF : Hid (Below w.heap.size w (((w2.setCell ⟨w.heap.size + 1, 0, none⟩ (.int .i64 0)).setCell ⟨w.heap.size + 1, 1, none⟩ (.int .i64 0)).setCell ⟨w.heap.size + 1, 2, none⟩ (.int .i64 0))) := Lib.hid (((HS2.out.2.2.2.2.setCell (p := ⟨w.heap.size + 1, 0, none⟩) (by simp) _).setCell (p := ⟨w.heap.size + 1, 1, none⟩) (by simp) _).setCell (p := ⟨w.heap.size + 1, 2, none⟩) (by simp) _)
  clear hb2 hl2 hE c0 c1 c2 c3
  go_wp2
  have hq : ∀ W : World, W.heap[w.heap.size + 1]? = some (.cells #[.int .i64 0, .int .i64 0, .int .i64 0] 176 (0, 0)) → W.cell? ⟨w.heap.size + 1, 0, none⟩ = some (.int .i64 0) ∧ W.cell? ⟨w.heap.size + 1, 1, none⟩ = some (.int .i64 0) ∧ W.cell? ⟨w.heap.size + 1, 2, none⟩ = some (.int .i64 0) := fun W h => by simp [World.cell?, h]
  obtain ⟨q0, q1, q2⟩ := hq _ HE.out
  refine bodyPost_ret (v := .tuple #[.agg #[.int .i64 0, .int .i64 0, .int .i64 0], .int .i64 34]) ?_ rfl ⟨rfl, HBF.out⟩
  simp [results, Try.results87, go_sem, q0, q1, q2]
end Go.Proofs.Ytpmlbfpneenacaa

namespace Go.Proofs.Ytpmlbfpneenacaa
open Go.RowKit Go.Deep

def geoV (s : RS) : Value := .agg #[.int .i64 (s.n : Int), .int .i64 (s.bl : Int), .int .i64 (s.pg : Int), .int .i64 (s.sz : Int)]
section
variable {B : Nat} {s : RS} {w : World}
set_option maxRecDepth 100000 in
set_option maxHeartbeats 1000000 in
theorem stgShape_ok (h : Ram B s w) (wh : Nat) (hw : wh ≤ 1) :
    Calls Try.prog 86 #[.iface 56 (.pointer (some ⟨s.rb, 0, none⟩)), .int .i64 (wh : Int)] w fun e w' => e = .returned (.tuple #[.agg #[.int .i64 (s.n : Int), .int .i64 (s.bl : Int), .int .i64 (s.pg : Int), .int .i64 (s.sz : Int)], .int .i64 0]) ∧ Below w.heap.size w w' := by
  have tm := fun k => m_geo k ⟨s.rb, 0, none⟩
  have HG := Lib.hid fun (x : World) (hx : Below w.heap.size w x) => ramGeo (h.step hx)
  have HC := Lib.hid fun (x : World) => check_good (s.n : Int) (s.bl : Int) (s.pg : Int) (s.sz : Int) x h.geo
  have t0 : decide ((wh : Int) < 0) = false := by simp
  have t1 : decide ((2 : Int) ≤ (wh : Int)) = false := by simp; omega
  have t1' : decide (2 ≤ wh) = false := by simp; omega
  clear h hw
  go_enter Try.func86, Try.ntmps86
  go_wp2_with fail
  have k1 := bel_alloc (Below.refl _ w) (.cells #[.int .i64 0, .int .i64 0, .int .i64 0, .int .i64 0] 54)
  have k2 := heap_alloc_new w (.cells #[.int .i64 0, .int .i64 0, .int .i64 0, .int .i64 0] 54)
  obtain ⟨w0, hw0⟩ : ∃ x, x = w.alloc (.cells #[.int .i64 0, .int .i64 0, .int .i64 0, .int .i64 0] 54) := ⟨_, rfl⟩
  rw [← hw0] at k1 k2
  rw [← hw0]
  clear hw0
  ((with_reducible refine (HG.out _ k1).mono ?_))
  rintro e w1 ⟨rfl, hb1⟩
  have l1 := (hb1.block _ (Array.getElem?_eq_some_iff.1 k2).1).trans k2
  have hB1 := bel_trans k1 hb1
  have g1 := heap_alloc_new w1 (.cells #[.int .i64 (s.n : Int), .int .i64 (s.bl : Int), .int .i64 (s.pg : Int), .int .i64 (s.sz : Int)] 54)
  have hba := bel_alloc (Below.refl _ w1) (.cells #[.int .i64 (s.n : Int), .int .i64 (s.bl : Int), .int .i64 (s.pg : Int), .int .i64 (s.sz : Int)] 54)
  have l2 := (hba.block _ (Array.getElem?_eq_some_iff.1 l1).1).trans l1
  have hB2 := bel_trans hB1 hba
  clear k1 k2 hb1 l1 hB1 hba
  go_upto_region 4 with fail
  obtain ⟨w2, hw2⟩ : ∃ x, x = w1.alloc (.cells #[.int .i64 (s.n : Int), .int .i64 (s.bl : Int), .int .i64 (s.pg : Int), .int .i64 (s.sz : Int)] 54) := ⟨_, rfl⟩
  obtain ⟨gb, hgb⟩ : ∃ x, x = w1.heap.size := ⟨_, rfl⟩
  rw [← hw2, ← hgb] at g1
  rw [← hw2] at l2 hB2
  rw [← hw2, ← hgb]
  have HL := Lib.hid l2
  have HGB := Lib.hid g1
  have HB := Lib.hid hB2
  clear hw2 hgb hB2 l2
  obtain ⟨i0, i1, i2, i3⟩ := four_at g1
  clear g1
  go_wp2_with fail
  ((with_reducible refine (HC.out _).mono ?_))
  rintro e w3 ⟨rfl, hb3⟩
  have hl3 := (hb3.block _ (Array.getElem?_eq_some_iff.1 HL.out).1).trans HL.out
  have hg3 := (hb3.block _ (Array.getElem?_eq_some_iff.1 HGB.out).1).trans HGB.out
  have HB3 := Lib.hid (bel_trans HB.out hb3)
  obtain ⟨z0, z1, z2, z3⟩ := four_at hl3
  clear i0 i1 i2 i3
  obtain ⟨i0, i1, i2, i3⟩ := four_at hg3
  have zf := free_at hl3
  clear hl3 hg3 hb3
  go_wp2
  refine bodyPost_ret (v := .tuple #[.agg #[.int .i64 (s.n : Int), .int .i64 (s.bl : Int), .int .i64 (s.pg : Int), .int .i64 (s.sz : Int)], .int .i64 0]) (by simp [results, Try.results86, go_sem, z0, z1, z2, z3]) rfl ⟨rfl, ?_⟩
  exact (((HB3.out.setCell (p := ⟨w.heap.size, 0, none⟩) (Nat.le_refl _) _).setCell (p := ⟨w.heap.size, 1, none⟩) (Nat.le_refl _) _).setCell (p := ⟨w.heap.size, 2, none⟩) (Nat.le_refl _) _).setCell (p := ⟨w.heap.size, 3, none⟩) (Nat.le_refl _) _
set_option maxRecDepth 100000 in
set_option maxHeartbeats 1000000 in
theorem stgShape_range (h : Ram B s w) (wh : Int) (hw : wh < 0 ∨ 2 ≤ wh) :
    Calls Try.prog 86 #[.iface 56 (.pointer (some ⟨s.rb, 0, none⟩)), .int .i64 wh] w fun e w' => e = .returned (.tuple #[.agg #[.int .i64 0, .int .i64 0, .int .i64 0, .int .i64 0], .int .i64 34]) ∧ Below w.heap.size w w' := by
  have tm := fun k => m_geo k ⟨s.rb, 0, none⟩
  have HG := Lib.hid fun (x : World) (hx : Below w.heap.size w x) => ramGeo (h.step hx)
  have HC := Lib.hid fun (x : World) => check_good (s.n : Int) (s.bl : Int) (s.pg : Int) (s.sz : Int) x h.geo
  obtain ⟨b0, hb0⟩ : ∃ b, b = decide (wh < 0) := ⟨_, rfl⟩
  obtain ⟨b1, hb1⟩ : ∃ b, b = decide (2 ≤ wh) := ⟨_, rfl⟩
  have t0 : decide (wh < 0) = b0 := hb0.symm
  have t1 : decide ((2 : Int) ≤ wh) = b1 := hb1.symm
  have hor : b0 = true ∨ (b0 = false ∧ b1 = true) := by
    rw [hb0, hb1]
    by_cases q : wh < 0
    · left; simpa using q
    · right; simp; omega
  clear h hw hb0 hb1
  go_enter Try.func86, Try.ntmps86
  go_wp2_with fail
  have k1 := bel_alloc (Below.refl _ w) (.cells #[.int .i64 0, .int .i64 0, .int .i64 0, .int .i64 0] 54)
  have k2 := heap_alloc_new w (.cells #[.int .i64 0, .int .i64 0, .int .i64 0, .int .i64 0] 54)
  obtain ⟨w0, hw0⟩ : ∃ x, x = w.alloc (.cells #[.int .i64 0, .int .i64 0, .int .i64 0, .int .i64 0] 54) := ⟨_, rfl⟩
  rw [← hw0] at k1 k2
  rw [← hw0]
  clear hw0
  ((with_reducible refine (HG.out _ k1).mono ?_))
  rintro e w1 ⟨rfl, hb1⟩
  have l1 := (hb1.block _ (Array.getElem?_eq_some_iff.1 k2).1).trans k2
  have hB1 := bel_trans k1 hb1
  have g1 := heap_alloc_new w1 (.cells #[.int .i64 (s.n : Int), .int .i64 (s.bl : Int), .int .i64 (s.pg : Int), .int .i64 (s.sz : Int)] 54)
  have hba := bel_alloc (Below.refl _ w1) (.cells #[.int .i64 (s.n : Int), .int .i64 (s.bl : Int), .int .i64 (s.pg : Int), .int .i64 (s.sz : Int)] 54)
  have l2 := (hba.block _ (Array.getElem?_eq_some_iff.1 l1).1).trans l1
  have hB2 := bel_trans hB1 hba
  clear k1 k2 hb1 l1 hB1 hba
  go_upto_region 4 with fail
  obtain ⟨w2, hw2⟩ : ∃ x, x = w1.alloc (.cells #[.int .i64 (s.n : Int), .int .i64 (s.bl : Int), .int .i64 (s.pg : Int), .int .i64 (s.sz : Int)] 54) := ⟨_, rfl⟩
  obtain ⟨gb, hgb⟩ : ∃ x, x = w1.heap.size := ⟨_, rfl⟩
  rw [← hw2, ← hgb] at g1
  rw [← hw2] at l2 hB2
  rw [← hw2, ← hgb]
  have HL := Lib.hid l2
  have HB := Lib.hid hB2
  clear hw2 hgb hB2 l2
  obtain ⟨i0, i1, i2, i3⟩ := four_at g1
  clear g1
  go_wp2_with fail
  ((with_reducible refine (HC.out _).mono ?_))
  rintro e w3 ⟨rfl, hb3⟩
  have hl3 := (hb3.block _ (Array.getElem?_eq_some_iff.1 HL.out).1).trans HL.out
  have HB3 := Lib.hid (bel_trans HB.out hb3)
  obtain ⟨z0, z1, z2, z3⟩ := four_at hl3
  have zf := free_at hl3
  clear hl3 hb3 i0 i1 i2 i3
  rcases hor with rfl | ⟨rfl, rfl⟩
  · go_wp2
    refine bodyPost_ret (v := .tuple #[.agg #[.int .i64 0, .int .i64 0, .int .i64 0, .int .i64 0], .int .i64 34]) (by simp [results, Try.results86, go_sem, z0, z1, z2, z3]) rfl ⟨rfl, ?_⟩
    exact (((HB3.out.setCell (p := ⟨w.heap.size, 0, none⟩) (Nat.le_refl _) _).setCell (p := ⟨w.heap.size, 1, none⟩) (Nat.le_refl _) _).setCell (p := ⟨w.heap.size, 2, none⟩) (Nat.le_refl _) _).setCell (p := ⟨w.heap.size, 3, none⟩) (Nat.le_refl _) _
  · go_wp2
    refine bodyPost_ret (v := .tuple #[.agg #[.int .i64 0, .int .i64 0, .int .i64 0, .int .i64 0], .int .i64 34]) (by simp [results, Try.results86, go_sem, z0, z1, z2, z3]) rfl ⟨rfl, ?_⟩
    exact (((HB3.out.setCell (p := ⟨w.heap.size, 0, none⟩) (Nat.le_refl _) _).setCell (p := ⟨w.heap.size, 1, none⟩) (Nat.le_refl _) _).setCell (p := ⟨w.heap.size, 2, none⟩) (Nat.le_refl _) _).setCell (p := ⟨w.heap.size, 3, none⟩) (Nat.le_refl _) _
end
theorem stgShape_nil (wh : Int) (w : World) :
    Calls Try.prog 86 #[.nilIface, .int .i64 wh] w fun e w' => e = .returned (.tuple #[.agg #[.int .i64 0, .int .i64 0, .int .i64 0, .int .i64 0], .int .i64 60]) ∧ Below w.heap.size w w' := by
  go_enter Try.func86, Try.ntmps86
  go_wp2
  have k2 := heap_alloc_new w (.cells #[.int .i64 0, .int .i64 0, .int .i64 0, .int .i64 0] 54)
  obtain ⟨z0, z1, z2, z3⟩ := four_at k2
  refine bodyPost_ret (v := .tuple #[.agg #[.int .i64 0, .int .i64 0, .int .i64 0, .int .i64 0], .int .i64 60]) (by simp [results, Try.results86, go_sem, z0, z1, z2, z3]) rfl ⟨rfl, bel_alloc (Below.refl _ w) _⟩
end Go.Proofs.Ytpmlbfpneenacaa

namespace Go.Proofs.Ytpmlbfpneenacaa
open Go.RowKit Go.Deep

theorem ordL_mem2 {f n : Nat} {z : Int} {x : Nat} (h : x ∈ ordL f n z) : f ≤ x ∧ x < f + n := by
  unfold ordL at h
  split at h
  · rename_i hz
    rcases List.mem_cons.1 h with rfl | h
    · omega
    · have := List.mem_of_mem_eraseIdx h
      simp [rangeL] at this
      omega
  · simp [rangeL] at h
    omega
theorem far_mono {B C : Nat} {D : PS} (h : B ≤ C) (hf : Far C D) : Far B D := fun x hx => Nat.le_trans h (hf x hx)
def StgPutRet (B : Nat) (s : RS) (b row f : Nat) (p : SP) (w : World) (e : Ending) (w' : World) : Prop :=
  ∃ s', e = .returned (.int .i64 (if deads s (ordL f 2 s.first) = 2 then 74 else 0)) ∧ Ram B s' w' ∧ RStep s w s' w' ∧ s'.ol = s.ol ++ ordL f 2 s.first ∧ s'.gone = s.gone ∧ Wrote s s' b row (ordL f 2 s.first) (fun _ => p.d.l ++ sealB p.h p.d.l [])
section
variable {B : Nat} {s : RS} {w : World}
set_option maxRecDepth 100000 in
set_option maxHeartbeats 2000000 in
theorem stgProg_any (h : Ram B s w) (hB : B ≤ w.heap.size) (b row f : Nat) (p : SP) (hb : b + 5 < s.bl) (hrow : row < s.pg) (hf : f + 1 < s.n) (hpn : p.d.n = s.sz) (hp : PartOk w p.d) (hfit : p.h.Fits) (hpf : ∀ x, p.d.a = some x → ¬ s.ob x.block) (hsz : s.sz ≤ 1000) (hol : s.ol.length ≤ 1000) :
    Calls Try.prog 88 #[.agg #[.int .i64 (b : Int), .int .i64 (row : Int), .int .i64 (f : Int)], .iface 56 (.pointer (some ⟨s.rb, 0, none⟩)), .agg #[.int .u8 (p.h.ki : Int), .int .u32 (p.h.ep : Int), .int .u32 (p.h.ba : Int), .int .u16 (p.h.ix : Int), .int .u16 (p.h.ct : Int), .int .u32 (p.h.bl : Int), .int .u32 (p.h.mo : Int), .slice p.d.a p.d.n p.d.c]] w (StgPutRet B s b row f p w) := by
  have hg := h.geo
  have hn16 : s.n ≤ 16 := by have := hg.2.1; omega
  have hs1 : 256 ≤ s.sz := by have := hg.2.2.2.2.2.2.1; omega
  have HOR := Lib.hid fun (x : World) (hx : Below w.heap.size w x) => order_any (h.step hx) f 2 (by omega) (by omega) (by omega)
  rw [show ((2 : Nat) : Int) = 2 from rfl] at HOR
  have HH := Lib.hid fun (x : World) (hx : Below w.heap.size w x) => h.step hx
  have HFR := Lib.hid fun (k : Nat) (hk : w.heap.size ≤ k) => h.fresh hk
  have HPW := Lib.hid (And.intro hp hpf)
  have HPN : Hid (p.d.n ≤ 1000 ∧ p.d.l.length = s.sz) := Lib.hid ⟨by omega, by rw [hp.1.1]; exact hpn⟩
  have HNP := Lib.hid hpn
  have HFIT := Lib.hid hfit
  have HOLL := Lib.hid hol
  clear hg hp hpf hpn hfit hol h
  go_enter Try.func88, Try.ntmps88
  go_upto_region 1 with fail
  have l0 := heap_alloc_new w (.cells #[.int .i64 (b : Int), .int .i64 (row : Int), .int .i64 (f : Int)] 176)
  have l1 := heap_alloc_new (w.alloc (.cells #[.int .i64 (b : Int), .int .i64 (row : Int), .int .i64 (f : Int)] 176)) (.cells #[.int .u8 (p.h.ki : Int), .int .u32 (p.h.ep : Int), .int .u32 (p.h.ba : Int), .int .u16 (p.h.ix : Int), .int .u16 (p.h.ct : Int), .int .u32 (p.h.bl : Int), .int .u32 (p.h.mo : Int), .slice p.d.a p.d.n p.d.c] 77)
  rw [show (w.alloc (.cells #[.int .i64 (b : Int), .int .i64 (row : Int), .int .i64 (f : Int)] 176)).heap.size = w.heap.size + 1 by simp] at l1
  have l0' := (heap_alloc_old' (k := w.heap.size) (w := w.alloc (.cells #[.int .i64 (b : Int), .int .i64 (row : Int), .int .i64 (f : Int)] 176)) (by simp) (.cells #[.int .u8 (p.h.ki : Int), .int .u32 (p.h.ep : Int), .int .u32 (p.h.ba : Int), .int .u16 (p.h.ix : Int), .int .u16 (p.h.ct : Int), .int .u32 (p.h.bl : Int), .int .u32 (p.h.mo : Int), .slice p.d.a p.d.n p.d.c] 77)).trans l0
  have hb0 := bel_alloc (bel_alloc (Below.refl _ w) (.cells #[.int .i64 (b : Int), .int .i64 (row : Int), .int .i64 (f : Int)] 176)) (.cells #[.int .u8 (p.h.ki : Int), .int .u32 (p.h.ep : Int), .int .u32 (p.h.ba : Int), .int .u16 (p.h.ix : Int), .int .u16 (p.h.ct : Int), .int .u32 (p.h.bl : Int), .int .u32 (p.h.mo : Int), .slice p.d.a p.d.n p.d.c] 77)
  obtain ⟨w0, hw0⟩ : ∃ x, x = (w.alloc (.cells #[.int .i64 (b : Int), .int .i64 (row : Int), .int .i64 (f : Int)] 176)).alloc (.cells #[.int .u8 (p.h.ki : Int), .int .u32 (p.h.ep : Int), .int .u32 (p.h.ba : Int), .int .u16 (p.h.ix : Int), .int .u16 (p.h.ct : Int), .int .u32 (p.h.bl : Int), .int .u32 (p.h.mo : Int), .slice p.d.a p.d.n p.d.c] 77) := ⟨_, rfl⟩
  obtain ⟨sb, hsb⟩ : ∃ x, x = w.heap.size := ⟨_, rfl⟩
  obtain ⟨pb, hpb⟩ : ∃ x, x = w.heap.size + 1 := ⟨_, rfl⟩
  rw [← hw0, ← hpb] at l1
  rw [← hw0, ← hsb] at l0'
  rw [← hw0] at hb0
  rw [← hw0, ← hpb, ← hsb]
  have HL0 := Lib.hid l0'
  have HL1 := Lib.hid l1
  have HB0w := Lib.hid hb0
  have HSE0 : Hid (w.heap.size ≤ sb ∧ w.heap.size ≤ pb) := Lib.hid ⟨by omega, by omega⟩
  obtain ⟨z0, z1, z2⟩ := three_at l0'
  clear l0 l0' l1 hb0 hw0 hsb hpb
  go_wp2_with fail
  ((with_reducible refine (HOR.out _ HB0w.out).mono ?_))
  rintro e w5 ⟨oa, occ, rfl, q1, q2, q3⟩
  have HB5 := Lib.hid (bel_trans HB0w.out q3)
  have HCS : Hid (∀ x : World, x.heap[sb]? = w5.heap[sb]? → x.heap[pb]? = w5.heap[pb]? → (x.cell? ⟨sb, 0, none⟩ = some (.int .i64 (b : Int)) ∧ x.cell? ⟨sb, 1, none⟩ = some (.int .i64 (row : Int)) ∧ x.cell? ⟨pb, 0, none⟩ = some (.int .u8 (p.h.ki : Int)) ∧ x.cell? ⟨pb, 1, none⟩ = some (.int .u32 (p.h.ep : Int)) ∧ x.cell? ⟨pb, 2, none⟩ = some (.int .u32 (p.h.ba : Int)) ∧ x.cell? ⟨pb, 3, none⟩ = some (.int .u16 (p.h.ix : Int)) ∧ x.cell? ⟨pb, 4, none⟩ = some (.int .u16 (p.h.ct : Int)) ∧ x.cell? ⟨pb, 5, none⟩ = some (.int .u32 (p.h.bl : Int)) ∧ x.cell? ⟨pb, 6, none⟩ = some (.int .u32 (p.h.mo : Int)) ∧ x.cell? ⟨pb, 7, none⟩ = some (.slice p.d.a p.d.n p.d.c))) := Lib.hid fun x h0 h1 => by
    obtain ⟨a0, a1, _⟩ := three_at (h0.trans ((q3.block _ (Array.getElem?_eq_some_iff.1 HL0.out).1).trans HL0.out))
    obtain ⟨b0, b1, b2, b3, b4, b5, b6, b7⟩ := eight_at (h1.trans ((q3.block _ (Array.getElem?_eq_some_iff.1 HL1.out).1).trans HL1.out))
    exact ⟨a0, a1, b0, b1, b2, b3, b4, b5, b6, b7⟩
  have HSB : Hid (sb < w5.heap.size ∧ pb < w5.heap.size ∧ w.heap.size ≤ sb ∧ w.heap.size ≤ pb) := Lib.hid ⟨Nat.lt_of_lt_of_le (Array.getElem?_eq_some_iff.1 HL0.out).1 q3.size, Nat.lt_of_lt_of_le (Array.getElem?_eq_some_iff.1 HL1.out).1 q3.size, HSE0.out.1, HSE0.out.2⟩
  have HOC := Lib.hid (And.intro q1 (fun x hx => Nat.le_trans HB0w.out.size (q2 x hx)))
  clear q1 q2 q3 z0 z1 z2 HL0 HL1
  go_wp2_with fail
  have HRA := Lib.hid (HH.out w5 HB5.out)
  have HFR5 : Hid (∀ k, w.heap.size ≤ k → ¬ s.ob k) := Lib.hid HFR.out
  obtain ⟨OL, hOL⟩ : ∃ OL, OL = ordL f 2 s.first := ⟨_, rfl⟩
  have HOL := Lib.hid hOL
  have HLN : Hid (OL.length = 2) := Lib.hid (by rw [hOL, ordL_len])
  have HLM : Hid (∀ x ∈ OL, x < s.n) := Lib.hid fun x hx => by have := ordL_mem2 (by rw [← hOL]; exact hx); omega
  rw [← hOL] at HOC
  clear hOL
  go_loopw [7, 16] (fun dv iv wr => ∃ (i : Nat) (s' : RS), i ≤ 2 ∧ iv = .int .i64 (i : Int) ∧ dv = .int .i64 (deads s (OL.take i) : Int) ∧ Ram B s' wr ∧ RStep s w5 s' wr ∧ s'.ol = s.ol ++ OL.take i ∧ s'.gone = s.gone ∧ Wrote s s' b row (OL.take i) (fun _ => p.d.l ++ sealB p.h p.d.l [])) (fun _ iv _ => (2 - intOf iv).toNat)
  case atStart => exact ⟨0, s, Nat.zero_le _, rfl, rfl, HRA.out, RStep.refl _ _, by simp, rfl, by rw [List.take_zero]; exact wrote_nil _ _ _ _⟩
  case round =>
    obtain ⟨i, s', hi, rfl, rfl, hR, hS, hol, hgo, hW⟩ := hrel
    have HR := Lib.hid hR
    have HS := Lib.hid hS
    have HOLI := Lib.hid (And.intro hol (And.intro hgo hW))
    have hdl : deads s (OL.take i) ≤ 1000 := Nat.le_trans (List.length_filter_le _ _) (by simp; omega)
    clear hR hS hol hgo hW
    obtain ⟨e1, e2, e3, e4, e5, e6, e7, e8⟩ := HS.out.same
    have HE := Lib.hid (And.intro e1 (And.intro e4 (And.intro e5 (And.intro e6 e7))))
    clear e1 e2 e3 e4 e5 e6 e7 e8
    by_cases hlt : i < 2
    · have hlt' : decide ((i : Int) < 2) = true := by simp; omega
      have hlt'' : decide (i < 2) = true := by simpa using hlt
      obtain ⟨b0, off, hoa, hoc⟩ := HOC.out.1 (by rw [HLN.out]; omega)
      have hob : w.heap.size ≤ b0 := HOC.out.2 _ hoa
      have hoc1 := hoc i (by rw [HLN.out]; exact hlt)
      obtain ⟨mm, hmm⟩ : ∃ mm, mm = OL.getD i 0 := ⟨_, rfl⟩
      rw [← hmm] at hoc1
      have hlo : b0 < w5.heap.size := World.block_lt_of_cell? w5 _ hoc1
      have c0 : wr.cell? ⟨b0, off + i, none⟩ = some (.int .i64 (mm : Int)) := (World.cell?_of_block (w := w5) (a := ⟨b0, off + i, none⟩) (HS.out.block b0 hlo (HFR5.out b0 hob)).2).trans hoc1
      have hmem : mm ∈ OL := by rw [hmm]; simp [List.getD, show i < OL.length by rw [HLN.out]; exact hlt]
      have HMN : Hid (mm < s.n) := Lib.hid (HLM.out mm hmem)
      have HMM := Lib.hid hmm
      have HBr : Hid (B ≤ wr.heap.size) := Lib.hid (Nat.le_trans hB (Nat.le_trans HB5.out.size HS.out.size))
      have HLL : Hid (s'.ol.length ≤ 100000) := Lib.hid (by rw [HOLI.out.1, List.length_append, List.length_take]; have := HOLL.out; omega)
      have hpk : PartOk wr p.d := (HPW.out.1.step HB5.out).at_ fun h0 x hx => (HS.out.block _ ((HPW.out.1.step HB5.out).lt h0 x hx) (HPW.out.2 x hx)).2
      have HCL := Lib.hid fun (x : World) (hx : Below wr.heap.size wr x) => clone_any p.d.a p.d.n p.d.c p.d.l x (hpk.keep hx (Nat.le_refl _)).1 (hpk.keep hx (Nat.le_refl _)).2.2.2 (by have := HPN.out; omega)
      have HSE := Lib.hid fun (x : World) (hx : Below wr.heap.size wr x) => (seal_parts p.h HFIT.out p.d HPN.out.1).out x ⟨none, 0, 0, []⟩ (hpk.keep hx (Nat.le_refl _)) ⟨⟨rfl, by simp, fun h => absurd h (Nat.lt_irrefl 0)⟩, Nat.le_refl _, Nat.zero_le _, fun _ => rfl⟩ (by simp)
      have HCC : Hid (∀ x : World, Below wr.heap.size wr x → (x.cell? ⟨sb, 0, none⟩ = some (.int .i64 (b : Int)) ∧ x.cell? ⟨sb, 1, none⟩ = some (.int .i64 (row : Int)) ∧ x.cell? ⟨pb, 0, none⟩ = some (.int .u8 (p.h.ki : Int)) ∧ x.cell? ⟨pb, 1, none⟩ = some (.int .u32 (p.h.ep : Int)) ∧ x.cell? ⟨pb, 2, none⟩ = some (.int .u32 (p.h.ba : Int)) ∧ x.cell? ⟨pb, 3, none⟩ = some (.int .u16 (p.h.ix : Int)) ∧ x.cell? ⟨pb, 4, none⟩ = some (.int .u16 (p.h.ct : Int)) ∧ x.cell? ⟨pb, 5, none⟩ = some (.int .u32 (p.h.bl : Int)) ∧ x.cell? ⟨pb, 6, none⟩ = some (.int .u32 (p.h.mo : Int)) ∧ x.cell? ⟨pb, 7, none⟩ = some (.slice p.d.a p.d.n p.d.c))) := Lib.hid fun x hx => HCS.out x ((hx.block sb (Nat.lt_of_lt_of_le HSB.out.1 HS.out.size)).trans (HS.out.block sb HSB.out.1 (HFR5.out sb HSB.out.2.2.1)).2) ((hx.block pb (Nat.lt_of_lt_of_le HSB.out.2.1 HS.out.size)).trans (HS.out.block pb HSB.out.2.1 (HFR5.out pb HSB.out.2.2.2)).2)
      have HB0 : Hid (Below wr.heap.size wr wr.drew) := Lib.hid (Below.refl _ _).drew
      have i0 : (0 : Int) ≤ (i : Int) := by omega
      have i1 : (i : Int) < 2 := by omega
      have tm := fun k => m_program k ⟨s.rb, 0, none⟩
      have tn := fun k => na_program k ⟨s.rb, 0, none⟩
      clear hoc hob hoc1 hlo hmm hmem hpk
      subst hoa
      by_cases hz : s.gone mm = 0
      · go_wp2_with fail
        have hS0 := HCC.out wr.drew HB0.out
        have HPP : Hid (∀ (x : World) (D O : PS), Below wr.heap.size wr x → D.l = p.d.l → O.l = sealB p.h p.d.l [] → D.n = p.d.l.length → O.n = (sealB p.h p.d.l []).length → PartOk x D → PartOk x O → Far wr.heap.size D → Far wr.heap.size O → Calls Try.prog 171 #[.pointer (some ⟨s.rb, 0, none⟩), .int .i64 (mm : Int), .int .i64 (b : Int), .int .i64 (row : Int), .slice D.a D.n D.c, .slice O.a O.n O.c] x (ProgRet B s' mm b row (p.d.l ++ sealB p.h p.d.l []) x)) := Lib.hid fun x D O hx e1 e2 e3 e4 hD hO fD fO => by
          have eD : D.n = s'.sz := by rw [e3, HPN.out.2, HE.out.2.2.2.2]
          have eO : O.n = 64 := by rw [e4, sealB_len]
          have := ramProg_live (HR.out.step hx) (Nat.le_trans HBr.out hx.size) mm b row (by rw [HE.out.2.1]; exact HMN.out) (by rw [HE.out.2.2.1]; exact hb) (by rw [HE.out.2.2.2.1]; exact hrow) (by rw [HOLI.out.2.1]; exact hz) HLL.out D O hD hO eD eO (fun y hy => HR.out.fresh (fD y hy)) (fun y hy => HR.out.fresh (fO y hy))
          rw [HE.out.1, ← eD, e1, e2, show (64 : Nat) = O.n from eO.symm] at this
          exact this
        go_region_held3 (fun x => x.cell? ⟨sb, 0, none⟩ = some (.int .i64 (b : Int)) ∧ x.cell? ⟨sb, 1, none⟩ = some (.int .i64 (row : Int)) ∧ x.cell? ⟨pb, 0, none⟩ = some (.int .u8 (p.h.ki : Int)) ∧ x.cell? ⟨pb, 1, none⟩ = some (.int .u32 (p.h.ep : Int)) ∧ x.cell? ⟨pb, 2, none⟩ = some (.int .u32 (p.h.ba : Int)) ∧ x.cell? ⟨pb, 3, none⟩ = some (.int .u16 (p.h.ix : Int)) ∧ x.cell? ⟨pb, 4, none⟩ = some (.int .u16 (p.h.ct : Int)) ∧ x.cell? ⟨pb, 5, none⟩ = some (.int .u32 (p.h.bl : Int)) ∧ x.cell? ⟨pb, 6, none⟩ = some (.int .u32 (p.h.mo : Int)) ∧ x.cell? ⟨pb, 7, none⟩ = some (.slice p.d.a p.d.n p.d.c))
          (first | with_reducible exact hS0 | with_reducible exact hS1 | with_reducible exact hS2 | with_reducible exact hS3 | go_keep)
          (first
            | (go_simp; go_at_call 115; ((with_reducible refine (HCL.out _ HB0.out).mono ?_)); (intro e wa hr; obtain ⟨D, rfl, hDl, hDn, hDk, hba, hDf⟩ := part_ret' hr; have HBa := Lib.hid (bel_trans HB0.out hba); have HD := Lib.hid (And.intro hDl (And.intro hDn (And.intro hDk hDf))); have hS1 := HCC.out wa HBa.out; clear hr hDl hDn hDk hba hDf))
            | (go_simp; go_at_call 67; ((with_reducible refine (HSE.out _ HBa.out).mono ?_)); (intro e wb hr; obtain ⟨O, rfl, hOl, hOn, hOk, hbb, hOf⟩ := part_ret' hr; have HBb := Lib.hid (bel_trans HBa.out hbb); have HO := Lib.hid (And.intro hOl (And.intro hOn (And.intro hOk hOf))); have HDb := Lib.hid (HD.out.2.2.1.step hbb); have HWab := Lib.hid HBa.out.size; have hS2 := HCC.out wb HBb.out; clear hr hOl hOn hOk hbb hOf))
            | (go_simp; go_at_call 171; ((with_reducible refine (HPP.out wb D O HBb.out (HD.out.1) (HO.out.1) (HD.out.2.1) (HO.out.2.1) HDb.out (HO.out.2.2.1) (far_mono HB0.out.size HD.out.2.2.2) (far_mono HWab.out HO.out.2.2.2)).mono ?_)); (intro e w6 hr; obtain ⟨s2, rfl, hr2, hs2, hr3⟩ := hr; have hst := HS.out.trans ((RStep.of_below HBb.out).trans hs2); have hS3 := HCS.out w6 (hst.block sb HSB.out.1 (HFR5.out sb HSB.out.2.2.1)).2 (hst.block pb HSB.out.2.1 (HFR5.out pb HSB.out.2.2.2)).2; have HR2 := Lib.hid (And.intro hr2 (And.intro hst hr3)); clear hr2 hs2 hst hr3)))
        all_goals
          have ht : OL.take (i + 1) = OL.take i ++ [mm] := by rw [List.take_succ_eq_append_getElem (by rw [HLN.out]; exact hlt), HMM.out]; simp [List.getD, show i < OL.length by rw [HLN.out]; exact hlt]
          have hdm := deads_more s (OL.take i) mm
          rw [← ht, if_pos hz] at hdm
          have hfin : Ram B s2 w6 ∧ RStep s w5 s2 w6 ∧ s2.ol = s.ol ++ OL.take (i + 1) ∧ s2.gone = s.gone ∧ Wrote s s2 b row (OL.take (i + 1)) (fun _ => p.d.l ++ sealB p.h p.d.l []) := by
            obtain ⟨a1, a2, a3, a4, a5, a6⟩ := HR2.out
            refine ⟨a1, a2, by rw [a3, HOLI.out.1, ht, List.append_assoc], a4.trans HOLI.out.2.1, ?_⟩
            rw [ht]
            exact wrote_live HOLI.out.2.2 hz a5 a6
          have HFIN := Lib.hid hfin
          have HDM := Lib.hid hdm
          clear hS0 hS1 hS2 hS3 ht hdm hfin
          go_wp2
          go_roundw
          case rel => exact ⟨i + 1, s2, by omega, by go_num, by rw [HDM.out]; go_num, HFIN.out⟩
          case measure => simp [intOf]; omega
      · go_wp2_with fail
        have hS0 := HCC.out wr.drew HB0.out
        have HPP : Hid (∀ (x : World) (D O : PS), Below wr.heap.size wr x → D.l = p.d.l → O.l = sealB p.h p.d.l [] → D.n = p.d.l.length → O.n = (sealB p.h p.d.l []).length → PartOk x D → PartOk x O → Far wr.heap.size D → Far wr.heap.size O → Calls Try.prog 171 #[.pointer (some ⟨s.rb, 0, none⟩), .int .i64 (mm : Int), .int .i64 (b : Int), .int .i64 (row : Int), .slice D.a D.n D.c, .slice O.a O.n O.c] x (DeadRet B s' mm x)) := Lib.hid fun x D O hx _ _ e3 e4 hD hO fD fO => by
          have eD : D.n = s'.sz := by rw [e3, HPN.out.2, HE.out.2.2.2.2]
          have eO : O.n = 64 := by rw [e4, sealB_len]
          have := ramProg_dead (HR.out.step hx) (Nat.le_trans HBr.out hx.size) mm b row (by rw [HE.out.2.1]; exact HMN.out) (by rw [HE.out.2.2.1]; exact hb) (by rw [HE.out.2.2.2.1]; exact hrow) (by rw [HOLI.out.2.1]; exact hz) HLL.out D O hD hO eD eO (fun y hy => HR.out.fresh (fD y hy)) (fun y hy => HR.out.fresh (fO y hy))
          rw [HE.out.1, ← eD, show (64 : Nat) = O.n from eO.symm] at this
          exact this
        go_region_held3 (fun x => x.cell? ⟨sb, 0, none⟩ = some (.int .i64 (b : Int)) ∧ x.cell? ⟨sb, 1, none⟩ = some (.int .i64 (row : Int)) ∧ x.cell? ⟨pb, 0, none⟩ = some (.int .u8 (p.h.ki : Int)) ∧ x.cell? ⟨pb, 1, none⟩ = some (.int .u32 (p.h.ep : Int)) ∧ x.cell? ⟨pb, 2, none⟩ = some (.int .u32 (p.h.ba : Int)) ∧ x.cell? ⟨pb, 3, none⟩ = some (.int .u16 (p.h.ix : Int)) ∧ x.cell? ⟨pb, 4, none⟩ = some (.int .u16 (p.h.ct : Int)) ∧ x.cell? ⟨pb, 5, none⟩ = some (.int .u32 (p.h.bl : Int)) ∧ x.cell? ⟨pb, 6, none⟩ = some (.int .u32 (p.h.mo : Int)) ∧ x.cell? ⟨pb, 7, none⟩ = some (.slice p.d.a p.d.n p.d.c))
          (first | with_reducible exact hS0 | with_reducible exact hS1 | with_reducible exact hS2 | with_reducible exact hS3 | go_keep)
          (first
            | (go_simp; go_at_call 115; ((with_reducible refine (HCL.out _ HB0.out).mono ?_)); (intro e wa hr; obtain ⟨D, rfl, hDl, hDn, hDk, hba, hDf⟩ := part_ret' hr; have HBa := Lib.hid (bel_trans HB0.out hba); have HD := Lib.hid (And.intro hDl (And.intro hDn (And.intro hDk hDf))); have hS1 := HCC.out wa HBa.out; clear hr hDl hDn hDk hba hDf))
            | (go_simp; go_at_call 67; ((with_reducible refine (HSE.out _ HBa.out).mono ?_)); (intro e wb hr; obtain ⟨O, rfl, hOl, hOn, hOk, hbb, hOf⟩ := part_ret' hr; have HBb := Lib.hid (bel_trans HBa.out hbb); have HO := Lib.hid (And.intro hOl (And.intro hOn (And.intro hOk hOf))); have HDb := Lib.hid (HD.out.2.2.1.step hbb); have HWab := Lib.hid HBa.out.size; have hS2 := HCC.out wb HBb.out; clear hr hOl hOn hOk hbb hOf))
            | (go_simp; go_at_call 171; ((with_reducible refine (HPP.out wb D O HBb.out (HD.out.1) (HO.out.1) (HD.out.2.1) (HO.out.2.1) HDb.out (HO.out.2.2.1) (far_mono HB0.out.size HD.out.2.2.2) (far_mono HWab.out HO.out.2.2.2)).mono ?_)); (intro e w6 hr; obtain ⟨s2, rfl, hr2, hs2, hr3⟩ := hr; have hst := HS.out.trans ((RStep.of_below HBb.out).trans hs2); have hS3 := HCS.out w6 (hst.block sb HSB.out.1 (HFR5.out sb HSB.out.2.2.1)).2 (hst.block pb HSB.out.2.1 (HFR5.out pb HSB.out.2.2.2)).2; have HR2 := Lib.hid (And.intro hr2 (And.intro hst hr3)); clear hr2 hs2 hst hr3)))
        all_goals
          have ht : OL.take (i + 1) = OL.take i ++ [mm] := by rw [List.take_succ_eq_append_getElem (by rw [HLN.out]; exact hlt), HMM.out]; simp [List.getD, show i < OL.length by rw [HLN.out]; exact hlt]
          have hdm := deads_more s (OL.take i) mm
          rw [← ht, if_neg hz] at hdm
          have hfin : Ram B s2 w6 ∧ RStep s w5 s2 w6 ∧ s2.ol = s.ol ++ OL.take (i + 1) ∧ s2.gone = s.gone ∧ Wrote s s2 b row (OL.take (i + 1)) (fun _ => p.d.l ++ sealB p.h p.d.l []) := by
            obtain ⟨a1, a2, a3, a4, a5⟩ := HR2.out
            refine ⟨a1, a2, by rw [a3, HOLI.out.1, ht, List.append_assoc], a4.trans HOLI.out.2.1, ?_⟩
            rw [ht]
            exact wrote_dead HOLI.out.2.2 hz a5
          have HFIN := Lib.hid hfin
          have HDM := Lib.hid hdm
          clear hS0 hS1 hS2 hS3 ht hdm hfin
          go_wp2
          go_roundw
          case rel => exact ⟨i + 1, s2, by omega, by go_num, by rw [HDM.out]; go_num, HFIN.out⟩
          case measure => simp [intOf]; omega
    · have hin : i = 2 := by omega
      have hlt' : decide ((i : Int) < 2) = false := by simp; omega
      have hlt'' : decide (i < 2) = false := by simpa using hlt
      have htk : OL.take i = OL := List.take_of_length_le (by rw [HLN.out]; omega)
      rw [htk] at HOLI hdl ⊢
      have HT := Lib.hid htk
      clear htk
      by_cases hd : deads s OL = 2
      · have q1 : ((deads s OL : Int) == 2) = true := by simp; omega
        have HDD := Lib.hid hd
        clear hd
        go_wp2
        go_ret
        refine ⟨s', by rw [← HOL.out, if_pos HDD.out]; rfl, HR.out, (RStep.of_below HB5.out).trans HS.out, ?_, HOLI.out.2.1, ?_⟩
        · rw [← HOL.out]; exact HOLI.out.1
        · rw [← HOL.out]; exact HOLI.out.2.2
      · have q1 : ((deads s OL : Int) == 2) = false := by simp; omega
        have HDD := Lib.hid hd
        clear hd
        go_wp2
        go_ret
        refine ⟨s', by rw [← HOL.out, if_neg HDD.out]; rfl, HR.out, (RStep.of_below HB5.out).trans HS.out, ?_, HOLI.out.2.1, ?_⟩
        · rw [← HOL.out]; exact HOLI.out.1
        · rw [← HOL.out]; exact HOLI.out.2.2
end
end Go.Proofs.Ytpmlbfpneenacaa

namespace Go.Proofs.Ytpmlbfpneenacaa
open Go.RowKit Go.Deep

section
variable {B : Nat} {s : RS} {w : World}
set_option maxRecDepth 100000 in
set_option maxHeartbeats 2000000 in
theorem stgPut_ok (h : Ram B s w) (hB : B ≤ w.heap.size) (wh k : Nat) (p : SP) (hw : wh ≤ 1) (hk : k < roomN s.n s.pg) (hpn : p.d.n = s.sz) (hp : PartOk w p.d) (hfit : p.h.Fits) (hpf : ∀ x, p.d.a = some x → ¬ s.ob x.block) (hsz : s.sz ≤ 1000) (hol : s.ol.length ≤ 1000) :
    Calls Try.prog 42 #[.iface 56 (.pointer (some ⟨s.rb, 0, none⟩)), .int .i64 (wh : Int), .int .i64 (k : Int), .agg #[.int .u8 (p.h.ki : Int), .int .u32 (p.h.ep : Int), .int .u32 (p.h.ba : Int), .int .u16 (p.h.ix : Int), .int .u16 (p.h.ct : Int), .int .u32 (p.h.bl : Int), .int .u32 (p.h.mo : Int), .slice p.d.a p.d.n p.d.c]] w (StgPutRet B s (4 + wh) (rowN s.n k) (firN s.n k) p w) := by
  have hg := h.geo
  have hpl : ∀ {x : World}, Below w.heap.size w x → ∀ y, p.d.a = some y → ¬ s.ob y.block := fun _ => hpf
  have HSH := Lib.hid fun (x : World) (hx : Below w.heap.size w x) => stgShape_ok (h.step hx) wh hw
  have HFI := Lib.hid fun (x : World) => find_ok s.n s.bl s.pg s.sz k wh x hg hk hw
  obtain ⟨hr1, hf1⟩ := spot_in hg hk
  have HPR := Lib.hid fun (x : World) (hx : Below w.heap.size w x) => stgProg_any (h.step hx) (Nat.le_trans hB hx.size) (4 + wh) (rowN s.n k) (firN s.n k) p (by have := hg.2.2.1; omega) hr1 hf1 hpn (hp.step hx) hfit hpf hsz hol
  rw [show ((4 + wh : Nat) : Int) = 4 + (wh : Int) by omega] at HPR
  have HN := Lib.hid hpn
  have hne : ((p.d.n : Int) != (s.sz : Int)) = false := by rw [hpn]; simp
  have hne' : (p.d.n != s.sz) = false := by rw [hpn]; simp
  obtain ⟨r1, hr⟩ : ∃ r, r = rowN s.n k := ⟨_, rfl⟩
  obtain ⟨f1, hf⟩ : ∃ r, r = firN s.n k := ⟨_, rfl⟩
  rw [← hr, ← hf] at HPR HFI ⊢
  clear h hg hpl hk hpn hp hfit hpf hol hr1 hf1 hr hf
  go_enter Try.func42, Try.ntmps42
  go_upto_region 1 with fail
  have l0 := heap_alloc_new w (.cells #[.int .u8 (p.h.ki : Int), .int .u32 (p.h.ep : Int), .int .u32 (p.h.ba : Int), .int .u16 (p.h.ix : Int), .int .u16 (p.h.ct : Int), .int .u32 (p.h.bl : Int), .int .u32 (p.h.mo : Int), .slice p.d.a p.d.n p.d.c] 77)
  have hb0 := bel_alloc (Below.refl _ w) (.cells #[.int .u8 (p.h.ki : Int), .int .u32 (p.h.ep : Int), .int .u32 (p.h.ba : Int), .int .u16 (p.h.ix : Int), .int .u16 (p.h.ct : Int), .int .u32 (p.h.bl : Int), .int .u32 (p.h.mo : Int), .slice p.d.a p.d.n p.d.c] 77)
  obtain ⟨w0, hw0⟩ : ∃ x, x = w.alloc (.cells #[.int .u8 (p.h.ki : Int), .int .u32 (p.h.ep : Int), .int .u32 (p.h.ba : Int), .int .u16 (p.h.ix : Int), .int .u16 (p.h.ct : Int), .int .u32 (p.h.bl : Int), .int .u32 (p.h.mo : Int), .slice p.d.a p.d.n p.d.c] 77) := ⟨_, rfl⟩
  obtain ⟨pb, hpb⟩ : ∃ x, x = w.heap.size := ⟨_, rfl⟩
  rw [← hw0, ← hpb] at l0
  rw [← hw0] at hb0
  rw [← hw0, ← hpb]
  have HL0 := Lib.hid l0
  have HB0 := Lib.hid hb0
  clear hw0 hpb l0 hb0
  go_wp2_with fail
  ((with_reducible refine (HSH.out _ HB0.out).mono ?_))
  rintro e w1 ⟨rfl, hb1⟩
  have l1 := heap_alloc_new w1 (.cells #[.int .i64 (s.n : Int), .int .i64 (s.bl : Int), .int .i64 (s.pg : Int), .int .i64 (s.sz : Int)] 54)
  have hb1' := bel_trans hb1 (bel_alloc (Below.refl _ w1) (.cells #[.int .i64 (s.n : Int), .int .i64 (s.bl : Int), .int .i64 (s.pg : Int), .int .i64 (s.sz : Int)] 54))
  go_upto_region 2 with fail
  obtain ⟨w2, hw2⟩ : ∃ x, x = w1.alloc (.cells #[.int .i64 (s.n : Int), .int .i64 (s.bl : Int), .int .i64 (s.pg : Int), .int .i64 (s.sz : Int)] 54) := ⟨_, rfl⟩
  obtain ⟨gb, hgb⟩ : ∃ x, x = w1.heap.size := ⟨_, rfl⟩
  rw [← hw2, ← hgb] at l1
  rw [← hw2] at hb1'
  rw [← hw2, ← hgb]
  have HL2 := Lib.hid ((hb1'.block _ (Array.getElem?_eq_some_iff.1 HL0.out).1).trans HL0.out)
  have HG2 := Lib.hid l1
  have HB2 := Lib.hid (bel_trans HB0.out hb1')
  obtain ⟨g0, g1, g2, g3⟩ := four_at l1
  clear hw2 hgb l1 hb1 hb1'
  go_wp2_with fail
  ((with_reducible refine (HFI.out _).mono ?_))
  rintro e w3 ⟨rfl, hb3⟩
  have l4 := heap_alloc_new w3 (.cells #[.int .i64 (4 + (wh : Int)), .int .i64 (r1 : Int), .int .i64 (f1 : Int)] 176)
  have hb4 := bel_trans hb3 (bel_alloc (Below.refl _ w3) (.cells #[.int .i64 (4 + (wh : Int)), .int .i64 (r1 : Int), .int .i64 (f1 : Int)] 176))
  go_upto_region 5 with fail
  obtain ⟨w4, hw4⟩ : ∃ x, x = w3.alloc (.cells #[.int .i64 (4 + (wh : Int)), .int .i64 (r1 : Int), .int .i64 (f1 : Int)] 176) := ⟨_, rfl⟩
  obtain ⟨sb, hsb⟩ : ∃ x, x = w3.heap.size := ⟨_, rfl⟩
  rw [← hw4, ← hsb] at l4
  rw [← hw4] at hb4
  rw [← hw4, ← hsb]
  have hl4 := (hb4.block _ (Array.getElem?_eq_some_iff.1 HL2.out).1).trans HL2.out
  have hg4 := (hb4.block _ (Array.getElem?_eq_some_iff.1 HG2.out).1).trans HG2.out
  have HB4 := Lib.hid (bel_trans HB2.out hb4)
  clear g0 g1 g2 g3
  obtain ⟨g0, g1, g2, g3⟩ := four_at hg4
  obtain ⟨c0, c1, c2⟩ := three_at l4
  obtain ⟨p0, p1, p2, p3, p4, p5, p6, p7⟩ := eight_at hl4
  clear hw4 hsb l4 hl4 hg4 hb3 hb4
  go_wp2_with fail
  ((with_reducible refine (HPR.out _ HB4.out).mono ?_))
  rintro e w5 ⟨s', rfl, q1, q2, q3, q4, q5⟩
  have HF := Lib.hid (And.intro q1 (And.intro ((RStep.of_below HB4.out).trans q2) (And.intro q3 (And.intro q4 q5))))
  obtain ⟨cd, hcd⟩ : ∃ c : Int, c = if deads s (ordL f1 2 s.first) = 2 then 74 else 0 := ⟨_, rfl⟩
  rw [← hcd]
  have HCD := Lib.hid hcd
  clear q1 q2 q3 q4 q5 c0 c1 c2 p0 p1 p2 p3 p4 p5 p6 p7 g0 g1 g2 g3 hcd
  go_wp2
  go_ret
  exact ⟨s', by rw [← HCD.out]; rfl, HF.out⟩
set_option maxRecDepth 100000 in
set_option maxHeartbeats 1000000 in
theorem stgPut_which (h : Ram B s w) (wh k : Int) (p : SP) (hw : wh < 0 ∨ 2 ≤ wh) :
    Calls Try.prog 42 #[.iface 56 (.pointer (some ⟨s.rb, 0, none⟩)), .int .i64 wh, .int .i64 k, .agg #[.int .u8 (p.h.ki : Int), .int .u32 (p.h.ep : Int), .int .u32 (p.h.ba : Int), .int .u16 (p.h.ix : Int), .int .u16 (p.h.ct : Int), .int .u32 (p.h.bl : Int), .int .u32 (p.h.mo : Int), .slice p.d.a p.d.n p.d.c]] w fun e w' => e = .returned (.int .i64 34) ∧ Below w.heap.size w w' := by
  have HSH := Lib.hid fun (x : World) (hx : Below w.heap.size w x) => stgShape_range (h.step hx) wh hw
  clear h hw
  go_enter Try.func42, Try.ntmps42
  go_upto_region 1 with fail
  have l0 := heap_alloc_new w (.cells #[.int .u8 (p.h.ki : Int), .int .u32 (p.h.ep : Int), .int .u32 (p.h.ba : Int), .int .u16 (p.h.ix : Int), .int .u16 (p.h.ct : Int), .int .u32 (p.h.bl : Int), .int .u32 (p.h.mo : Int), .slice p.d.a p.d.n p.d.c] 77)
  have hb0 := bel_alloc (Below.refl _ w) (.cells #[.int .u8 (p.h.ki : Int), .int .u32 (p.h.ep : Int), .int .u32 (p.h.ba : Int), .int .u16 (p.h.ix : Int), .int .u16 (p.h.ct : Int), .int .u32 (p.h.bl : Int), .int .u32 (p.h.mo : Int), .slice p.d.a p.d.n p.d.c] 77)
  obtain ⟨w0, hw0⟩ : ∃ x, x = w.alloc (.cells #[.int .u8 (p.h.ki : Int), .int .u32 (p.h.ep : Int), .int .u32 (p.h.ba : Int), .int .u16 (p.h.ix : Int), .int .u16 (p.h.ct : Int), .int .u32 (p.h.bl : Int), .int .u32 (p.h.mo : Int), .slice p.d.a p.d.n p.d.c] 77) := ⟨_, rfl⟩
  obtain ⟨pb, hpb⟩ : ∃ x, x = w.heap.size := ⟨_, rfl⟩
  rw [← hw0, ← hpb] at l0
  rw [← hw0] at hb0
  rw [← hw0, ← hpb]
  have HL0 := Lib.hid l0
  have HB0 := Lib.hid hb0
  clear hw0 hpb l0 hb0
  go_wp2_with fail
  ((with_reducible refine (HSH.out _ HB0.out).mono ?_))
  rintro e w1 ⟨rfl, hb1⟩
  have HB1 := Lib.hid (bel_trans HB0.out hb1)
  clear hb1
  go_wp2
  go_ret
  exact ⟨rfl, bel_alloc HB1.out _⟩
set_option maxRecDepth 100000 in
set_option maxHeartbeats 1000000 in
theorem stgPut_place (h : Ram B s w) (wh : Nat) (k : Int) (p : SP) (hw : wh ≤ 1) (hk : k < 0 ∨ (roomN s.n s.pg : Int) ≤ k) :
    Calls Try.prog 42 #[.iface 56 (.pointer (some ⟨s.rb, 0, none⟩)), .int .i64 (wh : Int), .int .i64 k, .agg #[.int .u8 (p.h.ki : Int), .int .u32 (p.h.ep : Int), .int .u32 (p.h.ba : Int), .int .u16 (p.h.ix : Int), .int .u16 (p.h.ct : Int), .int .u32 (p.h.bl : Int), .int .u32 (p.h.mo : Int), .slice p.d.a p.d.n p.d.c]] w fun e w' => e = .returned (.int .i64 34) ∧ Below w.heap.size w w' := by
  have HSH := Lib.hid fun (x : World) (hx : Below w.heap.size w x) => stgShape_ok (h.step hx) wh hw
  have HFI := Lib.hid fun (x : World) => find_range s.n s.bl s.pg s.sz k (wh : Int) x h.geo hk
  clear h hw hk
  go_enter Try.func42, Try.ntmps42
  go_upto_region 1 with fail
  have l0 := heap_alloc_new w (.cells #[.int .u8 (p.h.ki : Int), .int .u32 (p.h.ep : Int), .int .u32 (p.h.ba : Int), .int .u16 (p.h.ix : Int), .int .u16 (p.h.ct : Int), .int .u32 (p.h.bl : Int), .int .u32 (p.h.mo : Int), .slice p.d.a p.d.n p.d.c] 77)
  have hb0 := bel_alloc (Below.refl _ w) (.cells #[.int .u8 (p.h.ki : Int), .int .u32 (p.h.ep : Int), .int .u32 (p.h.ba : Int), .int .u16 (p.h.ix : Int), .int .u16 (p.h.ct : Int), .int .u32 (p.h.bl : Int), .int .u32 (p.h.mo : Int), .slice p.d.a p.d.n p.d.c] 77)
  obtain ⟨w0, hw0⟩ : ∃ x, x = w.alloc (.cells #[.int .u8 (p.h.ki : Int), .int .u32 (p.h.ep : Int), .int .u32 (p.h.ba : Int), .int .u16 (p.h.ix : Int), .int .u16 (p.h.ct : Int), .int .u32 (p.h.bl : Int), .int .u32 (p.h.mo : Int), .slice p.d.a p.d.n p.d.c] 77) := ⟨_, rfl⟩
  obtain ⟨pb, hpb⟩ : ∃ x, x = w.heap.size := ⟨_, rfl⟩
  rw [← hw0, ← hpb] at l0
  rw [← hw0] at hb0
  rw [← hw0, ← hpb]
  have HL0 := Lib.hid l0
  have HB0 := Lib.hid hb0
  clear hw0 hpb l0 hb0
  go_wp2_with fail
  ((with_reducible refine (HSH.out _ HB0.out).mono ?_))
  rintro e w1 ⟨rfl, hb1⟩
  have l1 := heap_alloc_new w1 (.cells #[.int .i64 (s.n : Int), .int .i64 (s.bl : Int), .int .i64 (s.pg : Int), .int .i64 (s.sz : Int)] 54)
  have hb1' := bel_trans hb1 (bel_alloc (Below.refl _ w1) (.cells #[.int .i64 (s.n : Int), .int .i64 (s.bl : Int), .int .i64 (s.pg : Int), .int .i64 (s.sz : Int)] 54))
  go_upto_region 2 with fail
  obtain ⟨w2, hw2⟩ : ∃ x, x = w1.alloc (.cells #[.int .i64 (s.n : Int), .int .i64 (s.bl : Int), .int .i64 (s.pg : Int), .int .i64 (s.sz : Int)] 54) := ⟨_, rfl⟩
  obtain ⟨gb, hgb⟩ : ∃ x, x = w1.heap.size := ⟨_, rfl⟩
  rw [← hw2, ← hgb] at l1
  rw [← hw2] at hb1'
  rw [← hw2, ← hgb]
  have HL2 := Lib.hid ((hb1'.block _ (Array.getElem?_eq_some_iff.1 HL0.out).1).trans HL0.out)
  have HG2 := Lib.hid l1
  have HB2 := Lib.hid (bel_trans HB0.out hb1')
  obtain ⟨g0, g1, g2, g3⟩ := four_at l1
  clear hw2 hgb l1 hb1 hb1'
  go_wp2_with fail
  ((with_reducible refine (HFI.out _).mono ?_))
  rintro e w3 ⟨rfl, hb3⟩
  have HB3 := Lib.hid (bel_trans HB2.out hb3)
  clear hb3 g0 g1 g2 g3
  go_wp2
  go_ret
  exact ⟨rfl, bel_alloc HB3.out _⟩
set_option maxRecDepth 100000 in
set_option maxHeartbeats 1000000 in
theorem stgPut_short (h : Ram B s w) (wh k : Nat) (p : SP) (hw : wh ≤ 1) (hk : k < roomN s.n s.pg) (hpn : p.d.n ≠ s.sz) :
    Calls Try.prog 42 #[.iface 56 (.pointer (some ⟨s.rb, 0, none⟩)), .int .i64 (wh : Int), .int .i64 (k : Int), .agg #[.int .u8 (p.h.ki : Int), .int .u32 (p.h.ep : Int), .int .u32 (p.h.ba : Int), .int .u16 (p.h.ix : Int), .int .u16 (p.h.ct : Int), .int .u32 (p.h.bl : Int), .int .u32 (p.h.mo : Int), .slice p.d.a p.d.n p.d.c]] w fun e w' => e = .returned (.int .i64 34) ∧ Below w.heap.size w w' := by
  have HSH := Lib.hid fun (x : World) (hx : Below w.heap.size w x) => stgShape_ok (h.step hx) wh hw
  have HFI := Lib.hid fun (x : World) => find_ok s.n s.bl s.pg s.sz k wh x h.geo hk hw
  have hne : ((p.d.n : Int) != (s.sz : Int)) = true := by simp; omega
  have hne' : (p.d.n != s.sz) = true := by simp; omega
  obtain ⟨r1, hr⟩ : ∃ r, r = rowN s.n k := ⟨_, rfl⟩
  obtain ⟨f1, hf⟩ : ∃ r, r = firN s.n k := ⟨_, rfl⟩
  rw [← hr, ← hf] at HFI
  clear h hk hpn hr hf
  go_enter Try.func42, Try.ntmps42
  go_upto_region 1 with fail
  have l0 := heap_alloc_new w (.cells #[.int .u8 (p.h.ki : Int), .int .u32 (p.h.ep : Int), .int .u32 (p.h.ba : Int), .int .u16 (p.h.ix : Int), .int .u16 (p.h.ct : Int), .int .u32 (p.h.bl : Int), .int .u32 (p.h.mo : Int), .slice p.d.a p.d.n p.d.c] 77)
  have hb0 := bel_alloc (Below.refl _ w) (.cells #[.int .u8 (p.h.ki : Int), .int .u32 (p.h.ep : Int), .int .u32 (p.h.ba : Int), .int .u16 (p.h.ix : Int), .int .u16 (p.h.ct : Int), .int .u32 (p.h.bl : Int), .int .u32 (p.h.mo : Int), .slice p.d.a p.d.n p.d.c] 77)
  obtain ⟨w0, hw0⟩ : ∃ x, x = w.alloc (.cells #[.int .u8 (p.h.ki : Int), .int .u32 (p.h.ep : Int), .int .u32 (p.h.ba : Int), .int .u16 (p.h.ix : Int), .int .u16 (p.h.ct : Int), .int .u32 (p.h.bl : Int), .int .u32 (p.h.mo : Int), .slice p.d.a p.d.n p.d.c] 77) := ⟨_, rfl⟩
  obtain ⟨pb, hpb⟩ : ∃ x, x = w.heap.size := ⟨_, rfl⟩
  rw [← hw0, ← hpb] at l0
  rw [← hw0] at hb0
  rw [← hw0, ← hpb]
  have HL0 := Lib.hid l0
  have HB0 := Lib.hid hb0
  clear hw0 hpb l0 hb0
  go_wp2_with fail
  ((with_reducible refine (HSH.out _ HB0.out).mono ?_))
  rintro e w1 ⟨rfl, hb1⟩
  have l1 := heap_alloc_new w1 (.cells #[.int .i64 (s.n : Int), .int .i64 (s.bl : Int), .int .i64 (s.pg : Int), .int .i64 (s.sz : Int)] 54)
  have hb1' := bel_trans hb1 (bel_alloc (Below.refl _ w1) (.cells #[.int .i64 (s.n : Int), .int .i64 (s.bl : Int), .int .i64 (s.pg : Int), .int .i64 (s.sz : Int)] 54))
  go_upto_region 2 with fail
  obtain ⟨w2, hw2⟩ : ∃ x, x = w1.alloc (.cells #[.int .i64 (s.n : Int), .int .i64 (s.bl : Int), .int .i64 (s.pg : Int), .int .i64 (s.sz : Int)] 54) := ⟨_, rfl⟩
  obtain ⟨gb, hgb⟩ : ∃ x, x = w1.heap.size := ⟨_, rfl⟩
  rw [← hw2, ← hgb] at l1
  rw [← hw2] at hb1'
  rw [← hw2, ← hgb]
  have HL2 := Lib.hid ((hb1'.block _ (Array.getElem?_eq_some_iff.1 HL0.out).1).trans HL0.out)
  have HG2 := Lib.hid l1
  have HB2 := Lib.hid (bel_trans HB0.out hb1')
  obtain ⟨g0, g1, g2, g3⟩ := four_at l1
  clear hw2 hgb l1 hb1 hb1'
  go_wp2_with fail
  ((with_reducible refine (HFI.out _).mono ?_))
  rintro e w3 ⟨rfl, hb3⟩
  have hb4 := bel_trans hb3 (bel_alloc (Below.refl _ w3) (.cells #[.int .i64 (4 + (wh : Int)), .int .i64 (r1 : Int), .int .i64 (f1 : Int)] 176))
  go_upto_region 5 with fail
  obtain ⟨w4, hw4⟩ : ∃ x, x = w3.alloc (.cells #[.int .i64 (4 + (wh : Int)), .int .i64 (r1 : Int), .int .i64 (f1 : Int)] 176) := ⟨_, rfl⟩
  rw [← hw4] at hb4 ⊢
  have hl4 := (hb4.block _ (Array.getElem?_eq_some_iff.1 HL2.out).1).trans HL2.out
  have hg4 := (hb4.block _ (Array.getElem?_eq_some_iff.1 HG2.out).1).trans HG2.out
  have HB4 := Lib.hid (bel_trans HB2.out hb4)
  clear g0 g1 g2 g3
  obtain ⟨g0, g1, g2, g3⟩ := four_at hg4
  obtain ⟨p0, p1, p2, p3, p4, p5, p6, p7⟩ := eight_at hl4
  clear hw4 hl4 hg4 hb3 hb4
  go_wp2
  go_ret
  exact ⟨rfl, HB4.out⟩
end
set_option maxRecDepth 100000 in
set_option maxHeartbeats 1000000 in
theorem stgPut_nil (wh k : Int) (p : SP) (w : World) :
    Calls Try.prog 42 #[.nilIface, .int .i64 wh, .int .i64 k, .agg #[.int .u8 (p.h.ki : Int), .int .u32 (p.h.ep : Int), .int .u32 (p.h.ba : Int), .int .u16 (p.h.ix : Int), .int .u16 (p.h.ct : Int), .int .u32 (p.h.bl : Int), .int .u32 (p.h.mo : Int), .slice p.d.a p.d.n p.d.c]] w fun e w' => e = .returned (.int .i64 60) ∧ Below w.heap.size w w' := by
  have HSH := Lib.hid fun (x : World) => stgShape_nil wh x
  go_enter Try.func42, Try.ntmps42
  go_upto_region 1 with fail
  have l0 := heap_alloc_new w (.cells #[.int .u8 (p.h.ki : Int), .int .u32 (p.h.ep : Int), .int .u32 (p.h.ba : Int), .int .u16 (p.h.ix : Int), .int .u16 (p.h.ct : Int), .int .u32 (p.h.bl : Int), .int .u32 (p.h.mo : Int), .slice p.d.a p.d.n p.d.c] 77)
  have hb0 := bel_alloc (Below.refl _ w) (.cells #[.int .u8 (p.h.ki : Int), .int .u32 (p.h.ep : Int), .int .u32 (p.h.ba : Int), .int .u16 (p.h.ix : Int), .int .u16 (p.h.ct : Int), .int .u32 (p.h.bl : Int), .int .u32 (p.h.mo : Int), .slice p.d.a p.d.n p.d.c] 77)
  obtain ⟨w0, hw0⟩ : ∃ x, x = w.alloc (.cells #[.int .u8 (p.h.ki : Int), .int .u32 (p.h.ep : Int), .int .u32 (p.h.ba : Int), .int .u16 (p.h.ix : Int), .int .u16 (p.h.ct : Int), .int .u32 (p.h.bl : Int), .int .u32 (p.h.mo : Int), .slice p.d.a p.d.n p.d.c] 77) := ⟨_, rfl⟩
  obtain ⟨pb, hpb⟩ : ∃ x, x = w.heap.size := ⟨_, rfl⟩
  rw [← hw0, ← hpb] at l0
  rw [← hw0] at hb0
  rw [← hw0, ← hpb]
  have HL0 := Lib.hid l0
  have HB0 := Lib.hid hb0
  clear hw0 hpb l0 hb0
  go_wp2_with fail
  ((with_reducible refine (HSH.out _).mono ?_))
  rintro e w1 ⟨rfl, hb1⟩
  have HB1 := Lib.hid (bel_trans HB0.out hb1)
  clear hb1
  go_wp2
  go_ret
  exact ⟨rfl, bel_alloc HB1.out _⟩
end Go.Proofs.Ytpmlbfpneenacaa
