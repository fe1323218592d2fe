/- geom.At. -/
import Derived.Test.YtmggjknljbpbgaaGeoNum
namespace Go.Proofs.Ytmggjknljbpbgaa
open Go.RowKit

theorem vol_bd {a b c d : Int} (hg : GoodG a b c d) : 0 ≤ c * (a - 1) ∧ c * (a - 1) ≤ 480 ∧ 0 ≤ (b - 5) * (c * (a - 1)) ∧ (b - 5) * (c * (a - 1)) ≤ 28320 := by
  obtain ⟨g1, g2, g3, g4, g5, g6, _⟩ := hg
  obtain ⟨m1, m2⟩ := mul_bd (show 0 ≤ c by omega) (show c ≤ 32 by omega) (show 0 ≤ a - 1 by omega) (show a - 1 ≤ 15 by omega)
  obtain ⟨m3, m4⟩ := mul_bd (show 0 ≤ b - 5 by omega) (show b - 5 ≤ 59 by omega) m1 m2
  exact ⟨m1, by omega, m3, by omega⟩
/-- A shape's box, and a place's that is to be answered. -/
def AtS (w : World) (a b c d : Int) (x : World) : Prop := GS w w.heap.size a b c d x ∧ x.heap[w.heap.size + 1]? = some (.cells #[.int .i64 0, .int .i64 0, .int .i64 0] 33 (0, 0))
theorem AtS.step {w : World} {a b c d : Int} {x y : World} (h : AtS w a b c d x) (hb : Below x.heap.size x y) : AtS w a b c d y := ⟨h.1.step hb, (hb.block _ (Array.getElem?_eq_some_iff.1 h.2).1).trans h.2⟩
theorem atS_new (w : World) (a b c d : Int) : AtS w a b c d ((w.alloc (.cells #[.int .i64 a, .int .i64 b, .int .i64 c, .int .i64 d] 23)).alloc (.cells #[.int .i64 0, .int .i64 0, .int .i64 0] 33)) := by
  refine ⟨(gs_new w a b c d).step (bel_alloc (Below.refl _ _) _), ?_⟩
  have h := heap_alloc_new (w.alloc (.cells #[.int .i64 a, .int .i64 b, .int .i64 c, .int .i64 d] 23)) (.cells #[.int .i64 0, .int .i64 0, .int .i64 0] 33)
  rw [World.size_alloc] at h
  exact h
theorem three_at {W : World} {b : Nat} {v0 v1 v2 : Value} {t : TypeId} (h : W.heap[b]? = some (.cells #[v0, v1, v2] t (0, 0))) :
    (W.cell? ⟨b, 0, none⟩ = some v0 ∧ W.cell? ⟨b, 1, none⟩ = some v1 ∧ W.cell? ⟨b, 2, none⟩ = some v2) ∧ W.frozen? ⟨b, 0, none⟩ = false ∧ W.frozen? ⟨b, 1, none⟩ = false ∧ W.frozen? ⟨b, 2, none⟩ = false := by
  simp [World.cell?, World.frozen?, h]

set_option maxRecDepth 100000 in
set_option maxHeartbeats 3200000 in
theorem at_badGeo (a b c d : Int) (n : Nat) (w : World) (hg : ¬ GoodG a b c d) :
    Calls Try.prog 25 #[.agg #[.int .i64 a, .int .i64 b, .int .i64 c, .int .i64 d], .int .u32 (n : Int)] w fun e w' => e = .returned (.tuple #[.agg #[.int .i64 0, .int .i64 0, .int .i64 0], .bool false]) ∧ Below w.heap.size w w' := by
  have HC := Lib.hid fun x : World => check_bad a b c d x hg
  clear hg
  have hS0 := (atS_new w a b c d).step ((Below.refl _ _).drew)
  obtain ⟨S, hSd⟩ : ∃ S : World → Prop, (∀ x, S x → AtS w a b c d x) ∧ (∀ x, AtS w a b c d x → S x) := ⟨_, fun _ h => h, fun _ h => h⟩
  replace hS0 := hSd.2 _ hS0
  haveI hne : Nonempty (Wd S) := ⟨⟨_, hS0⟩⟩
  have HS := Lib.hid hSd
  clear hSd
  have f0 : ∀ y : Wd S, y.w.cell? ⟨w.heap.size, 0, none⟩ = some (.int .i64 a) := fun y => (HS.out.1 _ y.ok).1.1
  have f1 : ∀ y : Wd S, y.w.cell? ⟨w.heap.size, 1, none⟩ = some (.int .i64 b) := fun y => (HS.out.1 _ y.ok).1.2.1
  have f2 : ∀ y : Wd S, y.w.cell? ⟨w.heap.size, 2, none⟩ = some (.int .i64 c) := fun y => (HS.out.1 _ y.ok).1.2.2.1
  have f3 : ∀ y : Wd S, y.w.cell? ⟨w.heap.size, 3, none⟩ = some (.int .i64 d) := fun y => (HS.out.1 _ y.ok).1.2.2.2.1
  have HST : Hid (∀ (y : Wd S) (z : World), Below y.w.heap.size y.w z → S z) := Lib.hid fun y z hb => HS.out.2 _ ((HS.out.1 _ y.ok).step hb)
  go_enter Try.func25, Try.ntmps25
  go_wp2_with fail
  refine wp_region_wd S (by kernel_rfl) (by kernel_rfl) hS0 ?_
  repeat (go_big_quiet_step (first
    | (go_at_call 16; with_reducible exact Calls.wd (HST.out _) (HC.out _))))
  refine wpQuiet_nil ?_
  intro y hw'
  replace hw' := wd_ok hw'
  have hok := Lib.hid (HS.out.1 _ hw')
  clear hw'
  obtain ⟨⟨q0, q1, q2⟩, z0, z1, z2⟩ := three_at hok.out.2
  have hbe := hok.out.1.2.2.2.2
  go_wp2
  refine bodyPost_ret (v := .tuple #[.agg #[.int .i64 0, .int .i64 0, .int .i64 0], .bool false]) ?_ rfl ⟨rfl, ((hbe.setCell (p := ⟨w.heap.size + 1, 0, none⟩) (by simp) _).setCell (p := ⟨w.heap.size + 1, 1, none⟩) (by simp) _).setCell (p := ⟨w.heap.size + 1, 2, none⟩) (by simp) _⟩
  simp [results, Try.results25, go_sem, q0, q1, q2]
set_option maxRecDepth 100000 in
set_option maxHeartbeats 3200000 in
theorem at_zero (a b c d : Int) (n : Nat) (w : World) (hg : GoodG a b c d) (hn : n < 1) :
    Calls Try.prog 25 #[.agg #[.int .i64 a, .int .i64 b, .int .i64 c, .int .i64 d], .int .u32 (n : Int)] w fun e w' => e = .returned (.tuple #[.agg #[.int .i64 0, .int .i64 0, .int .i64 0], .bool false]) ∧ Below w.heap.size w w' := by
  have HC := Lib.hid fun x : World => check_good a b c d x hg
  have k1 : decide (n < 1) = true := by simpa using hn
  have k2 : decide ((n : Int) < 1) = true := by simp; omega
  clear hg hn
  have hS0 := (atS_new w a b c d).step ((Below.refl _ _).drew)
  obtain ⟨S, hSd⟩ : ∃ S : World → Prop, (∀ x, S x → AtS w a b c d x) ∧ (∀ x, AtS w a b c d x → S x) := ⟨_, fun _ h => h, fun _ h => h⟩
  replace hS0 := hSd.2 _ hS0
  haveI hne : Nonempty (Wd S) := ⟨⟨_, hS0⟩⟩
  have HS := Lib.hid hSd
  clear hSd
  have f0 : ∀ y : Wd S, y.w.cell? ⟨w.heap.size, 0, none⟩ = some (.int .i64 a) := fun y => (HS.out.1 _ y.ok).1.1
  have f1 : ∀ y : Wd S, y.w.cell? ⟨w.heap.size, 1, none⟩ = some (.int .i64 b) := fun y => (HS.out.1 _ y.ok).1.2.1
  have f2 : ∀ y : Wd S, y.w.cell? ⟨w.heap.size, 2, none⟩ = some (.int .i64 c) := fun y => (HS.out.1 _ y.ok).1.2.2.1
  have f3 : ∀ y : Wd S, y.w.cell? ⟨w.heap.size, 3, none⟩ = some (.int .i64 d) := fun y => (HS.out.1 _ y.ok).1.2.2.2.1
  have HST : Hid (∀ (y : Wd S) (z : World), Below y.w.heap.size y.w z → S z) := Lib.hid fun y z hb => HS.out.2 _ ((HS.out.1 _ y.ok).step hb)
  go_enter Try.func25, Try.ntmps25
  go_wp2_with fail
  refine wp_region_wd S (by kernel_rfl) (by kernel_rfl) hS0 ?_
  repeat (go_big_quiet_step (first
    | (go_at_call 16; with_reducible exact Calls.wd (HST.out _) (HC.out _))))
  refine wpQuiet_nil ?_
  intro y hw'
  replace hw' := wd_ok hw'
  have hok := Lib.hid (HS.out.1 _ hw')
  clear hw'
  obtain ⟨⟨q0, q1, q2⟩, z0, z1, z2⟩ := three_at hok.out.2
  have hbe := hok.out.1.2.2.2.2
  go_wp2
  refine bodyPost_ret (v := .tuple #[.agg #[.int .i64 0, .int .i64 0, .int .i64 0], .bool false]) ?_ rfl ⟨rfl, ((hbe.setCell (p := ⟨w.heap.size + 1, 0, none⟩) (by simp) _).setCell (p := ⟨w.heap.size + 1, 1, none⟩) (by simp) _).setCell (p := ⟨w.heap.size + 1, 2, none⟩) (by simp) _⟩
  simp [results, Try.results25, go_sem, q0, q1, q2]
set_option maxRecDepth 100000 in
set_option maxHeartbeats 3200000 in
theorem at_over (a b c d : Int) (n : Nat) (w : World) (hg : GoodG a b c d) (h1 : 1 ≤ n) (h2 : (b - 5) * (c * (a - 1)) < n) :
    Calls Try.prog 25 #[.agg #[.int .i64 a, .int .i64 b, .int .i64 c, .int .i64 d], .int .u32 (n : Int)] w fun e w' => e = .returned (.tuple #[.agg #[.int .i64 0, .int .i64 0, .int .i64 0], .bool false]) ∧ Below w.heap.size w w' := by
  have HC := Lib.hid fun x : World => check_good a b c d x hg
  have HV := Lib.hid fun x : World => virtual_any a b c d x (by have := hg.2.2.1; omega) (by have := hg.2.2.2.1; omega)
  have HP := Lib.hid fun x : World => pages_any a b c d x (by have := hg.1; omega) (by have := hg.2.1; omega) (by have := hg.2.2.2.2.1; omega) (by have := hg.2.2.2.2.2.1; omega)
  have hv := vol_bd hg
  have k1 : decide ((n : Int) < 1) = false := by simp; omega
  have k2 : decide ((b - 5) * (c * (a - 1)) < (n : Int)) = true := by simpa using h2
  have u1 : IntKind.i64.wrap ((b - 5) * (c * (a - 1))) = (b - 5) * (c * (a - 1)) := wrap_of (by omega) (by omega)
  have u2 : IntKind.u32.wrap ((b - 5) * (c * (a - 1))) = (b - 5) * (c * (a - 1)) := wrap32_of (by omega) (by omega)
  clear hg h1 h2 hv
  have hS0 := (atS_new w a b c d).step ((Below.refl _ _).drew)
  obtain ⟨S, hSd⟩ : ∃ S : World → Prop, (∀ x, S x → AtS w a b c d x) ∧ (∀ x, AtS w a b c d x → S x) := ⟨_, fun _ h => h, fun _ h => h⟩
  replace hS0 := hSd.2 _ hS0
  haveI hne : Nonempty (Wd S) := ⟨⟨_, hS0⟩⟩
  have HS := Lib.hid hSd
  clear hSd
  have f0 : ∀ y : Wd S, y.w.cell? ⟨w.heap.size, 0, none⟩ = some (.int .i64 a) := fun y => (HS.out.1 _ y.ok).1.1
  have f1 : ∀ y : Wd S, y.w.cell? ⟨w.heap.size, 1, none⟩ = some (.int .i64 b) := fun y => (HS.out.1 _ y.ok).1.2.1
  have f2 : ∀ y : Wd S, y.w.cell? ⟨w.heap.size, 2, none⟩ = some (.int .i64 c) := fun y => (HS.out.1 _ y.ok).1.2.2.1
  have f3 : ∀ y : Wd S, y.w.cell? ⟨w.heap.size, 3, none⟩ = some (.int .i64 d) := fun y => (HS.out.1 _ y.ok).1.2.2.2.1
  have HST : Hid (∀ (y : Wd S) (z : World), Below y.w.heap.size y.w z → S z) := Lib.hid fun y z hb => HS.out.2 _ ((HS.out.1 _ y.ok).step hb)
  go_enter Try.func25, Try.ntmps25
  go_wp2_with fail
  refine wp_region_wd S (by kernel_rfl) (by kernel_rfl) hS0 ?_
  repeat (go_big_quiet_step (first
    | (go_at_call 16; with_reducible exact Calls.wd (HST.out _) (HC.out _))
    | (go_at_call 27; with_reducible exact Calls.wd (HST.out _) (HV.out _))
    | (go_at_call 30; with_reducible exact Calls.wd (HST.out _) (HP.out _))))
  refine wpQuiet_nil ?_
  intro y hw'
  replace hw' := wd_ok hw'
  have hok := Lib.hid (HS.out.1 _ hw')
  clear hw'
  obtain ⟨⟨q0, q1, q2⟩, z0, z1, z2⟩ := three_at hok.out.2
  have hbe := hok.out.1.2.2.2.2
  go_wp2
  refine bodyPost_ret (v := .tuple #[.agg #[.int .i64 0, .int .i64 0, .int .i64 0], .bool false]) ?_ rfl ⟨rfl, ((hbe.setCell (p := ⟨w.heap.size + 1, 0, none⟩) (by simp) _).setCell (p := ⟨w.heap.size + 1, 1, none⟩) (by simp) _).setCell (p := ⟨w.heap.size + 1, 2, none⟩) (by simp) _⟩
  simp [results, Try.results25, go_sem, q0, q1, q2]
/-- The place of number i + 1. -/
def AtSt (a : Int) (i : Nat) : Int := (i : Int) / (a - 1)
def AtSlot (a : Int) (i : Nat) : Int := (i : Int) % (a - 1)
def AtSeg (a c : Int) (i : Nat) : Int := AtSt a i / c
def AtRow (a c : Int) (i : Nat) : Int := AtSt a i % c
structure AtF (a c : Int) (i : Nat) (st sl sg rw : Int) : Prop where
  a1 : st = AtSt a i
  a2 : sl = AtSlot a i
  a3 : sg = AtSeg a c i
  a4 : rw = AtRow a c i
  t1 : (i : Int).tdiv (a - 1) = st
  t2 : (i : Int).tmod (a - 1) = sl
  t3 : st.tdiv c = sg
  t4 : st.tmod c = rw
  d1 : (i : Int) / (a - 1) = st
  d2 : (i : Int) % (a - 1) = sl
  d3 : st / c = sg
  d4 : st % c = rw
  w1 : IntKind.i64.wrap st = st
  w3 : IntKind.i64.wrap sg = sg
  w2 : IntKind.i64.wrap sl = sl
  w4 : IntKind.i64.wrap rw = rw
  b1 : 0 ≤ st ∧ st ≤ 1000000
  b2 : 0 ≤ sl ∧ sl < a - 1
  b3 : 0 ≤ sg ∧ sg ≤ 1000000
  b4 : 0 ≤ rw ∧ rw < c
theorem atF (a c : Int) (i : Nat) (ha : 3 ≤ a) (ha2 : a ≤ 16) (hc : 4 ≤ c) (hc2 : c ≤ 32) (hi : i ≤ 1000000) : ∃ st sl sg rw, AtF a c i st sl sg rw := by
  have e1 : 0 ≤ (i : Int) / (a - 1) := Int.ediv_nonneg (by omega) (by omega)
  have e2 : (i : Int) / (a - 1) ≤ (i : Int) := Int.ediv_le_self _ (by omega)
  have e3 : 0 ≤ (i : Int) % (a - 1) := Int.emod_nonneg _ (by omega)
  have e4 : (i : Int) % (a - 1) < a - 1 := Int.emod_lt_of_pos _ (by omega)
  obtain ⟨st, hst⟩ : ∃ st, st = (i : Int) / (a - 1) := ⟨_, rfl⟩
  obtain ⟨sl, hsl⟩ : ∃ sl, sl = (i : Int) % (a - 1) := ⟨_, rfl⟩
  rw [← hst] at e1 e2
  rw [← hsl] at e3 e4
  have f1 : 0 ≤ st / c := Int.ediv_nonneg e1 (by omega)
  have f2 : st / c ≤ st := Int.ediv_le_self _ e1
  have f3 : 0 ≤ st % c := Int.emod_nonneg _ (by omega)
  have f4 : st % c < c := Int.emod_lt_of_pos _ (by omega)
  exact ⟨st, sl, st / c, st % c, hst, hsl, by unfold AtSeg AtSt; rw [hst], by unfold AtRow AtSt; rw [hst], by rw [hst]; exact Int.tdiv_eq_ediv_of_nonneg (by omega), by rw [hsl]; exact Int.tmod_eq_emod_of_nonneg (by omega), Int.tdiv_eq_ediv_of_nonneg e1, Int.tmod_eq_emod_of_nonneg e1, hst.symm, hsl.symm, rfl, rfl, wrap_of (by omega) (by omega), wrap_of (by omega) (by omega), wrap_of (by omega) (by omega), wrap_of (by omega) (by omega), ⟨e1, by omega⟩, ⟨e3, e4⟩, ⟨f1, by omega⟩, ⟨f3, f4⟩⟩

set_option maxRecDepth 100000 in
set_option maxHeartbeats 3200000 in
theorem at_ok (a b c d : Int) (i : Nat) (w : World) (hg : GoodG a b c d) (h2 : (i : Int) < (b - 5) * (c * (a - 1))) :
    Calls Try.prog 25 #[.agg #[.int .i64 a, .int .i64 b, .int .i64 c, .int .i64 d], .int .u32 ((i : Int) + 1)] w fun e w' => e = .returned (.tuple #[.agg #[.int .i64 (AtSeg a c i), .int .i64 (AtRow a c i), .int .i64 (AtSlot a i)], .bool true]) ∧ Below w.heap.size w w' := by
  have HC := Lib.hid fun x : World => check_good a b c d x hg
  have HV := Lib.hid fun x : World => virtual_any a b c d x (by have := hg.2.2.1; omega) (by have := hg.2.2.2.1; omega)
  have HP := Lib.hid fun x : World => pages_any a b c d x (by have := hg.1; omega) (by have := hg.2.1; omega) (by have := hg.2.2.2.2.1; omega) (by have := hg.2.2.2.2.2.1; omega)
  have HW := Lib.hid fun x : World => width_any a b c d x (by have := hg.1; omega) (by have := hg.2.1; omega)
  have hv := vol_bd hg
  obtain ⟨st, sl, sg, rw', F⟩ := atF a c i hg.1 hg.2.1 hg.2.2.2.2.1 hg.2.2.2.2.2.1 (by omega)
  rw [← F.a2, ← F.a3, ← F.a4]
  have HF := Lib.hid F
  have hi0 : (i : Int) ≤ 30000 := by omega
  have k1 : decide ((i : Int) + 1 < 1) = false := by simp; omega
  have k2 : decide ((b - 5) * (c * (a - 1)) < (i : Int) + 1) = false := by simp; omega
  have k3 : (a - 1 == 0) = false := by have := hg.1; simp; omega
  have k4 : (c == 0) = false := by have := hg.2.2.2.2.1; simp; omega
  have k5 : ¬ (a - 1 = 0) := by have := hg.1; omega
  have k6 : ¬ (c = 0) := by have := hg.2.2.2.2.1; omega
  have u1 : IntKind.i64.wrap ((b - 5) * (c * (a - 1))) = (b - 5) * (c * (a - 1)) := wrap_of (by omega) (by omega)
  have u2 : IntKind.u32.wrap ((b - 5) * (c * (a - 1))) = (b - 5) * (c * (a - 1)) := wrap32_of (by omega) (by omega)
  have ga := hg.1
  have ga2 := hg.2.1
  have gc := hg.2.2.2.2.1
  have gc2 := hg.2.2.2.2.2.1
  clear hg h2 hv F
  have hS0 := (atS_new w a b c d).step ((Below.refl _ _).drew)
  obtain ⟨S, hSd⟩ : ∃ S : World → Prop, (∀ x, S x → AtS w a b c d x) ∧ (∀ x, AtS w a b c d x → S x) := ⟨_, fun _ h => h, fun _ h => h⟩
  replace hS0 := hSd.2 _ hS0
  haveI hne : Nonempty (Wd S) := ⟨⟨_, hS0⟩⟩
  have HS := Lib.hid hSd
  clear hSd
  have f0 : ∀ y : Wd S, y.w.cell? ⟨w.heap.size, 0, none⟩ = some (.int .i64 a) := fun y => (HS.out.1 _ y.ok).1.1
  have f1 : ∀ y : Wd S, y.w.cell? ⟨w.heap.size, 1, none⟩ = some (.int .i64 b) := fun y => (HS.out.1 _ y.ok).1.2.1
  have f2 : ∀ y : Wd S, y.w.cell? ⟨w.heap.size, 2, none⟩ = some (.int .i64 c) := fun y => (HS.out.1 _ y.ok).1.2.2.1
  have f3 : ∀ y : Wd S, y.w.cell? ⟨w.heap.size, 3, none⟩ = some (.int .i64 d) := fun y => (HS.out.1 _ y.ok).1.2.2.2.1
  have HST : Hid (∀ (y : Wd S) (z : World), Below y.w.heap.size y.w z → S z) := Lib.hid fun y z hb => HS.out.2 _ ((HS.out.1 _ y.ok).step hb)
  go_enter Try.func25, Try.ntmps25
  go_wp2_with fail
  refine wp_region_wd S (by kernel_rfl) (by kernel_rfl) hS0 ?_
  repeat (go_big_quiet_step (first
    | (go_at_call 16; with_reducible exact Calls.wd (HST.out _) (HC.out _))
    | (go_at_call 27; with_reducible exact Calls.wd (HST.out _) (HV.out _))
    | (go_at_call 30; with_reducible exact Calls.wd (HST.out _) (HP.out _))))
  refine wpQuiet_nil ?_
  intro w1 hw'
  replace hw' := wd_ok hw'
  have hok := Lib.hid (HS.out.1 _ hw')
  clear hw'
  have hS1 : S w1.drew := HS.out.2 _ (hok.out.step ((Below.refl _ _).drew))
  have t1 := HF.out.t1
  have t2 := HF.out.t2
  have v1 := HF.out.w1
  have v2 := HF.out.w2
  go_wp2_with fail
  refine wp_region_wd S (by kernel_rfl) (by kernel_rfl) hS1 ?_
  repeat (go_big_quiet_step (first
    | (go_at_call 21; with_reducible exact Calls.wd (HST.out _) (HW.out _))))
  refine wpQuiet_nil ?_
  intro w2 hw'
  replace hw' := wd_ok hw'
  have hok := Lib.hid (HS.out.1 _ hw')
  clear hw'
  clear t1 t2 v1 v2 f0 f1 f2 f3 hS0 hS1
  have t3 := HF.out.t3
  have t4 := HF.out.t4
  have v3 := HF.out.w3
  have v4 := HF.out.w4
  obtain ⟨g0, g1, g2, g3, hbe⟩ := hok.out.1
  obtain ⟨⟨q0, q1, q2⟩, z0, z1, z2⟩ := three_at hok.out.2
  go_wp2_with fail
  go_region
  go_wp2
  refine bodyPost_ret (v := .tuple #[.agg #[.int .i64 sg, .int .i64 rw', .int .i64 sl], .bool true]) ?_ rfl ⟨rfl, ((hbe.drew.setCell (p := ⟨w.heap.size + 1, 0, none⟩) (by simp) _).setCell (p := ⟨w.heap.size + 1, 1, none⟩) (by simp) _).setCell (p := ⟨w.heap.size + 1, 2, none⟩) (by simp) _⟩
  simp [results, Try.results25, go_sem, q0, q1, q2]

end Go.Proofs.Ytmggjknljbpbgaa
