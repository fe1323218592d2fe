/- Parts of the proof: Wd, GeoNum. -/
import Derived.Test.YthgcjiocelcblaaGreatK00
import Derived.Deep.Quiet
import Derived.BigQuiet
import Derived.Test.YthgcjiocelcblaaGreatK12
namespace Go.Proofs.YthgcjiocelcblaaGreat
open Go.RowKit

/-- A world of a class. -/
structure Wd (S : World → Prop) where
  w : World
  ok : S w
theorem wp_region_wd {P : Program} {id : Nat} {Q : Exit → Act → World → Prop} {a : Act} {w : World} {l : List Oper} (S : World → Prop) (hm : P.follows .mixedOrders = true) (hB : Region.lexB .any l.toArray = true) (h0 : S w.drew)
    (h : wpQuiet P l.toArray (fun x => ∃ y : Wd S, x = y.w) (fun a' => ∀ w', (∃ y : Wd S, w' = y.w) → Q .normal a' w') l a) : (Code.region id l.toArray true).wp P Q a w :=
  wp_region_quiet (C := fun x => ∃ y : Wd S, x = y.w) hm hB ⟨⟨_, h0⟩, rfl⟩ (by simpa using h)
theorem wd_ok {S : World → Prop} {x : World} (h : ∃ y : Wd S, x = y.w) : S x := by
  obtain ⟨y, rfl⟩ := h; exact y.ok
/-- A callee whose memory is its own. -/
theorem Calls.wd {P : Program} {S : World → Prop} {f : FuncId} {args : Array Value} {x : World} {v : Value} (hS : ∀ y, Below x.heap.size x y → S y)
    (h : Calls P f args x fun e w' => e = .returned v ∧ Below x.heap.size x w') : Calls P f args x fun e w'' => e = .returned v ∧ ∃ z : Wd S, w'' = z.w :=
  h.mono fun _ _ ⟨he, hb⟩ => ⟨he, ⟨_, hS _ hb⟩, rfl⟩
/-- A callee that leaves all as it was. -/
theorem Calls.wd_same {P : Program} {S : World → Prop} {f : FuncId} {args : Array Value} {x : World} {v : Value} (hS : S x)
    (h : Calls P f args x fun e w' => e = .returned v ∧ w' = x) : Calls P f args x fun e w'' => e = .returned v ∧ ∃ z : Wd S, w'' = z.w :=
  h.mono fun _ _ ⟨he, hw⟩ => ⟨he, ⟨x, hS⟩, hw⟩

end Go.Proofs.YthgcjiocelcblaaGreat

namespace Go.Proofs.YthgcjiocelcblaaGreat
open Go.RowKit

theorem within_yes (i m : Int) (w : World) (h0 : 0 ≤ i) (h1 : i < m) : Calls Tryz.prog 86 #[.int .i64 i, .int .i64 m] w fun e w' => e = .returned (.bool true) ∧ w' = w := by
  have k1 : decide ((0 : Int) ≤ i) = true := by simp; omega
  have k2 : decide (i < m) = true := by simp; omega
  go_enter Tryz.func86, Tryz.ntmps86
  go_wp2
  go_ret
  exact ⟨rfl, rfl⟩
theorem within_no (i m : Int) (w : World) (h : ¬ (0 ≤ i ∧ i < m)) : Calls Tryz.prog 86 #[.int .i64 i, .int .i64 m] w fun e w' => e = .returned (.bool false) ∧ w' = w := by
  by_cases h0 : 0 ≤ i
  · have k1 : decide ((0 : Int) ≤ i) = true := by simp; omega
    have k2 : decide (i < m) = false := by simp; omega
    clear h
    go_enter Tryz.func86, Tryz.ntmps86
    go_wp2
    go_ret
    exact ⟨rfl, rfl⟩
  · have k1 : decide ((0 : Int) ≤ i) = false := by simp; omega
    clear h
    go_enter Tryz.func86, Tryz.ntmps86
    go_wp2
    go_ret
    exact ⟨rfl, rfl⟩

set_option maxRecDepth 100000 in
set_option maxHeartbeats 3200000 in
theorem number_badGeo (a b c d p q r : Int) (w : World) (hg : ¬ GoodG a b c d) :
    Calls Tryz.prog 67 #[.agg #[.int .i64 a, .int .i64 b, .int .i64 c, .int .i64 d], .agg #[.int .i64 p, .int .i64 q, .int .i64 r]] w fun e w' => e = .returned (.int .u32 0) ∧ Below w.heap.size w w' := by
  have HC := Lib.hid fun x : World => check_bad a b c d x hg
  clear hg
  have hS0 := (gp_new w a b c d p q r).drew
  obtain ⟨S, hSd⟩ : ∃ S : World → Prop, (∀ x, S x → GP w w.heap.size a b c d (w.heap.size + 1) p q r x) ∧ (∀ x, GP w w.heap.size a b c d (w.heap.size + 1) p q r x → S x) := ⟨_, fun _ h => h, fun _ h => h⟩
  replace hS0 := hSd.2 _ hS0
  haveI hne : Nonempty (Wd S) := ⟨⟨_, hS0⟩⟩
  have HS := Lib.hid hSd
  clear hSd
  have f0 : ∀ y : Wd S, y.w.cell? ⟨w.heap.size, 0, none⟩ = some (.int .i64 a) := fun y => (HS.out.1 _ y.ok).1.1
  have f1 : ∀ y : Wd S, y.w.cell? ⟨w.heap.size, 1, none⟩ = some (.int .i64 b) := fun y => (HS.out.1 _ y.ok).1.2.1
  have f2 : ∀ y : Wd S, y.w.cell? ⟨w.heap.size, 2, none⟩ = some (.int .i64 c) := fun y => (HS.out.1 _ y.ok).1.2.2.1
  have f3 : ∀ y : Wd S, y.w.cell? ⟨w.heap.size, 3, none⟩ = some (.int .i64 d) := fun y => (HS.out.1 _ y.ok).1.2.2.2.1
  have f4 : ∀ y : Wd S, y.w.cell? ⟨w.heap.size + 1, 0, none⟩ = some (.int .i64 p) := fun y => (HS.out.1 _ y.ok).2.1
  have f5 : ∀ y : Wd S, y.w.cell? ⟨w.heap.size + 1, 1, none⟩ = some (.int .i64 q) := fun y => (HS.out.1 _ y.ok).2.2.1
  have f6 : ∀ y : Wd S, y.w.cell? ⟨w.heap.size + 1, 2, none⟩ = some (.int .i64 r) := fun y => (HS.out.1 _ y.ok).2.2.2
  have HST : Hid (∀ (y : Wd S) (z : World), Below y.w.heap.size y.w z → S z) := Lib.hid fun y z hb => HS.out.2 _ ((HS.out.1 _ y.ok).step hb)
  go_enter Tryz.func67, Tryz.ntmps67
  go_wp2_with fail
  refine wp_region_wd S (by kernel_rfl) (by kernel_rfl) hS0 ?_
  repeat (go_big_quiet_step (first
    | (go_at_call 35; with_reducible exact Calls.wd (HST.out _) (HC.out _))))
  refine wpQuiet_nil ?_
  intro _ hw'
  obtain ⟨y, rfl⟩ := hw'
  have hbe := (HS.out.1 _ y.ok).1.2.2.2.2
  go_wp2
  go_ret
  exact ⟨rfl, hbe⟩
set_option maxRecDepth 100000 in
set_option maxHeartbeats 3200000 in
theorem number_badSeg (a b c d p q r : Int) (w : World) (hg : GoodG a b c d) (h1 : ¬ (0 ≤ p ∧ p < b - 5)) :
    Calls Tryz.prog 67 #[.agg #[.int .i64 a, .int .i64 b, .int .i64 c, .int .i64 d], .agg #[.int .i64 p, .int .i64 q, .int .i64 r]] w fun e w' => e = .returned (.int .u32 0) ∧ Below w.heap.size w w' := by
  have HC := Lib.hid fun x : World => check_good a b c d x hg
  have HV := Lib.hid fun x : World => virtual_any a b c d x (by have := hg.2.2.1; omega) (by have := hg.2.2.2.1; omega)
  have HWi := Lib.hid fun x : World => width_any a b c d x (by have := hg.1; omega) (by have := hg.2.1; omega)
  have H1 := Lib.hid fun x : World => within_no p (b - 5) x h1
  clear hg h1
  have hS0 := (gp_new w a b c d p q r).drew
  obtain ⟨S, hSd⟩ : ∃ S : World → Prop, (∀ x, S x → GP w w.heap.size a b c d (w.heap.size + 1) p q r x) ∧ (∀ x, GP w w.heap.size a b c d (w.heap.size + 1) p q r x → S x) := ⟨_, fun _ h => h, fun _ h => h⟩
  replace hS0 := hSd.2 _ hS0
  haveI hne : Nonempty (Wd S) := ⟨⟨_, hS0⟩⟩
  have HS := Lib.hid hSd
  clear hSd
  have f0 : ∀ y : Wd S, y.w.cell? ⟨w.heap.size, 0, none⟩ = some (.int .i64 a) := fun y => (HS.out.1 _ y.ok).1.1
  have f1 : ∀ y : Wd S, y.w.cell? ⟨w.heap.size, 1, none⟩ = some (.int .i64 b) := fun y => (HS.out.1 _ y.ok).1.2.1
  have f2 : ∀ y : Wd S, y.w.cell? ⟨w.heap.size, 2, none⟩ = some (.int .i64 c) := fun y => (HS.out.1 _ y.ok).1.2.2.1
  have f3 : ∀ y : Wd S, y.w.cell? ⟨w.heap.size, 3, none⟩ = some (.int .i64 d) := fun y => (HS.out.1 _ y.ok).1.2.2.2.1
  have f4 : ∀ y : Wd S, y.w.cell? ⟨w.heap.size + 1, 0, none⟩ = some (.int .i64 p) := fun y => (HS.out.1 _ y.ok).2.1
  have f5 : ∀ y : Wd S, y.w.cell? ⟨w.heap.size + 1, 1, none⟩ = some (.int .i64 q) := fun y => (HS.out.1 _ y.ok).2.2.1
  have f6 : ∀ y : Wd S, y.w.cell? ⟨w.heap.size + 1, 2, none⟩ = some (.int .i64 r) := fun y => (HS.out.1 _ y.ok).2.2.2
  have HST : Hid (∀ (y : Wd S) (z : World), Below y.w.heap.size y.w z → S z) := Lib.hid fun y z hb => HS.out.2 _ ((HS.out.1 _ y.ok).step hb)
  go_enter Tryz.func67, Tryz.ntmps67
  go_wp2_with fail
  refine wp_region_wd S (by kernel_rfl) (by kernel_rfl) hS0 ?_
  repeat (go_big_quiet_step (first
    | (go_at_call 35; with_reducible exact Calls.wd (HST.out _) (HC.out _))
    | (go_at_call 87; with_reducible exact Calls.wd (HST.out _) (HV.out _))
    | (go_at_call 86; with_reducible exact Calls.wd_same (Wd.ok _) (H1.out _))))
  refine wpQuiet_nil ?_
  intro _ hw'
  obtain ⟨y, rfl⟩ := hw'
  have hbe := (HS.out.1 _ y.ok).1.2.2.2.2
  go_wp2
  go_ret
  exact ⟨rfl, hbe⟩
set_option maxRecDepth 100000 in
set_option maxHeartbeats 3200000 in
theorem number_badRow (a b c d p q r : Int) (w : World) (hg : GoodG a b c d) (h1 : 0 ≤ p ∧ p < b - 5) (h2 : ¬ (0 ≤ q ∧ q < c)) :
    Calls Tryz.prog 67 #[.agg #[.int .i64 a, .int .i64 b, .int .i64 c, .int .i64 d], .agg #[.int .i64 p, .int .i64 q, .int .i64 r]] w fun e w' => e = .returned (.int .u32 0) ∧ Below w.heap.size w w' := by
  have HC := Lib.hid fun x : World => check_good a b c d x hg
  have HV := Lib.hid fun x : World => virtual_any a b c d x (by have := hg.2.2.1; omega) (by have := hg.2.2.2.1; omega)
  have HWi := Lib.hid fun x : World => width_any a b c d x (by have := hg.1; omega) (by have := hg.2.1; omega)
  have H1 := Lib.hid fun x : World => within_yes p (b - 5) x h1.1 h1.2
  have H2 := Lib.hid fun x : World => within_no q c x h2
  clear hg h1 h2
  have hS0 := (gp_new w a b c d p q r).drew
  obtain ⟨S, hSd⟩ : ∃ S : World → Prop, (∀ x, S x → GP w w.heap.size a b c d (w.heap.size + 1) p q r x) ∧ (∀ x, GP w w.heap.size a b c d (w.heap.size + 1) p q r x → S x) := ⟨_, fun _ h => h, fun _ h => h⟩
  replace hS0 := hSd.2 _ hS0
  haveI hne : Nonempty (Wd S) := ⟨⟨_, hS0⟩⟩
  have HS := Lib.hid hSd
  clear hSd
  have f0 : ∀ y : Wd S, y.w.cell? ⟨w.heap.size, 0, none⟩ = some (.int .i64 a) := fun y => (HS.out.1 _ y.ok).1.1
  have f1 : ∀ y : Wd S, y.w.cell? ⟨w.heap.size, 1, none⟩ = some (.int .i64 b) := fun y => (HS.out.1 _ y.ok).1.2.1
  have f2 : ∀ y : Wd S, y.w.cell? ⟨w.heap.size, 2, none⟩ = some (.int .i64 c) := fun y => (HS.out.1 _ y.ok).1.2.2.1
  have f3 : ∀ y : Wd S, y.w.cell? ⟨w.heap.size, 3, none⟩ = some (.int .i64 d) := fun y => (HS.out.1 _ y.ok).1.2.2.2.1
  have f4 : ∀ y : Wd S, y.w.cell? ⟨w.heap.size + 1, 0, none⟩ = some (.int .i64 p) := fun y => (HS.out.1 _ y.ok).2.1
  have f5 : ∀ y : Wd S, y.w.cell? ⟨w.heap.size + 1, 1, none⟩ = some (.int .i64 q) := fun y => (HS.out.1 _ y.ok).2.2.1
  have f6 : ∀ y : Wd S, y.w.cell? ⟨w.heap.size + 1, 2, none⟩ = some (.int .i64 r) := fun y => (HS.out.1 _ y.ok).2.2.2
  have HST : Hid (∀ (y : Wd S) (z : World), Below y.w.heap.size y.w z → S z) := Lib.hid fun y z hb => HS.out.2 _ ((HS.out.1 _ y.ok).step hb)
  go_enter Tryz.func67, Tryz.ntmps67
  go_wp2_with fail
  refine wp_region_wd S (by kernel_rfl) (by kernel_rfl) hS0 ?_
  repeat (go_big_quiet_step (first
    | (go_at_call 35; with_reducible exact Calls.wd (HST.out _) (HC.out _))
    | (go_at_call 87; with_reducible exact Calls.wd (HST.out _) (HV.out _))
    | (go_at_call 86; with_reducible exact Calls.wd_same (Wd.ok _) (H1.out _))
    | (go_at_call 86; with_reducible exact Calls.wd_same (Wd.ok _) (H2.out _))))
  refine wpQuiet_nil ?_
  intro _ hw'
  obtain ⟨y, rfl⟩ := hw'
  have hbe := (HS.out.1 _ y.ok).1.2.2.2.2
  go_wp2
  go_ret
  exact ⟨rfl, hbe⟩
set_option maxRecDepth 100000 in
set_option maxHeartbeats 3200000 in
theorem number_badSlot (a b c d p q r : Int) (w : World) (hg : GoodG a b c d) (h1 : 0 ≤ p ∧ p < b - 5) (h2 : 0 ≤ q ∧ q < c) (h3 : ¬ (0 ≤ r ∧ r < a - 1)) :
    Calls Tryz.prog 67 #[.agg #[.int .i64 a, .int .i64 b, .int .i64 c, .int .i64 d], .agg #[.int .i64 p, .int .i64 q, .int .i64 r]] w fun e w' => e = .returned (.int .u32 0) ∧ Below w.heap.size w w' := by
  have HC := Lib.hid fun x : World => check_good a b c d x hg
  have HV := Lib.hid fun x : World => virtual_any a b c d x (by have := hg.2.2.1; omega) (by have := hg.2.2.2.1; omega)
  have HWi := Lib.hid fun x : World => width_any a b c d x (by have := hg.1; omega) (by have := hg.2.1; omega)
  have H1 := Lib.hid fun x : World => within_yes p (b - 5) x h1.1 h1.2
  have H2 := Lib.hid fun x : World => within_yes q c x h2.1 h2.2
  have H3 := Lib.hid fun x : World => within_no r (a - 1) x h3
  clear hg h1 h2 h3
  have hS0 := (gp_new w a b c d p q r).drew
  obtain ⟨S, hSd⟩ : ∃ S : World → Prop, (∀ x, S x → GP w w.heap.size a b c d (w.heap.size + 1) p q r x) ∧ (∀ x, GP w w.heap.size a b c d (w.heap.size + 1) p q r x → S x) := ⟨_, fun _ h => h, fun _ h => h⟩
  replace hS0 := hSd.2 _ hS0
  haveI hne : Nonempty (Wd S) := ⟨⟨_, hS0⟩⟩
  have HS := Lib.hid hSd
  clear hSd
  have f0 : ∀ y : Wd S, y.w.cell? ⟨w.heap.size, 0, none⟩ = some (.int .i64 a) := fun y => (HS.out.1 _ y.ok).1.1
  have f1 : ∀ y : Wd S, y.w.cell? ⟨w.heap.size, 1, none⟩ = some (.int .i64 b) := fun y => (HS.out.1 _ y.ok).1.2.1
  have f2 : ∀ y : Wd S, y.w.cell? ⟨w.heap.size, 2, none⟩ = some (.int .i64 c) := fun y => (HS.out.1 _ y.ok).1.2.2.1
  have f3 : ∀ y : Wd S, y.w.cell? ⟨w.heap.size, 3, none⟩ = some (.int .i64 d) := fun y => (HS.out.1 _ y.ok).1.2.2.2.1
  have f4 : ∀ y : Wd S, y.w.cell? ⟨w.heap.size + 1, 0, none⟩ = some (.int .i64 p) := fun y => (HS.out.1 _ y.ok).2.1
  have f5 : ∀ y : Wd S, y.w.cell? ⟨w.heap.size + 1, 1, none⟩ = some (.int .i64 q) := fun y => (HS.out.1 _ y.ok).2.2.1
  have f6 : ∀ y : Wd S, y.w.cell? ⟨w.heap.size + 1, 2, none⟩ = some (.int .i64 r) := fun y => (HS.out.1 _ y.ok).2.2.2
  have HST : Hid (∀ (y : Wd S) (z : World), Below y.w.heap.size y.w z → S z) := Lib.hid fun y z hb => HS.out.2 _ ((HS.out.1 _ y.ok).step hb)
  go_enter Tryz.func67, Tryz.ntmps67
  go_wp2_with fail
  refine wp_region_wd S (by kernel_rfl) (by kernel_rfl) hS0 ?_
  repeat (go_big_quiet_step (first
    | (go_at_call 35; with_reducible exact Calls.wd (HST.out _) (HC.out _))
    | (go_at_call 87; with_reducible exact Calls.wd (HST.out _) (HV.out _))
    | (go_at_call 39; with_reducible exact Calls.wd (HST.out _) (HWi.out _))
    | (go_at_call 86; with_reducible exact Calls.wd_same (Wd.ok _) (H1.out _))
    | (go_at_call 86; with_reducible exact Calls.wd_same (Wd.ok _) (H2.out _))
    | (go_at_call 86; with_reducible exact Calls.wd_same (Wd.ok _) (H3.out _))))
  refine wpQuiet_nil ?_
  intro _ hw'
  obtain ⟨y, rfl⟩ := hw'
  have hbe := (HS.out.1 _ y.ok).1.2.2.2.2
  go_wp2
  go_ret
  exact ⟨rfl, hbe⟩
def NumOf (a c p q r : Int) : Int := (p * c + q) * (a - 1) + r + 1
theorem num_bd {a b c d p q : Int} (hg : GoodG a b c d) (h1 : 0 ≤ p ∧ p < b - 5) (h2 : 0 ≤ q ∧ q < c) :
    (0 ≤ p * c ∧ p * c ≤ 2000) ∧ (0 ≤ (p * c + q) * (a - 1) ∧ (p * c + q) * (a - 1) ≤ 40000) := by
  have g1 := hg.1
  have g2 := hg.2.1
  have g4 := hg.2.2.2.1
  have g6 := hg.2.2.2.2.2.1
  have m1 := mul_bd h1.1 (show p ≤ 58 by omega) (show 0 ≤ c by omega) (show c ≤ 32 by omega)
  have m2 := mul_bd (show 0 ≤ p * c + q by omega) (show p * c + q ≤ 1900 by omega) (show 0 ≤ a - 1 by omega) (show a - 1 ≤ 15 by omega)
  exact ⟨⟨m1.1, by omega⟩, m2.1, by omega⟩
theorem wrap32_of {x : Int} (h0 : 0 ≤ x) (h1 : x ≤ 4294967295) : IntKind.u32.wrap x = x := by
  rw [IntKind.wrap_u32]; omega
set_option maxRecDepth 100000 in
set_option maxHeartbeats 3200000 in
theorem geoNum_ok (a b c d p q r : Int) (w : World) (hg : GoodG a b c d) (h1 : 0 ≤ p ∧ p < b - 5) (h2 : 0 ≤ q ∧ q < c) (h3 : 0 ≤ r ∧ r < a - 1) :
    Calls Tryz.prog 67 #[.agg #[.int .i64 a, .int .i64 b, .int .i64 c, .int .i64 d], .agg #[.int .i64 p, .int .i64 q, .int .i64 r]] w fun e w' => e = .returned (.int .u32 (NumOf a c p q r)) ∧ Below w.heap.size w w' := by
  have HC := Lib.hid fun x : World => check_good a b c d x hg
  have HV := Lib.hid fun x : World => virtual_any a b c d x (by have := hg.2.2.1; omega) (by have := hg.2.2.2.1; omega)
  have HWi := Lib.hid fun x : World => width_any a b c d x (by have := hg.1; omega) (by have := hg.2.1; omega)
  have H1 := Lib.hid fun x : World => within_yes p (b - 5) x h1.1 h1.2
  have H2 := Lib.hid fun x : World => within_yes q c x h2.1 h2.2
  have H3 := Lib.hid fun x : World => within_yes r (a - 1) x h3.1 h3.2
  have hm := num_bd hg h1 h2
  have g2 := hg.2.1
  have g6 := hg.2.2.2.2.2.1
  have HU1 := Lib.hid (wrap_of (x := p * c) (by omega) (by omega))
  have HU2 := Lib.hid (wrap_of (x := p * c + q) (by omega) (by omega))
  have HU3 := Lib.hid (wrap_of (x := (p * c + q) * (a - 1)) (by omega) (by omega))
  have HU4 := Lib.hid (wrap_of (x := (p * c + q) * (a - 1) + r) (by omega) (by omega))
  have HU5 := Lib.hid (wrap_of (x := (p * c + q) * (a - 1) + r + 1) (by omega) (by omega))
  have HU6 := Lib.hid (wrap32_of (x := (p * c + q) * (a - 1) + r + 1) (by omega) (by omega))
  clear hg h1 h2 h3 hm g2 g6
  have hS0 := (gp_new w a b c d p q r).drew
  obtain ⟨S, hSd⟩ : ∃ S : World → Prop, (∀ x, S x → GP w w.heap.size a b c d (w.heap.size + 1) p q r x) ∧ (∀ x, GP w w.heap.size a b c d (w.heap.size + 1) p q r x → S x) := ⟨_, fun _ h => h, fun _ h => h⟩
  replace hS0 := hSd.2 _ hS0
  haveI hne : Nonempty (Wd S) := ⟨⟨_, hS0⟩⟩
  have HS := Lib.hid hSd
  clear hSd
  have f0 : ∀ y : Wd S, y.w.cell? ⟨w.heap.size, 0, none⟩ = some (.int .i64 a) := fun y => (HS.out.1 _ y.ok).1.1
  have f1 : ∀ y : Wd S, y.w.cell? ⟨w.heap.size, 1, none⟩ = some (.int .i64 b) := fun y => (HS.out.1 _ y.ok).1.2.1
  have f2 : ∀ y : Wd S, y.w.cell? ⟨w.heap.size, 2, none⟩ = some (.int .i64 c) := fun y => (HS.out.1 _ y.ok).1.2.2.1
  have f3 : ∀ y : Wd S, y.w.cell? ⟨w.heap.size, 3, none⟩ = some (.int .i64 d) := fun y => (HS.out.1 _ y.ok).1.2.2.2.1
  have f4 : ∀ y : Wd S, y.w.cell? ⟨w.heap.size + 1, 0, none⟩ = some (.int .i64 p) := fun y => (HS.out.1 _ y.ok).2.1
  have f5 : ∀ y : Wd S, y.w.cell? ⟨w.heap.size + 1, 1, none⟩ = some (.int .i64 q) := fun y => (HS.out.1 _ y.ok).2.2.1
  have f6 : ∀ y : Wd S, y.w.cell? ⟨w.heap.size + 1, 2, none⟩ = some (.int .i64 r) := fun y => (HS.out.1 _ y.ok).2.2.2
  have HST : Hid (∀ (y : Wd S) (z : World), Below y.w.heap.size y.w z → S z) := Lib.hid fun y z hb => HS.out.2 _ ((HS.out.1 _ y.ok).step hb)
  go_enter Tryz.func67, Tryz.ntmps67
  go_wp2_with fail
  refine wp_region_wd S (by kernel_rfl) (by kernel_rfl) hS0 ?_
  repeat (go_big_quiet_step (first
    | (go_at_call 35; with_reducible exact Calls.wd (HST.out _) (HC.out _))
    | (go_at_call 87; with_reducible exact Calls.wd (HST.out _) (HV.out _))
    | (go_at_call 39; with_reducible exact Calls.wd (HST.out _) (HWi.out _))
    | (go_at_call 86; with_reducible exact Calls.wd_same (Wd.ok _) (H1.out _))
    | (go_at_call 86; with_reducible exact Calls.wd_same (Wd.ok _) (H2.out _))
    | (go_at_call 86; with_reducible exact Calls.wd_same (Wd.ok _) (H3.out _))))
  refine wpQuiet_nil ?_
  intro _ hw'
  obtain ⟨y, rfl⟩ := hw'
  have hS1 : S y.w.drew := HS.out.2 _ (HS.out.1 _ y.ok).drew
  have u1 := HU1.out
  have u2 := HU2.out
  have u3 := HU3.out
  have u4 := HU4.out
  have u5 := HU5.out
  have u6 := HU6.out
  go_wp2_with fail
  refine wp_region_wd S (by kernel_rfl) (by kernel_rfl) hS1 ?_
  repeat (go_big_quiet_step (first
    | (go_at_call 39; with_reducible exact Calls.wd (HST.out _) (HWi.out _))))
  refine wpQuiet_nil ?_
  intro _ hw'
  obtain ⟨z, rfl⟩ := hw'
  have hbe := (HS.out.1 _ z.ok).1.2.2.2.2
  go_wp2
  go_ret
  exact ⟨rfl, hbe⟩

end Go.Proofs.YthgcjiocelcblaaGreat
