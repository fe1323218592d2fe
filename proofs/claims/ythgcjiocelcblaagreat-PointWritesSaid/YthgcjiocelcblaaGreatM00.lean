/- stripe.line's gather, where one member is dead. -/
import Derived.Test.YthgcjiocelcblaaGreatK36
namespace Go.Proofs.YthgcjiocelcblaaGreat
open Go.RowKit Go.Deep

def mud (D k : Nat) : Int := if k ≤ D then -1 else (D : Int)
theorem mud_zero (D : Nat) : mud D 0 = -1 := by unfold mud; rw [if_pos (Nat.zero_le _)]
theorem lineI_mark {W : World} {lb ob : Nat} {s : RS} {seg row oc k : Nat} {F : Nat → FD} {x : World} (h : LineI W lb ob s seg row oc (-1) k F x) : LineI W lb ob s seg row oc (k : Int) (k + 1) F (x.setCell ⟨lb, 7, none⟩ (.int .i64 (k : Int))) := by
  have hk : ∀ j, j ≠ lb → (x.setCell ⟨lb, 7, none⟩ (.int .i64 (k : Int))).heap[j]? = x.heap[j]? := fun j hj => heap_setCell_other x ⟨lb, 7, none⟩ j _ hj
  have hlo := h.lo
  refine ⟨?_, h.on.of_block (hk ob (by omega)), fun m hm hne => (h.found m (by omega) (by omega)).at_ fun b hb _ => hk b (by omega), ⟨h.grown.os, h.grown.tape, h.grown.output, by simpa using h.grown.size, fun b hb hn => (hk b (fun e => hn (by rw [e]))).trans (h.grown.block b hb hn)⟩, hlo⟩
  have hbx := h.box
  rw [LineBox] at hbx
  rw [LineBox]
  simpa using heap_setCell_same x lb 7 _ _ (.int .i64 (k : Int)) hbx
section
variable {B : Nat} {s : RS} {w0 : World}
set_option maxRecDepth 100000 in
set_option maxHeartbeats 1000000 in
/-- One member is dead: it is missing. -/
theorem gather_dead (h : Ram B s w0) (hsz : s.sz ≤ 1000) (W : World) (hW : Below w0.heap.size w0 W) (lb seg row : Nat) (hlb : w0.heap.size ≤ lb) (hseg : seg + 5 < s.bl) (hrow : row < s.pg) (D0 : Nat) (on0 : Option Addr) (n0 c0 : Nat)
    (hbox : LineBox lb s seg row (.slice on0 n0 c0) (-1) W) (hlive : ∀ m, m < s.n → m ≠ D0 → s.gone m = 0) (hD0 : D0 < s.n) (hdead : s.gone D0 ≠ 0) :
    Calls Tryz.prog 97 #[.pointer (some ⟨lb, 0, none⟩), .iface 51 (.pointer (some ⟨s.rb, 0, none⟩))] W (GathRet W lb s seg row (D0 : Int)) := by
  have hg := h.geo
  have hn16 : s.n ≤ 16 := by have := hg.2.1; omega
  obtain ⟨ti, hi1, hz1, hs1, hb1⟩ := info_parts info_fd
  have hmk : ∀ w, (Instr.makeSlice 178 (.int .i64 ((s.n : Nat) : Int)) (.int .i64 ((s.n : Nat) : Int))).run Tryz.prog w = _ := fun w => run_make w 178 184 ti _ Tryz.underlying178 hi1 hz1 .i64 .i64 ((s.n : Nat) : Int) ((s.n : Nat) : Int) (by omega) (Int.le_refl _) (by rw [hb1]; omega) (by omega)
  simp only [Int.toNat_natCast, hs1, Value.cells] at hmk
  have HLI := Lib.hid hlive
  have HDD := Lib.hid (And.intro hD0 hdead)
  have hlt := (Array.getElem?_eq_some_iff.1 hbox).1
  obtain ⟨b0, b1, b2, b3, b4, b5, b6, b7⟩ := eightL_at hbox
  have bf := free_at hbox
  clear hg hlive hdead
  go_enter Tryz.func97, Tryz.ntmps97
  go_upto_region 2 with fail
  have HI0 := Lib.hid (lineI_start W lb s seg row _ (-1) hbox)
  obtain ⟨ob, hob⟩ : ∃ x, x = W.heap.size := ⟨_, rfl⟩
  rw [← hob] at HI0 ⊢
  obtain ⟨V, hV⟩ : ∃ x, x = (W.setCell ⟨lb, 6, none⟩ (.slice (some ⟨ob, 0, none⟩) s.n s.n)).alloc (.cells (madeCells #[.slice none 0 0, .slice none 0 0, .int .u8 0, .int .u32 0, .int .u32 0, .int .u16 0, .int .u16 0, .int .u32 0, .int .u32 0, .bool false] (s.n * 10)) 184) := ⟨_, rfl⟩
  rw [← hV] at HI0 ⊢
  have hlt' : lb < V.heap.size := by have := HI0.out.grown.size; omega
  obtain ⟨c0, c1, c2, c3, c4, c5, c6, c7⟩ := eightL_at HI0.out.box
  clear hV hmk b0 b1 b2 b3 b4 b5 b6 b7 bf hob hbox
  go_wp2_with fail
  clear c0 c1 c2 c3 c4 c5 c6 c7
  go_loopw [22] (fun iv wr => ∃ (k : Nat) (F : Nat → FD), k ≤ s.n ∧ iv = .int .i64 (k : Int) ∧ LineI W lb ob s seg row s.n (mud D0 k) k F wr) (fun iv _ => (s.n - intOf iv).toNat)
  case atStart => exact ⟨0, _, Nat.zero_le _, rfl, by rw [mud_zero]; exact HI0.out⟩
  case round =>
    obtain ⟨k, F, hk, rfl, hI⟩ := hrel
    obtain ⟨mi, hmi⟩ : ∃ mi, mi = mud D0 k := ⟨_, rfl⟩
    have hkm : (k : Int) ≠ mi := by rw [hmi]; unfold mud; split <;> omega
    rw [← hmi] at hI
    have HMU := Lib.hid hmi
    clear hmi
    have HI := Lib.hid hI
    have HB := Lib.hid (below_of_grown hW hlb hI.grown)
    have hbx := hI.box
    rw [LineBox] at hbx
    have hlw := (Array.getElem?_eq_some_iff.1 hbx).1
    obtain ⟨c0, c1, c2, c3, c4, c5, c6, c7⟩ := eightL_at hbx
    have cf := free_at hbx
    clear hI
    by_cases hlt2 : k < s.n
    · have q1 : decide (k < s.n) = true := by simpa using hlt2
      have q2 : ((k : Int) == mi) = false := by simpa using hkm
      by_cases hkd : k = D0
      · have hm1 : mi = -1 := by rw [HMU.out, hkd]; unfold mud; rw [if_pos (Nat.le_refl _)]
        subst hm1
        have HMD : Hid (mud D0 (k + 1) = (k : Int)) := Lib.hid (by rw [hkd]; unfold mud; rw [if_neg (by omega)])
        have HLK : Hid (∀ x : World, Below wr.heap.size wr x → Calls Tryz.prog 109 #[.iface 51 (.pointer (some ⟨s.rb, 0, none⟩)), .int .i64 (k : Int), .int .i64 (seg : Int), .int .i64 (row : Int)] x fun e w' => e = .returned (.tuple #[.agg #[.slice none 0 0, .slice none 0 0, .int .u8 0, .int .u32 0, .int .u32 0, .int .u16 0, .int .u16 0, .int .u32 0, .int .u32 0, .bool false], .int .i64 71]) ∧ Below x.heap.size x w') := Lib.hid fun x hx =>
          look_dead (h.step (HB.out.trans (hx.mono HB.out.size))) k seg row hlt2 hseg hrow (by rw [hkd]; exact HDD.out.2)
        have hS0 : wr.drew.cell? ⟨lb, 4, none⟩ = some (.int .i64 (seg : Int)) ∧ wr.drew.cell? ⟨lb, 5, none⟩ = some (.int .i64 (row : Int)) := ⟨c4, c5⟩
        clear hbx c0 c1 c2 c3 c4 c5 hkd hkm
        have HCC : Hid (∀ x : World, Below wr.heap.size wr x → x.cell? ⟨lb, 4, none⟩ = some (.int .i64 (seg : Int)) ∧ x.cell? ⟨lb, 5, none⟩ = some (.int .i64 (row : Int))) := Lib.hid fun x hx => ⟨(hx.cell (p := ⟨lb, 4, none⟩) hlw).trans hS0.1, (hx.cell (p := ⟨lb, 5, none⟩) hlw).trans hS0.2⟩
        have HLW : Hid (lb < wr.heap.size) := Lib.hid hlw
        go_wp2_with fail
        go_region_held3 (fun x => x.cell? ⟨lb, 4, none⟩ = some (.int .i64 (seg : Int)) ∧ x.cell? ⟨lb, 5, none⟩ = some (.int .i64 (row : Int)))
          (first | with_reducible exact hS0 | with_reducible exact hS1 | with_reducible exact HCC.out _ ((bel_alloc (Below.refl _ wr) _).drew) | with_reducible exact HCC.out _ (bel_alloc HBz.out _) | with_reducible exact ten_keep2 hS1 (Nat.ne_of_lt HLW.out) | go_keep)
          (first
            | (go_simp; go_at_call 109; ((with_reducible refine (HLK.out _ ((Below.refl _ wr).drew)).mono ?_)); (rintro e wz ⟨rfl, hbz⟩; have HBz := Lib.hid (Below.trans ((Below.refl wr.heap.size wr).drew) (hbz.mono (by simp))); have hS1 := HCC.out wz HBz.out; clear hbz))
            | (go_simp; go_at_call 109; ((with_reducible refine (HLK.out _ ((bel_alloc (Below.refl _ wr) _).drew)).mono ?_)); (rintro e wz ⟨rfl, hbz⟩; have HBz := Lib.hid (Below.trans ((bel_alloc (Below.refl _ wr) _).drew) (hbz.mono (by simp))); have hS1 := HCC.out wz HBz.out; have HXA := Lib.hid ((hbz.block wr.heap.size (by simp)).trans (heap_alloc_new wr (.cells #[.slice none 0 0, .slice none 0 0, .int .u8 0, .int .u32 0, .int .u32 0, .int .u16 0, .int .u16 0, .int .u32 0, .int .u32 0, .bool false] 184))); obtain ⟨x0, x1, x2, x3, x4, x5, x6, x7, x8, x9⟩ := ten_at HXA.out; have xf := free_at HXA.out; clear hbz)))
        all_goals
          clear hS0 hS1
          first
            | (have HV : Hid (Below wr.heap.size wr ((((((((((wz.setCell ⟨wr.heap.size, 0, none⟩ (.slice none 0 0)).setCell ⟨wr.heap.size, 1, none⟩ (.slice none 0 0)).setCell ⟨wr.heap.size, 2, none⟩ (.int .u8 0)).setCell ⟨wr.heap.size, 3, none⟩ (.int .u32 0)).setCell ⟨wr.heap.size, 4, none⟩ (.int .u32 0)).setCell ⟨wr.heap.size, 5, none⟩ (.int .u16 0)).setCell ⟨wr.heap.size, 6, none⟩ (.int .u16 0)).setCell ⟨wr.heap.size, 7, none⟩ (.int .u32 0)).setCell ⟨wr.heap.size, 8, none⟩ (.int .u32 0)).setCell ⟨wr.heap.size, 9, none⟩ (.bool false))) := Lib.hid (bel_ten HBz.out wr.heap.size (Nat.le_refl _) _ _ _ _ _ _ _ _ _ _)
               clear x0 x1 x2 x3 x4 x5 x6 x7 x8 x9 xf
               obtain ⟨V6, hV6⟩ : ∃ x, x = ((((((((((wz.setCell ⟨wr.heap.size, 0, none⟩ (.slice none 0 0)).setCell ⟨wr.heap.size, 1, none⟩ (.slice none 0 0)).setCell ⟨wr.heap.size, 2, none⟩ (.int .u8 0)).setCell ⟨wr.heap.size, 3, none⟩ (.int .u32 0)).setCell ⟨wr.heap.size, 4, none⟩ (.int .u32 0)).setCell ⟨wr.heap.size, 5, none⟩ (.int .u16 0)).setCell ⟨wr.heap.size, 6, none⟩ (.int .u16 0)).setCell ⟨wr.heap.size, 7, none⟩ (.int .u32 0)).setCell ⟨wr.heap.size, 8, none⟩ (.int .u32 0)).setCell ⟨wr.heap.size, 9, none⟩ (.bool false)) := ⟨_, rfl⟩
               rw [← hV6] at HV ⊢
               clear hV6)
            | (have HV : Hid (Below wr.heap.size wr (wz.alloc (.cells #[.slice none 0 0, .slice none 0 0, .int .u8 0, .int .u32 0, .int .u32 0, .int .u16 0, .int .u16 0, .int .u32 0, .int .u32 0, .bool false] 184))) := Lib.hid (bel_alloc HBz.out _)
               obtain ⟨V6, hV6⟩ : ∃ x, x = wz.alloc (.cells #[.slice none 0 0, .slice none 0 0, .int .u8 0, .int .u32 0, .int .u32 0, .int .u16 0, .int .u16 0, .int .u32 0, .int .u32 0, .bool false] 184) := ⟨_, rfl⟩
               rw [← hV6] at HV ⊢
               clear hV6)
          have HI6 := Lib.hid (HI.out.step HV.out)
          have hbx6 := HI6.out.box
          rw [LineBox] at hbx6
          obtain ⟨c0, c1, c2, c3, c4, c5, c6, c7⟩ := eightL_at hbx6
          have cf := free_at hbx6
          have HR6 := Lib.hid (lineI_mark HI6.out)
          clear hbx6
          go_wp2_with fail
          go_roundw
          case rel => exact ⟨k + 1, F, by omega, by go_num, by rw [HMD.out]; exact HR6.out⟩
          case measure => simp [intOf]; omega
      · have HMI : Hid (mud D0 (k + 1) = mi) := Lib.hid (by rw [HMU.out]; unfold mud; split <;> split <;> omega)
        have HLK : Hid (∀ x : World, Below wr.heap.size wr x → Calls Tryz.prog 109 #[.iface 51 (.pointer (some ⟨s.rb, 0, none⟩)), .int .i64 (k : Int), .int .i64 (seg : Int), .int .i64 (row : Int)] x (LookRet s (k, seg, row) x)) := Lib.hid fun x hx =>
          look_live (h.step (HB.out.trans (hx.mono HB.out.size))) hsz k seg row hlt2 hseg hrow (HLI.out k hlt2 hkd)
        have hS0 : wr.drew.cell? ⟨lb, 4, none⟩ = some (.int .i64 (seg : Int)) ∧ wr.drew.cell? ⟨lb, 5, none⟩ = some (.int .i64 (row : Int)) := ⟨c4, c5⟩
        clear hbx c0 c1 c2 c3 c4 c5
        have HCC : Hid (∀ x : World, Below wr.heap.size wr x → x.cell? ⟨lb, 4, none⟩ = some (.int .i64 (seg : Int)) ∧ x.cell? ⟨lb, 5, none⟩ = some (.int .i64 (row : Int))) := Lib.hid fun x hx => ⟨(hx.cell (p := ⟨lb, 4, none⟩) hlw).trans hS0.1, (hx.cell (p := ⟨lb, 5, none⟩) hlw).trans hS0.2⟩
        have HLW : Hid (lb < wr.heap.size) := Lib.hid hlw
        go_wp2_with fail
        go_region_held3 (fun x => x.cell? ⟨lb, 4, none⟩ = some (.int .i64 (seg : Int)) ∧ x.cell? ⟨lb, 5, none⟩ = some (.int .i64 (row : Int)))
          (first | with_reducible exact hS0 | with_reducible exact hS1 | with_reducible exact HCC.out _ ((bel_alloc (Below.refl _ wr) _).drew) | with_reducible exact HCC.out _ (bel_alloc HBz.out _) | with_reducible exact ten_keep2 hS1 (Nat.ne_of_lt HLW.out) | go_keep)
          (first
            | (go_simp; go_at_call 109; ((with_reducible refine (HLK.out _ ((Below.refl _ wr).drew)).mono ?_)); (intro e wz hr; obtain ⟨D, O, H, bb, rfl, a1, a2, a3, a4, a5, a6, a7, a8, a9, a10, hbz⟩ := hr; have HFO : Hid (FoundOk s (k, seg, row) ⟨D, O, H, bb⟩ wr.heap.size wz) := Lib.hid ⟨a1, a2, a3, a4, a5, a6, a7, a8, (fun x hx => Nat.le_trans (by simp) (a9 x hx)), (fun x hx => Nat.le_trans (by simp) (a10 x hx))⟩; have HBz := Lib.hid (Below.trans ((Below.refl wr.heap.size wr).drew) (hbz.mono (by simp))); have hS1 : wz.cell? ⟨lb, 4, none⟩ = some (.int .i64 (seg : Int)) ∧ wz.cell? ⟨lb, 5, none⟩ = some (.int .i64 (row : Int)) := (HCC.out wz HBz.out); clear a1 a2 a3 a4 a5 a6 a7 a8 a9 a10))
            | (go_simp; go_at_call 109; ((with_reducible refine (HLK.out _ ((bel_alloc (Below.refl _ wr) _).drew)).mono ?_)); (intro e wz hr; obtain ⟨D, O, H, bb, rfl, a1, a2, a3, a4, a5, a6, a7, a8, a9, a10, hbz⟩ := hr; have HFO : Hid (FoundOk s (k, seg, row) ⟨D, O, H, bb⟩ (wr.heap.size + 1) wz) := Lib.hid ⟨a1, a2, a3, a4, a5, a6, a7, a8, (fun x hx => Nat.le_trans (by simp) (a9 x hx)), (fun x hx => Nat.le_trans (by simp) (a10 x hx))⟩; have HBz := Lib.hid (Below.trans ((bel_alloc (Below.refl _ wr) _).drew) (hbz.mono (by simp))); have hS1 : wz.cell? ⟨lb, 4, none⟩ = some (.int .i64 (seg : Int)) ∧ wz.cell? ⟨lb, 5, none⟩ = some (.int .i64 (row : Int)) := (HCC.out wz HBz.out); have HXA := Lib.hid ((hbz.block wr.heap.size (by simp)).trans (heap_alloc_new wr (.cells #[.slice none 0 0, .slice none 0 0, .int .u8 0, .int .u32 0, .int .u32 0, .int .u16 0, .int .u16 0, .int .u32 0, .int .u32 0, .bool false] 184))); obtain ⟨x0, x1, x2, x3, x4, x5, x6, x7, x8, x9⟩ := ten_at HXA.out; have xf := free_at HXA.out; clear a1 a2 a3 a4 a5 a6 a7 a8 a9 a10)))
        all_goals
          clear hS0 hS1
          first
            | (have HLO := Lib.hid ((looked_set HXA.out (Nat.lt_succ_self _) (Nat.le_refl _) HFO.out HBz.out).mono (lo' := ob + 1) (by have := HI.out.on.lt; omega))
               clear x0 x1 x2 x3 x4 x5 x6 x7 x8 x9 xf
               obtain ⟨xb, hxb⟩ : ∃ x, x = wr.heap.size := ⟨_, rfl⟩
               rw [← hxb] at HLO ⊢
               have HXB : Hid (wr.heap.size ≤ xb) := Lib.hid (Nat.le_of_eq hxb.symm)
               clear hxb
               obtain ⟨V6, hV6⟩ : ∃ x, x = ((((((((((wz.setCell ⟨xb, 0, none⟩ (.slice D.a D.n D.c)).setCell ⟨xb, 1, none⟩ (.slice O.a O.n O.c)).setCell ⟨xb, 2, none⟩ (.int .u8 (H.ki : Int))).setCell ⟨xb, 3, none⟩ (.int .u32 (H.ep : Int))).setCell ⟨xb, 4, none⟩ (.int .u32 (H.ba : Int))).setCell ⟨xb, 5, none⟩ (.int .u16 (H.ix : Int))).setCell ⟨xb, 6, none⟩ (.int .u16 (H.ct : Int))).setCell ⟨xb, 7, none⟩ (.int .u32 (H.bl : Int))).setCell ⟨xb, 8, none⟩ (.int .u32 (H.mo : Int))).setCell ⟨xb, 9, none⟩ (.bool bb)) := ⟨_, rfl⟩
               rw [← hV6] at HLO ⊢
               clear hV6)
            | (have HLO := Lib.hid ((looked_new HFO.out HBz.out).mono (lo' := ob + 1) (by have := HI.out.on.lt; omega))
               obtain ⟨xb, hxb⟩ : ∃ x, x = wz.heap.size := ⟨_, rfl⟩
               rw [← hxb] at HLO ⊢
               have HXB : Hid (wr.heap.size ≤ xb) := Lib.hid HLO.out.2.2.2
               clear hxb
               obtain ⟨V6, hV6⟩ : ∃ x, x = wz.alloc (.cells #[.slice D.a D.n D.c, .slice O.a O.n O.c, .int .u8 (H.ki : Int), .int .u32 (H.ep : Int), .int .u32 (H.ba : Int), .int .u16 (H.ix : Int), .int .u16 (H.ct : Int), .int .u32 (H.bl : Int), .int .u32 (H.mo : Int), .bool bb] 184) := ⟨_, rfl⟩
               rw [← hV6] at HLO ⊢
               clear hV6)
          have HI6 := Lib.hid (HI.out.step HLO.out.2.2.1)
          have hS6 : V6.drew.cell? ⟨lb, 6, none⟩ = some (.slice (some ⟨ob, 0, none⟩) s.n s.n) ∧ V6.drew.cell? ⟨xb, 0, none⟩ = some (.slice D.a D.n D.c) ∧ V6.drew.cell? ⟨xb, 1, none⟩ = some (.slice O.a O.n O.c) ∧ V6.drew.cell? ⟨xb, 2, none⟩ = some (.int .u8 (H.ki : Int)) ∧ V6.drew.cell? ⟨xb, 3, none⟩ = some (.int .u32 (H.ep : Int)) ∧ V6.drew.cell? ⟨xb, 4, none⟩ = some (.int .u32 (H.ba : Int)) ∧ V6.drew.cell? ⟨xb, 5, none⟩ = some (.int .u16 (H.ix : Int)) ∧ V6.drew.cell? ⟨xb, 6, none⟩ = some (.int .u16 (H.ct : Int)) ∧ V6.drew.cell? ⟨xb, 7, none⟩ = some (.int .u32 (H.bl : Int)) ∧ V6.drew.cell? ⟨xb, 8, none⟩ = some (.int .u32 (H.mo : Int)) ∧ V6.drew.cell? ⟨xb, 9, none⟩ = some (.bool bb) := by
            obtain ⟨z0, z1, z2, z3, z4, z5, z6, z7, z8, z9⟩ := ten_at HLO.out.1
            obtain ⟨_, _, _, _, _, _, c6, _⟩ := eightL_at HI6.out.box
            exact ⟨c6, z0, z1, z2, z3, z4, z5, z6, z7, z8, z9⟩
          have HNE : Hid (lb ≠ ob ∧ xb ≠ ob) := Lib.hid ⟨by have := HI.out.lo; omega, by have := HXB.out; have := HI.out.on.lt; omega⟩
          have i0 : (0 : Int) ≤ (k : Int) := by omega
          have i1 : (k : Int) < (s.n : Int) := by omega
          have r0 := HI6.out.on.cell (show k * 10 + 0 < s.n * 10 by omega)
          rw [fdC_at _ _ _ (by omega)] at r0
          have r1 := HI6.out.on.cell (show k * 10 + 1 < s.n * 10 by omega)
          rw [fdC_at _ _ _ (by omega)] at r1
          have r2 := HI6.out.on.cell (show k * 10 + 2 < s.n * 10 by omega)
          rw [fdC_at _ _ _ (by omega)] at r2
          have r3 := HI6.out.on.cell (show k * 10 + 3 < s.n * 10 by omega)
          rw [fdC_at _ _ _ (by omega)] at r3
          have r4 := HI6.out.on.cell (show k * 10 + 4 < s.n * 10 by omega)
          rw [fdC_at _ _ _ (by omega)] at r4
          have r5 := HI6.out.on.cell (show k * 10 + 5 < s.n * 10 by omega)
          rw [fdC_at _ _ _ (by omega)] at r5
          have r6 := HI6.out.on.cell (show k * 10 + 6 < s.n * 10 by omega)
          rw [fdC_at _ _ _ (by omega)] at r6
          have r7 := HI6.out.on.cell (show k * 10 + 7 < s.n * 10 by omega)
          rw [fdC_at _ _ _ (by omega)] at r7
          have r8 := HI6.out.on.cell (show k * 10 + 8 < s.n * 10 by omega)
          rw [fdC_at _ _ _ (by omega)] at r8
          have r9 := HI6.out.on.cell (show k * 10 + 9 < s.n * 10 by omega)
          rw [fdC_at _ _ _ (by omega)] at r9
          rw [Nat.add_zero] at r0
          have rf := fun o => HI6.out.on.frozen o
          go_wp2_with fail
          go_region_held3 (fun x => x.cell? ⟨lb, 6, none⟩ = some (.slice (some ⟨ob, 0, none⟩) s.n s.n) ∧ x.cell? ⟨xb, 0, none⟩ = some (.slice D.a D.n D.c) ∧ x.cell? ⟨xb, 1, none⟩ = some (.slice O.a O.n O.c) ∧ x.cell? ⟨xb, 2, none⟩ = some (.int .u8 (H.ki : Int)) ∧ x.cell? ⟨xb, 3, none⟩ = some (.int .u32 (H.ep : Int)) ∧ x.cell? ⟨xb, 4, none⟩ = some (.int .u32 (H.ba : Int)) ∧ x.cell? ⟨xb, 5, none⟩ = some (.int .u16 (H.ix : Int)) ∧ x.cell? ⟨xb, 6, none⟩ = some (.int .u16 (H.ct : Int)) ∧ x.cell? ⟨xb, 7, none⟩ = some (.int .u32 (H.bl : Int)) ∧ x.cell? ⟨xb, 8, none⟩ = some (.int .u32 (H.mo : Int)) ∧ x.cell? ⟨xb, 9, none⟩ = some (.bool bb))
            (first | with_reducible exact hS6 | ((with_reducible refine keep11 (b := ob) ?_ hS6 HNE.out.1 HNE.out.2); intro y hy; simp only [heap_drew]; with_reducible exact ten_far V6 ob y hy _ _ _ _ _ _ _ _ _ _ _ _ _ _ _ _ _ _ _ _) | go_keep) (fail)
          all_goals
            clear r0 r1 r2 r3 r4 r5 r6 r7 r8 r9 rf hS6
            have hRR : LineI W lb ob s seg row s.n mi (k + 1) (fdSet F k ⟨D, O, H, bb⟩) (((((((((((V6.setCell ⟨ob, k * 10, none⟩ (.slice D.a D.n D.c)).setCell ⟨ob, k * 10 + 1, none⟩ (.slice O.a O.n O.c)).setCell ⟨ob, k * 10 + 2, none⟩ (.int .u8 (H.ki : Int))).setCell ⟨ob, k * 10 + 3, none⟩ (.int .u32 (H.ep : Int))).setCell ⟨ob, k * 10 + 4, none⟩ (.int .u32 (H.ba : Int))).setCell ⟨ob, k * 10 + 5, none⟩ (.int .u16 (H.ix : Int))).setCell ⟨ob, k * 10 + 6, none⟩ (.int .u16 (H.ct : Int))).setCell ⟨ob, k * 10 + 7, none⟩ (.int .u32 (H.bl : Int))).setCell ⟨ob, k * 10 + 8, none⟩ (.int .u32 (H.mo : Int))).setCell ⟨ob, k * 10 + 9, none⟩ (.bool bb)).drew) := lineI_put HI6.out ⟨D, O, H, bb⟩ HLO.out.2.1
            have HRR := Lib.hid hRR
            clear hRR
            go_wp2
            go_roundw
            case rel => exact ⟨k + 1, _, by omega, by go_num, by rw [HMI.out]; exact HRR.out⟩
            case measure => simp [intOf]; omega
    · have hkn : k = s.n := by omega
      have q1 : decide (k < s.n) = false := by simpa using hlt2
      have hmD : mi = (D0 : Int) := by rw [HMU.out, hkn]; unfold mud; rw [if_neg (by have := HDD.out.1; omega)]
      rw [hkn, hmD] at HI
      clear hbx c0 c1 c2 c3 c4 c5 c6 c7
      go_wp2
      go_ret
      exact ⟨ob, s.n, F, rfl, HI.out⟩
end
end Go.Proofs.YthgcjiocelcblaaGreat
