/- nand: Kill, begin. -/
import Derived.Test.YtbfmpcomjmcfjaaNSet
import Derived.Deep.RegionHeld3
import Derived.Lib.Hide
import Derived.Deep.DeepCutAuto
import Derived.Deep.CutBlock
import Derived.Deep.DeepCutAuto
namespace Go.Proofs.Ytbfmpcomjmcfjaa
open Go.RowKit

section
variable {B : Nat} {tag : Nat → Option Tag} {L : NL} {S : NS} {w : World}
set_option maxHeartbeats 400000 in
theorem kill_in (h : NA B tag L S w) (c : Nat) (hc : c ≤ S.g0) :
    Calls Try.prog 35 #[.pointer (some ⟨L.pa, 0, none⟩), .int .i64 (c : Int)] w fun e w' => e = .returned (.tuple #[]) ∧ NA B tag L (S.kill c) w' ∧ Kept (ownT tag) w w' := by
  have c4 := h.c .chips
  have cd := h.c (.dead c hc)
  have fd := h.f (.dead c hc)
  have h1 : c < S.g0 + 1 := by omega
  have H := has_in h c hc
  have HK := Lib.hid (h.kill c hc)
  have HT := Lib.hid (kept_set h.tcb (.bool true) : Kept (ownT tag) w (w.setCell ⟨L.cb, c * 2, none⟩ (.bool true)))
  clear h hc
  go_enter Try.func35, Try.ntmps35
  go_wp2_with (go_at_call 80; refine H.mono ?_; rintro e w' ⟨rfl, rfl⟩)
  go_end0
  exact ⟨rfl, HK.out, HT.out⟩
set_option maxHeartbeats 400000 in
theorem kill_out (h : NA B tag L S w) (c : Int) (hc : c < 0 ∨ (S.g0 : Int) < c) :
    Calls Try.prog 35 #[.pointer (some ⟨L.pa, 0, none⟩), .int .i64 c] w fun e w' => e = .returned (.tuple #[]) ∧ w' = w := by
  have H : Calls Try.prog 80 #[.pointer (some ⟨L.pa, 0, none⟩), .int .i64 c] w fun e w' => e = .returned (.bool false) ∧ w' = w := hc.elim (has_neg L.pa w c) (has_far h c)
  clear h hc
  go_enter Try.func35, Try.ntmps35
  go_wp2_with (go_at_call 80; refine H.mono ?_; rintro e w' ⟨rfl, rfl⟩)
  go_end0
  exact ⟨rfl, rfl⟩
theorem four_cells {W : World} {b : Nat} {v0 v1 v2 v3 : Value} {t : TypeId} (h : W.heap[b]? = some (.cells #[v0, v1, v2, v3] t (0, 0))) :
    W.cell? ⟨b, 0, none⟩ = some v0 ∧ W.cell? ⟨b, 1, none⟩ = some v1 ∧ W.cell? ⟨b, 2, none⟩ = some v2 ∧ W.cell? ⟨b, 3, none⟩ = some v3 := by
  simp [World.cell?, h]
theorem four_free {W : World} {b : Nat} {cs : Array Value} {t : TypeId} (h : W.heap[b]? = some (.cells cs t (0, 0))) (k : Nat) : W.frozen? ⟨b, k, none⟩ = false := by
  simp [World.frozen?, h]
/-- What begin ends with. -/
def BRet (B : Nat) (tag : Nat → Option Tag) (L : NL) (S : NS) (w : World) (p v : Value) (n : Int) (e : Ending) (w' : World) : Prop :=
  e = .returned (.tuple #[p, v, .int .i64 n]) ∧ NA B tag L S w' ∧ Kept (ownT tag) w w'
/-- What comes does to chips. -/
def NS.met (S : NS) (x : NE) : NS := if x.ki = 3 then (if 0 ≤ x.ch ∧ x.ch ≤ S.g0 then S.kill x.ch.toNat else S) else if x.ki = 2 then S.setOff true else S
theorem met_g0 (S : NS) (x : NE) (n : Nat) : ((S.setOps n).met x).g0 = S.g0 := by
  unfold NS.met
  split
  · split <;> rfl
  · split <;> rfl
def NS.tick (S : NS) : NS := (S.setOps (S.ops + 1)).met (S.ev (S.ops + 1))
def evZero : Value := .agg #[.int .i64 0, .int .i64 0, .int .i64 0, .slice none 0 0]
theorem own_tag {b : Nat} {t : Tag} (h : tag b = some t) : ownT tag b := by unfold ownT; rw [h]; simp
/-- The end of begin: is the chip dead? -/
def BEnd (B : Nat) (tag : Nat → Option Tag) (L : NL) (S : NS) (w : World) (p v : Value) (i : Nat) (e : Ending) (w' : World) : Prop :=
  (S.dead i = false → BRet B tag L S w p v 0 e w') ∧ (S.dead i = true → S.off = true → BRet B tag L S w (.pointer none) evZero 72 e w') ∧ (S.dead i = true → S.off = false → BRet B tag L S w (.pointer none) evZero 71 e w')

theorem bend_a {p v : Value} {i : Nat} {e : Ending} {w' : World} (hd : S.dead i = false) (h : BRet B tag L S w p v 0 e w') : BEnd B tag L S w p v i e w' :=
  ⟨fun _ => h, (fun k => by rw [hd] at k; cases k), (fun k => by rw [hd] at k; cases k)⟩
theorem bend_b {p v : Value} {i : Nat} {e : Ending} {w' : World} (hd : S.dead i = true) (ho : S.off = true) (h : BRet B tag L S w (.pointer none) evZero 72 e w') : BEnd B tag L S w p v i e w' :=
  ⟨(fun k => by rw [hd] at k; cases k), (fun _ _ => h), (fun _ k => by rw [ho] at k; cases k)⟩
theorem bend_c {p v : Value} {i : Nat} {e : Ending} {w' : World} (hd : S.dead i = true) (ho : S.off = false) (h : BRet B tag L S w (.pointer none) evZero 71 e w') : BEnd B tag L S w p v i e w' :=
  ⟨(fun k => by rw [hd] at k; cases k), (fun _ k => by rw [ho] at k; cases k), (fun _ _ => h)⟩

set_option maxRecDepth 100000 in
set_option maxHeartbeats 4000000 in
theorem begin_any (h : NA B tag L S w) (i j : Nat) (hi : i ≤ S.g0) (hj : j < S.g1) (hoff : S.off = false) (hops : S.ops < 1000000000000) :
    Calls Try.prog 97 #[.pointer (some ⟨L.pa, 0, none⟩), .int .i64 (i : Int), .int .i64 (j : Int)] w
      (BEnd B tag L S.tick w (.pointer (some ⟨L.bb i, j * 4, none⟩)) ((S.ev (S.ops + 1)).val (L.lv (S.ops + 1))) i) := by
  have h1 := h.below (bel_alloc (Below.refl _ w) (.cells #[.int .i64 0, .int .i64 0, .int .i64 0, .slice none 0 0] 147))
  have k1 : Kept (ownT tag) w _ := Kept.of_below (bel_alloc (Below.refl _ w) (.cells #[.int .i64 0, .int .i64 0, .int .i64 0, .slice none 0 0] 147))
  obtain ⟨W1, hW1⟩ : ∃ W1, W1 = w.alloc (.cells #[.int .i64 0, .int .i64 0, .int .i64 0, .slice none 0 0] 147) := ⟨_, rfl⟩
  have e1 : W1.heap[w.heap.size]? = some (.cells #[.int .i64 0, .int .i64 0, .int .i64 0, .slice none 0 0] 147 (0, 0)) := by rw [hW1]; exact heap_alloc_new w _
  have z1 : W1.heap.size = w.heap.size + 1 := by rw [hW1]; simp
  rw [← hW1] at h1 k1
  have c7 := h.c .off
  rw [hoff] at c7
  have hpa := (h.range _ _ h.tpa).2
  have H := at_in h1 i j hi hj
  have Z1 := Lib.hid z1
  have E1 := Lib.hid e1
  clear z1 e1
  go_enter Try.func97, Try.ntmps97
  go_wp2_with fail
  rw [← hW1]
  refine H.mono ?_
  rintro e w' ⟨rfl, rfl⟩
  clear hW1 c7 hpa H
  have c6 := h1.c .ops
  have f6 := h1.f .ops
  have H2 := h1.setOps (S.ops + 1)
  have K2 := k1.set ⟨L.pa, 6, none⟩ (.int .i64 ((S.ops + 1 : Nat) : Int)) (.inl (own_tag h.tpa))
  go_upto_region 9 with fail
  have hcast : ((S.ops + 1 : Nat) : Int) = (S.ops : Int) + 1 := by omega
  rw [hcast] at H2 K2
  obtain ⟨W2, hW2⟩ : ∃ W2, W2 = w'.setCell ⟨L.pa, 6, none⟩ (.int .i64 ((S.ops : Int) + 1)) := ⟨_, rfl⟩
  rw [← hW2] at H2 K2 ⊢
  have E2 : W2.heap[w.heap.size]? = some (.cells #[.int .i64 0, .int .i64 0, .int .i64 0, .slice none 0 0] 147 (0, 0)) := by
    rw [hW2, heap_setCell_other w' _ _ _ (show w.heap.size ≠ L.pa by have := (h.range _ _ h.tpa).2; omega)]; exact E1.out
  have z2 : W2.heap.size = w.heap.size + 1 := by rw [hW2, ← Z1.out]; simp
  clear hW2 c6 f6 h1 k1 Z1 E1
  have c5 := H2.c .comes
  have c6 := H2.c .ops
  rw [show ((S.setOps (S.ops + 1)).ops : Int) = (S.ops : Int) + 1 from hcast] at c6
  have hev := H2.evs (S.ops + 1) (by omega)
  rw [hcast] at hev
  obtain ⟨mb, hmb⟩ : ∃ X, W2.heap[L.mb]? = X := ⟨_, rfl⟩
  rw [hmb] at hev
  obtain ⟨la, ll, lc, hlv, _⟩ := H2.left (S.ops + 1)
  rw [hlv] at hev
  have HLV := Lib.hid hlv
  clear hlv
  have hml : L.mb < W2.heap.size := (H2.range _ _ H2.tmb).2
  have hpl : L.pa < W2.heap.size := (H2.range _ _ H2.tpa).2
  obtain ⟨x, hx⟩ : ∃ x, S.ev (S.ops + 1) = x := ⟨_, rfl⟩
  have htick : S.tick = (S.setOps (S.ops + 1)).met x := by rw [← hx]; rfl
  have HT := Lib.hid htick
  have HX := Lib.hid hx
  change ∀ w' : World, _ → _ = Result.ok ((S.ev (S.ops + 1)).val _) w' at hev
  rw [hx] at hev
  unfold NE.val at hev
  clear hx htick hcast
  have h3 : NA B tag L (S.setOps (S.ops + 1)) (W2.alloc (.cells #[.int .i64 x.op, .int .i64 x.ki, .int .i64 x.ch, .slice la ll lc] 147)).drew := H2.below (bel_alloc (Below.refl _ W2) _).drew
  have k3 : Kept (ownT tag) w (W2.alloc (.cells #[.int .i64 x.op, .int .i64 x.ki, .int .i64 x.ch, .slice la ll lc] 147)).drew := K2.trans (Kept.of_below (F := ownT tag) (bel_alloc (Below.refl _ W2) _).drew) (fun _ _ h => h)
  have e3 : (W2.alloc (.cells #[.int .i64 x.op, .int .i64 x.ki, .int .i64 x.ch, .slice la ll lc] 147)).drew.heap[w.heap.size + 1]? = some (.cells #[.int .i64 x.op, .int .i64 x.ki, .int .i64 x.ch, .slice la ll lc] 147 (0, 0)) := by rw [← z2]; exact heap_alloc_new W2 _
  have r3 : (W2.alloc (.cells #[.int .i64 x.op, .int .i64 x.ki, .int .i64 x.ch, .slice la ll lc] 147)).drew.heap[w.heap.size]? = _ := (heap_alloc_old (w := W2) (by omega) _).trans E2
  have z3 : (W2.alloc (.cells #[.int .i64 x.op, .int .i64 x.ki, .int .i64 x.ch, .slice la ll lc] 147)).drew.heap.size = w.heap.size + 2 := by show (W2.alloc _).heap.size = _; simp [z2]
  obtain ⟨W3, hW3⟩ : ∃ W3, W3 = (W2.alloc (.cells #[.int .i64 x.op, .int .i64 x.ki, .int .i64 x.ch, .slice la ll lc] 147)).drew := ⟨_, rfl⟩
  rw [← hW3] at h3 k3 e3 r3 z3
  have HW3 := Lib.hid hW3
  have Z2 := Lib.hid z2
  have HI : Hid (i ≤ ((S.setOps (S.ops + 1)).met x).g0) := Lib.hid (by rw [met_g0]; exact hi)
  have TAGN : Hid (∀ k, w.heap.size ≤ k → ¬ ownT tag k) := Lib.hid fun k hk o => by
    unfold ownT at o
    cases ht : tag k with
    | none => exact o ht
    | some t => have := (h.range k t ht).2; omega
  clear hW3 E2 K2 hoff hops H2 z2 h hj
  have H3 := Lib.hid h3
  have K3 := Lib.hid k3
  have E3 := Lib.hid e3
  have R3 := Lib.hid r3
  have Z3 := Lib.hid z3
  clear h3 k3 e3 r3 z3 hi
  go_cut [10] (fun s10 wx => s10 = .pointer (some ⟨w.heap.size + 1, 0, none⟩) ∧ wx = W3)
  case first =>
    have z2 := Z2.out
    clear H3 K3 E3 R3 Z3
    go_region_held3 (fun w' => (Instr.lookup 155 (.map (some L.mb)) (.int .i64 ((S.ops : Int) + 1)) false).run Try.prog w' = .ok (.agg #[.int .i64 x.op, .int .i64 x.ki, .int .i64 x.ch, .slice la ll lc]) w' ∧ w'.cell? ⟨L.pa, 5, none⟩ = some (.map (some L.mb)) ∧ w'.cell? ⟨L.pa, 6, none⟩ = some (.int .i64 ((S.ops : Int) + 1)))
      (refine ⟨hev _ ?_, ?_, ?_⟩ <;> first | exact hmb | exact (heap_alloc_old hml _).trans hmb | go_keep) (fail)
    all_goals (go_wp2_with fail; go_meet; exact ⟨rfl, HW3.out.symm⟩)
  case rest =>
  obtain ⟨rfl, hw3⟩ := hcut
  rw [hw3]
  clear hw3
  clear hev hmb c5 c6 hml hpl Z2 HW3
  obtain ⟨x0, x1, x2, x3⟩ := four_cells E3.out
  go_upto_block 0 with fail
  have HKEEP : Hid (∀ w4, Kept (ownT tag) W3 w4 → W3.heap.size ≤ w4.heap.size ∧ w4.heap[w.heap.size + 1]? = W3.heap[w.heap.size + 1]? ∧ w4.heap[w.heap.size]? = W3.heap[w.heap.size]?) := Lib.hid fun w4 k => ⟨k.size, k.block _ (by rw [Z3.out]; omega) (TAGN.out _ (by omega)), k.block _ (by rw [Z3.out]; omega) (TAGN.out _ (by omega))⟩
  have HSET : Hid (NA B tag L ((S.setOps (S.ops + 1)).setOff true) (W3.setCell ⟨L.pa, 7, none⟩ (.bool true)) ∧ Kept (ownT tag) W3 (W3.setCell ⟨L.pa, 7, none⟩ (.bool true))) := Lib.hid ⟨H3.out.setOff true, kept_set H3.out.tpa _⟩
  have c7 := H3.out.c .off
  have f7 := H3.out.f .off
  go_cut [] (fun wx => NA B tag L ((S.setOps (S.ops + 1)).met x) wx ∧ Kept (ownT tag) W3 wx)
  case first =>
    by_cases hk3 : x.ki = 3
    · have q3 : (x.ki == 3) = true := by simpa using hk3
      have hm : (S.setOps (S.ops + 1)).met x = if 0 ≤ x.ch ∧ x.ch ≤ ((S.setOps (S.ops + 1)).g0 : Int) then (S.setOps (S.ops + 1)).kill x.ch.toNat else S.setOps (S.ops + 1) := by unfold NS.met; rw [if_pos hk3]
      clear hk3
      by_cases hc : 0 ≤ x.ch ∧ x.ch ≤ ((S.setOps (S.ops + 1)).g0 : Int)
      · have HM := Lib.hid (hm.trans (if_pos hc))
        clear hm
        have HK := Lib.hid (kill_in H3.out x.ch.toNat (by omega))
        have hcn : ((x.ch.toNat : Nat) : Int) = x.ch := by omega
        rw [hcn] at HK
        clear hc hcn c7 f7
        go_wp2_with fail
        refine HK.out.mono ?_
        rintro e w4 ⟨rfl, h4, k4⟩
        go_wp2
        go_meet
        rw [HM.out]
        exact ⟨h4, k4⟩
      · have HM := Lib.hid (hm.trans (if_neg hc))
        clear hm
        have HK := Lib.hid (kill_out H3.out x.ch (by omega))
        clear hc c7 f7
        go_wp2_with fail
        refine HK.out.mono ?_
        rintro e w4 ⟨rfl, rfl⟩
        go_wp2
        go_meet
        rw [HM.out]
        exact ⟨H3.out, Kept.refl _ _⟩
    · have q3 : (x.ki == 3) = false := by simpa using hk3
      by_cases hk2 : x.ki = 2
      · have q2 : (x.ki == 2) = true := by simpa using hk2
        have hm : (S.setOps (S.ops + 1)).met x = (S.setOps (S.ops + 1)).setOff true := by unfold NS.met; rw [if_neg hk3, if_pos hk2]
        have HM := Lib.hid hm
        clear hm hk2 hk3
        go_wp2
        go_meet
        rw [HM.out]
        exact HSET.out
      · have q2 : (x.ki == 2) = false := by simpa using hk2
        have hm : (S.setOps (S.ops + 1)).met x = S.setOps (S.ops + 1) := by unfold NS.met; rw [if_neg hk3, if_neg hk2]
        have HM := Lib.hid hm
        clear hm hk2 hk3
        go_wp2
        go_meet
        rw [HM.out]
        exact ⟨H3.out, Kept.refl _ _⟩
  case rest =>
  obtain ⟨h4, k4⟩ := hcut
  obtain ⟨kz, ke, kr⟩ := HKEEP.out wc k4
  have e4 := ke.trans E3.out
  have r4 := kr.trans R3.out
  have K4 := Lib.hid (K3.out.trans k4 (fun _ _ h => h))
  clear kz ke kr k4 HKEEP HSET E3 R3 c7 f7 x0 x1 x2 x3
  obtain ⟨x0, x1, x2, x3⟩ := four_cells e4
  obtain ⟨y0, y1, y2, y3⟩ := four_cells r4
  have y4 := four_free r4
  have RES : Hid (∀ (v0 v1 v2 v3 : Value) {T : NS} {W : World}, NA B tag L T W → Kept (ownT tag) w W → NA B tag L T ((((W.setCell ⟨w.heap.size, 0, none⟩ v0).setCell ⟨w.heap.size, 1, none⟩ v1).setCell ⟨w.heap.size, 2, none⟩ v2).setCell ⟨w.heap.size, 3, none⟩ v3) ∧ Kept (ownT tag) w ((((W.setCell ⟨w.heap.size, 0, none⟩ v0).setCell ⟨w.heap.size, 1, none⟩ v1).setCell ⟨w.heap.size, 2, none⟩ v2).setCell ⟨w.heap.size, 3, none⟩ v3)) := Lib.hid fun v0 v1 v2 v3 T W hn hk => by
    have one : ∀ (W : World) (k : Nat) (v : Value), NA B tag L T W → Kept (ownT tag) w W → NA B tag L T (W.setCell ⟨w.heap.size, k, none⟩ v) ∧ Kept (ownT tag) w (W.setCell ⟨w.heap.size, k, none⟩ v) := fun W k v hn hk =>
      ⟨hn.keep (by simp) fun b t ht => heap_setCell_other W _ b v (fun e => by subst e; exact TAGN.out _ (Nat.le_refl _) (own_tag ht)), hk.set _ _ (.inr (Nat.le_refl _))⟩
    have a0 := one W 0 v0 hn hk
    have a1 := one _ 1 v1 a0.1 a0.2
    have a2 := one _ 2 v2 a1.1 a1.2
    exact one _ 3 v3 a2.1 a2.2
  obtain ⟨T, hT⟩ : ∃ T, T = (S.setOps (S.ops + 1)).met x := ⟨_, rfl⟩
  have HTT := Lib.hid (hT.trans HT.out.symm)
  have HI2 : Hid (i ≤ T.g0) := Lib.hid (by rw [hT]; exact HI.out)
  rw [← hT] at h4
  clear hT HT HI
  have hdv := h4.c (.dead i HI2.out)
  have d4 := h4.c .chips
  have d6 : i < T.g0 + 1 := by have := HI2.out; omega
  have c7 := h4.c .off
  have H4 := Lib.hid h4
  clear h4 e4 r4
  cases hde : T.dead i with
  | false =>
    rw [hde] at hdv
    have HD := Lib.hid hde
    clear hde
    go_wp2
    go_region_held3 (fun w' => w'.cell? ⟨w.heap.size + 1, 0, none⟩ = some (.int .i64 x.op) ∧ w'.cell? ⟨w.heap.size + 1, 1, none⟩ = some (.int .i64 x.ki) ∧ w'.cell? ⟨w.heap.size + 1, 2, none⟩ = some (.int .i64 x.ch) ∧ w'.cell? ⟨w.heap.size + 1, 3, none⟩ = some (.slice la ll lc)) (go_keep) (fail)
    go_wp2
    refine bodyPost_ret (v := .tuple #[.pointer (some ⟨L.bb i, j * 4, none⟩), .agg #[.int .i64 x.op, .int .i64 x.ki, .int .i64 x.ch, .slice la ll lc], .int .i64 0]) ?_ rfl ?_
    · simp [results, Try.results97, go_sem, y0, y1, y2, y3]
    · obtain ⟨q1, q2⟩ := RES.out _ _ _ _ H4.out K4.out
      rw [← HTT.out, HLV.out, HX.out]
      exact bend_a HD.out ⟨rfl, q1.below (Below.refl _ _).drew, q2.trans (Kept.of_below (F := ownT tag) (Below.refl _ _).drew) (fun _ _ h => h)⟩
  | true =>
    rw [hde] at hdv
    have HD := Lib.hid hde
    clear hde
    cases hof : T.off with
    | false =>
      rw [hof] at c7
      have HO := Lib.hid hof
      clear hof
      go_wp2
      refine bodyPost_ret (v := .tuple #[.pointer none, evZero, .int .i64 71]) ?_ rfl ?_
      · simp [results, Try.results97, go_sem, y0, y1, y2, y3, evZero]
      · rw [← HTT.out]
        exact bend_c HD.out HO.out ⟨rfl, RES.out _ _ _ _ H4.out K4.out⟩
    | true =>
      rw [hof] at c7
      have HO := Lib.hid hof
      clear hof
      go_wp2
      refine bodyPost_ret (v := .tuple #[.pointer none, evZero, .int .i64 72]) ?_ rfl ?_
      · simp [results, Try.results97, go_sem, y0, y1, y2, y3, evZero]
      · rw [← HTT.out]
        exact bend_b HD.out HO.out ⟨rfl, RES.out _ _ _ _ H4.out K4.out⟩
end

end Go.Proofs.Ytbfmpcomjmcfjaa
