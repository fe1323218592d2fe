/- gabionlaw05.of, gabionref05.Seal. -/
import Derived.Test.YtnkkeffjnamcgaaRSealA
import Derived.Test.YtnkkeffjnamcgaaRefSum
import Derived.Test.YtnkkeffjnamcgaaPad
import Derived.Deep.DeepCutAuto
namespace Go.Proofs.Ytnkkeffjnamcgaa
open Go.RowKit

def RH.wide (h : RH) : Array Value := #[.int .i64 (h.ki : Int), .int .i64 (h.ep : Int), .int .i64 (h.ba : Int), .int .i64 (h.ix : Int), .int .i64 (h.ct : Int), .int .i64 (h.bl : Int), .int .i64 (h.mo : Int)]
/-- A header of wide numbers, in memory. -/
def WideAt (h : RH) (B : Nat) (w : World) : Prop := w.cell? ⟨B, 0, none⟩ = some (.int .i64 (h.ki : Int)) ∧ w.cell? ⟨B, 1, none⟩ = some (.int .i64 (h.ep : Int)) ∧ w.cell? ⟨B, 2, none⟩ = some (.int .i64 (h.ba : Int)) ∧ w.cell? ⟨B, 3, none⟩ = some (.int .i64 (h.ix : Int)) ∧ w.cell? ⟨B, 4, none⟩ = some (.int .i64 (h.ct : Int)) ∧ w.cell? ⟨B, 5, none⟩ = some (.int .i64 (h.bl : Int)) ∧ w.cell? ⟨B, 6, none⟩ = some (.int .i64 (h.mo : Int))
theorem WideAt.below {h : RH} {B B' : Nat} {w w' : World} (hh : WideAt h B w) (hb : Below B' w w') (hlt : B < B') : WideAt h B w' := by
  have hc : ∀ k, w'.cell? ⟨B, k, none⟩ = w.cell? ⟨B, k, none⟩ := fun k => hb.cell (p := ⟨B, k, none⟩) hlt
  unfold WideAt
  simp only [hc]
  exact hh
theorem wide_new (h : RH) (w : World) : WideAt h w.heap.size (w.alloc (.cells #[.int .i64 (h.ki : Int), .int .i64 (h.ep : Int), .int .i64 (h.ba : Int), .int .i64 (h.ix : Int), .int .i64 (h.ct : Int), .int .i64 (h.bl : Int), .int .i64 (h.mo : Int)] 72)) := by
  refine ⟨?_, ?_, ?_, ?_, ?_, ?_, ?_⟩
  all_goals (rw [World.cell?_alloc_mark w #[.int .i64 (h.ki : Int), .int .i64 (h.ep : Int), .int .i64 (h.ba : Int), .int .i64 (h.ix : Int), .int .i64 (h.ct : Int), .int .i64 (h.bl : Int), .int .i64 (h.mo : Int)] 72 (0, 0)]; rfl)
/-- The list that gabionref05.Seal lays ahead of the sum. -/
def refHead (h : RH) : List Nat := ((((((([] ++ Crc.les 2 22356) ++ [h.ki, 0]) ++ Crc.les 4 h.ep) ++ Crc.les 4 h.ba) ++ Crc.les 2 h.ix) ++ Crc.les 2 h.ct) ++ Crc.les 4 h.bl) ++ Crc.les 4 h.mo
theorem refHead_eq (h : RH) : refHead h = headB h := by simp [refHead, headB, List.append_assoc]

set_option maxRecDepth 100000 in
set_option maxHeartbeats 3200000 in
theorem refSeal_any (h : RH) (hf : h.Fits) (a : Option Addr) (len cap : Nat) (ds : List Nat) (a2 : Option Addr) (len2 cap2 : Nat) (be : List Nat) (w : World)
    (hr : Row w a len ds) (hl : len ≤ 1000) (hn : a = none → cap = 0) (hr2 : Row w a2 len2 be) (hlc2 : len2 ≤ cap2) (hcm2 : cap2 ≤ maxLen) (hn2 : a2 = none → cap2 = 0) (hl2 : len2 ≤ 1000) :
    Calls Try.prog 29 #[.agg h.wide, .slice a len cap, .slice a2 len2 cap2] w (RetOwn w (sealB h ds be)) := by
  have hcm2_ := hcm2
  unfold maxLen at hcm2
  obtain ⟨f1, f2, f3, f4, f5, f6, f7⟩ := hf
  have hh0 := wide_new h w
  unfold RH.wide
  go_enter Try.func29, Try.ntmps29
  go_wp2_with fail
  obtain ⟨W1, hW1⟩ : ∃ W1, W1 = w.alloc (.cells #[.int .i64 (h.ki : Int), .int .i64 (h.ep : Int), .int .i64 (h.ba : Int), .int .i64 (h.ix : Int), .int .i64 (h.ct : Int), .int .i64 (h.bl : Int), .int .i64 (h.mo : Int)] 72) := ⟨_, rfl⟩
  have hb1 : Below w.heap.size w W1 := by rw [hW1]; exact bel_alloc (Below.refl _ w) _
  have hz1 : w.heap.size < W1.heap.size := by rw [hW1]; simp
  rw [← hW1] at hh0 ⊢
  clear hW1
  have HROW : Hid (∀ w', Below W1.heap.size W1 w' → Row w' a len ds ∧ Row w' a2 len2 be ∧ WideAt h w.heap.size w' ∧ Below w.heap.size w w') := Lib.hid fun w' hb => by
    have hx := bel_trans hb1 hb
    exact ⟨row_keep hr hx (Nat.le_refl _), row_keep hr2 hx (Nat.le_refl _), hh0.below hb hz1, hx⟩
  have HZ1 := Lib.hid hz1
  have HDS := Lib.hid hr.1
  have HBE := Lib.hid hr2.1
  clear hh0 hb1 hr hr2 hz1
  have hbel : Below W1.heap.size W1 W1 := Below.refl _ _
  have ho0 : Own W1.heap.size W1 (.slice none 0 0) [] := own_nil _ _
  go_wp2_with fail
  refine (bytes_any 22356 2 W1 (by omega) (by omega)).mono ?_
  intro e x1 hx
  obtain ⟨a1_, k1_, rfl, hrx, hnx, _, hbx⟩ := retOwn_len hx
  rw [Crc.les_len] at hrx ⊢
  have hox := own_up ho0 hbx
  have hby := hbel.trans (hbx.mono hbel.size)
  have hzy := hby.size
  clear ho0 hbel hx hbx
  go_wp2_with (at_builtin; refine wpList_app rfl _ _ rfl W1.heap.size _ _ rfl hox a1_ 2 k1_ (Crc.les 2 22356) rfl hrx hnx hzy (by simp) ?_)
  intro v1 w1 hap
  have ho1 := hap.own
  have hb_1 : Below W1.heap.size W1 w1 := hby.trans hap.below
  clear hap hox hby hzy hrx hnx
  obtain ⟨_, _, ⟨c0, c1, c2, c3, c4, c5, c6⟩, _⟩ := HROW.out w1 hb_1
  have m1 : IntKind.u8.wrap (h.ki : Int) = (h.ki : Int) := by rw [IntKind.wrap_u8]; omega
  have m2 : (h.ki : Int) % 256 = (h.ki : Int) := by omega
  have hrk : Row (w1.alloc (.cells #[.int .u8 (h.ki : Int), .int .u8 ((0 : Nat) : Int)] 5)) (some ⟨w1.heap.size, 0, none⟩) 2 [h.ki, 0] := row_new2 w1 f1 (by omega)
  have hbk := bel_alloc hb_1 (.cells #[.int .u8 (h.ki : Int), .int .u8 ((0 : Nat) : Int)] 5)
  have hok := own_alloc ho1 (.cells #[.int .u8 (h.ki : Int), .int .u8 ((0 : Nat) : Int)] 5)
  have hzk := hbk.size
  clear ho1 hb_1
  go_wp2_with (at_builtin; refine wpList_app rfl _ _ rfl W1.heap.size _ _ rfl hok _ 2 2 [h.ki, 0] rfl hrk (fun e => by cases e) hzk (by simp [Crc.les_len]) ?_)
  intro v2 w2 hap
  have ho2 := hap.own
  have hb_2 : Below W1.heap.size W1 w2 := hbk.trans hap.below
  clear hap hok hbk hzk hrk c0 c1 c2 c3 c4 c5 c6 m1 m2
  obtain ⟨_, _, ⟨c0, c1, c2, c3, c4, c5, c6⟩, _⟩ := HROW.out w2 hb_2
  have m1 : IntKind.u64.wrap (h.ep : Int) = (h.ep : Int) := by rw [IntKind.wrap_u64]; omega
  go_wp2_with fail
  refine (bytes_any h.ep 4 w2 (by omega) (by omega)).mono ?_
  intro e x3 hx
  obtain ⟨a3_, k3_, rfl, hrx, hnx, _, hbx⟩ := retOwn_len hx
  rw [Crc.les_len] at hrx ⊢
  have hox := own_up ho2 hbx
  have hby := hb_2.trans (hbx.mono hb_2.size)
  have hzy := hby.size
  clear ho2 hb_2 hx hbx c0 c1 c2 c3 c4 c5 c6 m1
  go_wp2_with (at_builtin; refine wpList_app rfl _ _ rfl W1.heap.size _ _ rfl hox a3_ 4 k3_ (Crc.les 4 h.ep) rfl hrx hnx hzy (by simp [Crc.les_len]) ?_)
  intro v3 w3 hap
  have ho3 := hap.own
  have hb_3 : Below W1.heap.size W1 w3 := hby.trans hap.below
  clear hap hox hby hzy hrx hnx
  obtain ⟨_, _, ⟨c0, c1, c2, c3, c4, c5, c6⟩, _⟩ := HROW.out w3 hb_3
  have m1 : IntKind.u64.wrap (h.ba : Int) = (h.ba : Int) := by rw [IntKind.wrap_u64]; omega
  go_wp2_with fail
  refine (bytes_any h.ba 4 w3 (by omega) (by omega)).mono ?_
  intro e x4 hx
  obtain ⟨a4_, k4_, rfl, hrx, hnx, _, hbx⟩ := retOwn_len hx
  rw [Crc.les_len] at hrx ⊢
  have hox := own_up ho3 hbx
  have hby := hb_3.trans (hbx.mono hb_3.size)
  have hzy := hby.size
  clear ho3 hb_3 hx hbx c0 c1 c2 c3 c4 c5 c6 m1
  go_wp2_with (at_builtin; refine wpList_app rfl _ _ rfl W1.heap.size _ _ rfl hox a4_ 4 k4_ (Crc.les 4 h.ba) rfl hrx hnx hzy (by simp [Crc.les_len]) ?_)
  intro v4 w4 hap
  have ho4 := hap.own
  have hb_4 : Below W1.heap.size W1 w4 := hby.trans hap.below
  clear hap hox hby hzy hrx hnx
  obtain ⟨_, _, ⟨c0, c1, c2, c3, c4, c5, c6⟩, _⟩ := HROW.out w4 hb_4
  have m1 : IntKind.u64.wrap (h.ix : Int) = (h.ix : Int) := by rw [IntKind.wrap_u64]; omega
  go_wp2_with fail
  refine (bytes_any h.ix 2 w4 (by omega) (by omega)).mono ?_
  intro e x5 hx
  obtain ⟨a5_, k5_, rfl, hrx, hnx, _, hbx⟩ := retOwn_len hx
  rw [Crc.les_len] at hrx ⊢
  have hox := own_up ho4 hbx
  have hby := hb_4.trans (hbx.mono hb_4.size)
  have hzy := hby.size
  clear ho4 hb_4 hx hbx c0 c1 c2 c3 c4 c5 c6 m1
  go_wp2_with (at_builtin; refine wpList_app rfl _ _ rfl W1.heap.size _ _ rfl hox a5_ 2 k5_ (Crc.les 2 h.ix) rfl hrx hnx hzy (by simp [Crc.les_len]) ?_)
  intro v5 w5 hap
  have ho5 := hap.own
  have hb_5 : Below W1.heap.size W1 w5 := hby.trans hap.below
  clear hap hox hby hzy hrx hnx
  obtain ⟨_, _, ⟨c0, c1, c2, c3, c4, c5, c6⟩, _⟩ := HROW.out w5 hb_5
  have m1 : IntKind.u64.wrap (h.ct : Int) = (h.ct : Int) := by rw [IntKind.wrap_u64]; omega
  go_wp2_with fail
  refine (bytes_any h.ct 2 w5 (by omega) (by omega)).mono ?_
  intro e x6 hx
  obtain ⟨a6_, k6_, rfl, hrx, hnx, _, hbx⟩ := retOwn_len hx
  rw [Crc.les_len] at hrx ⊢
  have hox := own_up ho5 hbx
  have hby := hb_5.trans (hbx.mono hb_5.size)
  have hzy := hby.size
  clear ho5 hb_5 hx hbx c0 c1 c2 c3 c4 c5 c6 m1
  go_wp2_with (at_builtin; refine wpList_app rfl _ _ rfl W1.heap.size _ _ rfl hox a6_ 2 k6_ (Crc.les 2 h.ct) rfl hrx hnx hzy (by simp [Crc.les_len]) ?_)
  intro v6 w6 hap
  have ho6 := hap.own
  have hb_6 : Below W1.heap.size W1 w6 := hby.trans hap.below
  clear hap hox hby hzy hrx hnx
  obtain ⟨_, _, ⟨c0, c1, c2, c3, c4, c5, c6⟩, _⟩ := HROW.out w6 hb_6
  have m1 : IntKind.u64.wrap (h.bl : Int) = (h.bl : Int) := by rw [IntKind.wrap_u64]; omega
  go_wp2_with fail
  refine (bytes_any h.bl 4 w6 (by omega) (by omega)).mono ?_
  intro e x7 hx
  obtain ⟨a7_, k7_, rfl, hrx, hnx, _, hbx⟩ := retOwn_len hx
  rw [Crc.les_len] at hrx ⊢
  have hox := own_up ho6 hbx
  have hby := hb_6.trans (hbx.mono hb_6.size)
  have hzy := hby.size
  clear ho6 hb_6 hx hbx c0 c1 c2 c3 c4 c5 c6 m1
  go_wp2_with (at_builtin; refine wpList_app rfl _ _ rfl W1.heap.size _ _ rfl hox a7_ 4 k7_ (Crc.les 4 h.bl) rfl hrx hnx hzy (by simp [Crc.les_len]) ?_)
  intro v7 w7 hap
  have ho7 := hap.own
  have hb_7 : Below W1.heap.size W1 w7 := hby.trans hap.below
  clear hap hox hby hzy hrx hnx
  obtain ⟨_, _, ⟨c0, c1, c2, c3, c4, c5, c6⟩, _⟩ := HROW.out w7 hb_7
  have m1 : IntKind.u64.wrap (h.mo : Int) = (h.mo : Int) := by rw [IntKind.wrap_u64]; omega
  go_wp2_with fail
  refine (bytes_any h.mo 4 w7 (by omega) (by omega)).mono ?_
  intro e x8 hx
  obtain ⟨a8_, k8_, rfl, hrx, hnx, _, hbx⟩ := retOwn_len hx
  rw [Crc.les_len] at hrx ⊢
  have hox := own_up ho7 hbx
  have hby := hb_7.trans (hbx.mono hb_7.size)
  have hzy := hby.size
  clear ho7 hb_7 hx hbx c0 c1 c2 c3 c4 c5 c6 m1
  go_wp2_with (at_builtin; refine wpList_app rfl _ _ rfl W1.heap.size _ _ rfl hox a8_ 4 k8_ (Crc.les 4 h.mo) rfl hrx hnx hzy (by simp [Crc.les_len]) ?_)
  intro v8 w8 hap
  have ho8 := hap.own
  have hb_8 : Below W1.heap.size W1 w8 := hby.trans hap.below
  clear hap hox hby hzy hrx hnx
  have hoF : Own W1.heap.size w8 v8 (refHead h) := ho8
  clear ho8
  rw [refHead_eq] at hoF
  obtain ⟨hrD, hrB, _, _⟩ := HROW.out w8 hb_8
  have HRD := Lib.hid hrD
  by_cases h32 : 32 < len2
  · obtain ⟨b', off', rfl, _⟩ := hrB.2.2 (by omega)
    have d1 : decide ((32 : Int) < (len2 : Int)) = true := decide_eq_true (by omega)
    have hci : (32 : Int) ≤ (cap2 : Int) := by omega
    have hrt := row_cut hrB 32 (by omega)
    have hnn : (some (⟨b', off', none⟩ : Addr) = none → cap2 = 0) := fun e => by cases e
    have hmc : 32 ≤ cap2 := by omega
    have hmm : 32 ≤ 1000 := by omega
    clear hrD hrB hn2
    go_wp2_with fail
    refine (refPad_any _ 32 cap2 (be.take 32) w8 hrt hmc hcm2_ hnn (by omega) 32 (by omega) (by omega)).mono ?_
    intro e w9 h9
    obtain ⟨a9, k9, rfl, hr9, hn9, ho9, hb9⟩ := retOwn_len h9
    have e9 : padTo (be.take 32) 32 = tailB be := rfl
    rw [e9, tailB_len] at hr9
    rw [e9, tailB_len]
    have hoF9 := own_up hoF hb9
    have hrD9 := row_keep HRD.out hb9 (Nat.le_refl _)
    have hbl9 := hb_8.trans (hb9.mono hb_8.size)
    have hz9 := hbl9.size
    have hF8 : ∀ k, (v8).ownBlock = some k → k < w8.heap.size := fun k hk => (own_base hoF k hk).2
    obtain ⟨aF, kF, hvF, hrF, _⟩ := row_of_own hoF9
    have hnF : aF = none → kF = 0 := fun e => own_nocap (by rw [← hvF]; exact hoF9) e
    rw [headB_len] at hvF hrF
    subst hvF
    have NE0 : Hid (∀ x, a9 = some x → some x.block ≠ (Value.slice aF 24 kF).ownBlock) := Lib.hid fun x hx e => by
      have q1 := hF8 x.block e.symm
      have q2 := own_base ho9 x.block (by rw [hx]; rfl)
      omega
    have hoN : Own w9.heap.size w9 (.slice none 0 0) [] := own_nil _ _
    have HF9 : Hid (∀ wx, Below w9.heap.size w9 wx → Own W1.heap.size wx (.slice aF 24 kF) (headB h) ∧ Row wx a9 32 (tailB be) ∧ Row wx a len ds ∧ Below W1.heap.size W1 wx) := Lib.hid fun wx hb => ⟨own_up hoF9 hb, row_keep hr9 hb (Nat.le_refl _), row_keep hrD9 hb (Nat.le_refl _), hbl9.trans (hb.mono hz9)⟩
    clear h9 hb9 hb_8 hoF hrt hF8 ho9 hbl9 hz9 hoF9 hrD9 hr9
    go_wp2_with (at_builtin; refine wpList_app rfl _ _ rfl w9.heap.size _ _ rfl hoN aF 24 kF (headB h) rfl hrF hnF (Nat.le_refl _) (by simp) ?_)
    intro vA wA hap
    have hoA := hap.own
    have hbA := hap.below
    have hzA := hbA.size
    obtain ⟨_, _, hrDA, _⟩ := HF9.out wA hbA
    clear hap hoN hrF
    go_wp2_with (at_builtin; refine wpList_app rfl _ _ rfl w9.heap.size _ _ rfl hoA a len cap ds rfl hrDA hn hzA (by rw [headB_len]; omega) ?_)
    intro vB wB hap
    have hoB := hap.own
    have hbB := hbA.trans hap.below
    have hzB := hbB.size
    obtain ⟨_, hr9B, _, _⟩ := HF9.out wB hbB
    clear hap hoA hrDA hbA
    go_wp2_with (at_builtin; refine wpList_app rfl _ _ rfl w9.heap.size _ _ rfl hoB a9 32 k9 (tailB be) rfl hr9B hn9 hzB (by rw [List.length_append, headB_len, HDS.out]; omega) ?_)
    intro vC wC hap
    have hoC := hap.own
    rw [← List.append_assoc] at hoC
    obtain ⟨hoFC, hr9C, _, hblC⟩ := HF9.out wC (hbB.trans hap.below)
    obtain ⟨aC, kC, hvC, hrC, hmC⟩ := row_of_own hoC
    obtain ⟨LC, hLC⟩ : ∃ LC, (headB h ++ ds ++ tailB be).length = LC := ⟨_, rfl⟩
    rw [hLC] at hvC hrC hmC
    subst hvC
    clear hLC hap hoB hr9B hbB hoC hzA hzB HF9
    go_wp2_with fail
    with_reducible refine (refOf_any aC LC kC _ wC hrC hmC).mono ?_
    rintro e wD ⟨rfl, rfl⟩
    obtain ⟨S, hS⟩ : ∃ S, sumB h ds be = S := ⟨_, rfl⟩
    have hS' : Crc.of (headB h ++ ds ++ tailB be) = S := hS
    have hSlt : S < 4294967296 := by rw [← hS]; exact Crc.of_lt _
    rw [hS']
    have HS := Lib.hid hS
    have m1 : IntKind.u64.wrap (S : Int) = (S : Int) := by rw [IntKind.wrap_u64]; omega
    clear hS hS' hrC hmC
    go_wp2_with fail
    refine (bytes_any S 4 wC (by omega) (by omega)).mono ?_
    intro e wE hE
    obtain ⟨aE, kE, rfl, hrE, hnE, _, hbE⟩ := retOwn_len hE
    rw [Crc.les_len] at hrE ⊢
    have hoFE := own_up hoFC hbE
    have hr9E := row_keep hr9C hbE (Nat.le_refl _)
    have hblE := hblC.trans (hbE.mono hblC.size)
    clear hE m1 hoFC hr9C hblC hbE
    go_wp2_with (at_builtin; refine wpList_app rfl _ _ rfl W1.heap.size _ _ rfl hoFE aE 4 kE (Crc.les 4 S) rfl hrE hnE hblE.size (by rw [headB_len]; omega) ?_)
    intro vG wG hap
    have hoG := hap.own
    have hblG := hblE.trans hap.below
    have hoGz := hoG
    have hr9G := row_grown hr9E hap.grown NE0.out
    have NE1 : Hid (∀ x, a9 = some x → some x.block ≠ vG.ownBlock) := Lib.hid fun x hx e => by
      rcases hap.where_ with q | q
      · exact NE0.out x hx (e.trans q)
      · rw [q] at e
        have q2 := row_lt hr9E (by omega) x hx
        have q3 : x.block = wE.heap.size := by simpa using e
        omega
    clear hap hoG hoFE hr9E hblE hrE hnE NE0
    go_wp2_with fail
    refine (zeros_any 4 wG (by omega)).mono ?_
    intro e wH hH
    obtain ⟨aH, kH, rfl, hrH, hnH, _, hbH⟩ := retOwn_len hH
    rw [List.length_replicate] at hrH ⊢
    have hoGH := own_up hoGz hbH
    have hr9H := row_keep hr9G hbH (Nat.le_refl _)
    have hblH := hblG.trans (hbH.mono hblG.size)
    clear hH hoGz hr9G hblG hbH
    go_wp2_with (at_builtin; refine wpList_app rfl _ _ rfl W1.heap.size _ _ rfl hoGH aH 4 kH (List.replicate 4 0) rfl hrH hnH hblH.size (by rw [List.length_append, headB_len, Crc.les_len]; omega) ?_)
    intro vI wI hap
    have hoI := hap.own
    have hblI := hblH.trans hap.below
    have hr9I := row_grown hr9H hap.grown NE1.out
    clear hap hoGH hr9H hblH hrH hnH NE1
    go_wp2_with (at_builtin; refine wpList_app rfl _ _ rfl W1.heap.size _ _ rfl hoI a9 32 k9 (tailB be) rfl hr9I hn9 hblI.size (by simp [headB_len, Crc.les_len]) ?_)
    intro vJ wJ hap
    have hoJ := hap.own
    have hblJ := hblI.trans hap.below
    have e10 : sealB h ds be = headB h ++ (Crc.les 4 S ++ 0 :: 0 :: 0 :: 0 :: tailB be) := by
      unfold sealB
      rw [HS.out]
      simp [Crc.les]
    rw [← e10] at hoJ
    have hoK := own_mono hoJ (Nat.le_of_lt HZ1.out)
    have hbK := (HROW.out wJ hblJ).2.2.2
    obtain ⟨aJ, kJ, hvJ, _⟩ := row_of_own hoK
    subst hvJ
    clear hap hoI hr9I hblI hoJ e10
    go_wp2
    go_ret
    exact ⟨_, rfl, hoK, hbK⟩

  · have d1 : decide ((32 : Int) < (len2 : Int)) = false := decide_eq_false (by omega)
    have e32 : be.take 32 = be := List.take_of_length_le (by rw [HBE.out]; omega)
    have hrt : Row w8 a2 len2 (be.take 32) := by rw [e32]; exact hrB
    clear hrD hrB e32
    go_wp2_with fail
    refine (refPad_any a2 len2 cap2 (be.take 32) w8 hrt hlc2 hcm2_ hn2 (by omega) 32 (by omega) (by omega)).mono ?_
    intro e w9 h9
    obtain ⟨a9, k9, rfl, hr9, hn9, ho9, hb9⟩ := retOwn_len h9
    have e9 : padTo (be.take 32) 32 = tailB be := rfl
    rw [e9, tailB_len] at hr9
    rw [e9, tailB_len]
    have hoF9 := own_up hoF hb9
    have hrD9 := row_keep HRD.out hb9 (Nat.le_refl _)
    have hbl9 := hb_8.trans (hb9.mono hb_8.size)
    have hz9 := hbl9.size
    have hF8 : ∀ k, (v8).ownBlock = some k → k < w8.heap.size := fun k hk => (own_base hoF k hk).2
    obtain ⟨aF, kF, hvF, hrF, _⟩ := row_of_own hoF9
    have hnF : aF = none → kF = 0 := fun e => own_nocap (by rw [← hvF]; exact hoF9) e
    rw [headB_len] at hvF hrF
    subst hvF
    have NE0 : Hid (∀ x, a9 = some x → some x.block ≠ (Value.slice aF 24 kF).ownBlock) := Lib.hid fun x hx e => by
      have q1 := hF8 x.block e.symm
      have q2 := own_base ho9 x.block (by rw [hx]; rfl)
      omega
    have hoN : Own w9.heap.size w9 (.slice none 0 0) [] := own_nil _ _
    have HF9 : Hid (∀ wx, Below w9.heap.size w9 wx → Own W1.heap.size wx (.slice aF 24 kF) (headB h) ∧ Row wx a9 32 (tailB be) ∧ Row wx a len ds ∧ Below W1.heap.size W1 wx) := Lib.hid fun wx hb => ⟨own_up hoF9 hb, row_keep hr9 hb (Nat.le_refl _), row_keep hrD9 hb (Nat.le_refl _), hbl9.trans (hb.mono hz9)⟩
    clear h9 hb9 hb_8 hoF hrt hF8 ho9 hbl9 hz9 hoF9 hrD9 hr9
    go_wp2_with (at_builtin; refine wpList_app rfl _ _ rfl w9.heap.size _ _ rfl hoN aF 24 kF (headB h) rfl hrF hnF (Nat.le_refl _) (by simp) ?_)
    intro vA wA hap
    have hoA := hap.own
    have hbA := hap.below
    have hzA := hbA.size
    obtain ⟨_, _, hrDA, _⟩ := HF9.out wA hbA
    clear hap hoN hrF
    go_wp2_with (at_builtin; refine wpList_app rfl _ _ rfl w9.heap.size _ _ rfl hoA a len cap ds rfl hrDA hn hzA (by rw [headB_len]; omega) ?_)
    intro vB wB hap
    have hoB := hap.own
    have hbB := hbA.trans hap.below
    have hzB := hbB.size
    obtain ⟨_, hr9B, _, _⟩ := HF9.out wB hbB
    clear hap hoA hrDA hbA
    go_wp2_with (at_builtin; refine wpList_app rfl _ _ rfl w9.heap.size _ _ rfl hoB a9 32 k9 (tailB be) rfl hr9B hn9 hzB (by rw [List.length_append, headB_len, HDS.out]; omega) ?_)
    intro vC wC hap
    have hoC := hap.own
    rw [← List.append_assoc] at hoC
    obtain ⟨hoFC, hr9C, _, hblC⟩ := HF9.out wC (hbB.trans hap.below)
    obtain ⟨aC, kC, hvC, hrC, hmC⟩ := row_of_own hoC
    obtain ⟨LC, hLC⟩ : ∃ LC, (headB h ++ ds ++ tailB be).length = LC := ⟨_, rfl⟩
    rw [hLC] at hvC hrC hmC
    subst hvC
    clear hLC hap hoB hr9B hbB hoC hzA hzB HF9
    go_wp2_with fail
    with_reducible refine (refOf_any aC LC kC _ wC hrC hmC).mono ?_
    rintro e wD ⟨rfl, rfl⟩
    obtain ⟨S, hS⟩ : ∃ S, sumB h ds be = S := ⟨_, rfl⟩
    have hS' : Crc.of (headB h ++ ds ++ tailB be) = S := hS
    have hSlt : S < 4294967296 := by rw [← hS]; exact Crc.of_lt _
    rw [hS']
    have HS := Lib.hid hS
    have m1 : IntKind.u64.wrap (S : Int) = (S : Int) := by rw [IntKind.wrap_u64]; omega
    clear hS hS' hrC hmC
    go_wp2_with fail
    refine (bytes_any S 4 wC (by omega) (by omega)).mono ?_
    intro e wE hE
    obtain ⟨aE, kE, rfl, hrE, hnE, _, hbE⟩ := retOwn_len hE
    rw [Crc.les_len] at hrE ⊢
    have hoFE := own_up hoFC hbE
    have hr9E := row_keep hr9C hbE (Nat.le_refl _)
    have hblE := hblC.trans (hbE.mono hblC.size)
    clear hE m1 hoFC hr9C hblC hbE
    go_wp2_with (at_builtin; refine wpList_app rfl _ _ rfl W1.heap.size _ _ rfl hoFE aE 4 kE (Crc.les 4 S) rfl hrE hnE hblE.size (by rw [headB_len]; omega) ?_)
    intro vG wG hap
    have hoG := hap.own
    have hblG := hblE.trans hap.below
    have hoGz := hoG
    have hr9G := row_grown hr9E hap.grown NE0.out
    have NE1 : Hid (∀ x, a9 = some x → some x.block ≠ vG.ownBlock) := Lib.hid fun x hx e => by
      rcases hap.where_ with q | q
      · exact NE0.out x hx (e.trans q)
      · rw [q] at e
        have q2 := row_lt hr9E (by omega) x hx
        have q3 : x.block = wE.heap.size := by simpa using e
        omega
    clear hap hoG hoFE hr9E hblE hrE hnE NE0
    go_wp2_with fail
    refine (zeros_any 4 wG (by omega)).mono ?_
    intro e wH hH
    obtain ⟨aH, kH, rfl, hrH, hnH, _, hbH⟩ := retOwn_len hH
    rw [List.length_replicate] at hrH ⊢
    have hoGH := own_up hoGz hbH
    have hr9H := row_keep hr9G hbH (Nat.le_refl _)
    have hblH := hblG.trans (hbH.mono hblG.size)
    clear hH hoGz hr9G hblG hbH
    go_wp2_with (at_builtin; refine wpList_app rfl _ _ rfl W1.heap.size _ _ rfl hoGH aH 4 kH (List.replicate 4 0) rfl hrH hnH hblH.size (by rw [List.length_append, headB_len, Crc.les_len]; omega) ?_)
    intro vI wI hap
    have hoI := hap.own
    have hblI := hblH.trans hap.below
    have hr9I := row_grown hr9H hap.grown NE1.out
    clear hap hoGH hr9H hblH hrH hnH NE1
    go_wp2_with (at_builtin; refine wpList_app rfl _ _ rfl W1.heap.size _ _ rfl hoI a9 32 k9 (tailB be) rfl hr9I hn9 hblI.size (by simp [headB_len, Crc.les_len]) ?_)
    intro vJ wJ hap
    have hoJ := hap.own
    have hblJ := hblI.trans hap.below
    have e10 : sealB h ds be = headB h ++ (Crc.les 4 S ++ 0 :: 0 :: 0 :: 0 :: tailB be) := by
      unfold sealB
      rw [HS.out]
      simp [Crc.les]
    rw [← e10] at hoJ
    have hoK := own_mono hoJ (Nat.le_of_lt HZ1.out)
    have hbK := (HROW.out wJ hblJ).2.2.2
    obtain ⟨aJ, kJ, hvJ, _⟩ := row_of_own hoK
    subst hvJ
    clear hap hoI hr9I hblI hoJ e10
    go_wp2
    go_ret
    exact ⟨_, rfl, hoK, hbK⟩


end Go.Proofs.Ytnkkeffjnamcgaa
