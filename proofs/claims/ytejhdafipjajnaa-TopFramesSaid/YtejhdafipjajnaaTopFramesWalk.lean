/- TopFrames: the walk. -/
import Derived.Test.YtejhdafipjajnaaTopBy
import Derived.Test.YtejhdafipjajnaaLaid
import Derived.Deep.RegionHeld3
namespace Go.Proofs.Ytejhdafipjajnaa
open Go.RowKit

theorem four_cells (w : World) (v0 v1 v2 v3 : Value) (t : TypeId) : (w.alloc (.cells #[v0, v1, v2, v3] t)).cell? ⟨w.heap.size, 0, none⟩ = some v0 ∧ (w.alloc (.cells #[v0, v1, v2, v3] t)).cell? ⟨w.heap.size, 1, none⟩ = some v1 ∧ (w.alloc (.cells #[v0, v1, v2, v3] t)).cell? ⟨w.heap.size, 2, none⟩ = some v2 ∧ (w.alloc (.cells #[v0, v1, v2, v3] t)).cell? ⟨w.heap.size, 3, none⟩ = some v3 := by
  refine ⟨?_, ?_, ?_, ?_⟩
  · rw [World.cell?_alloc_mark]; rfl
  · rw [World.cell?_alloc_mark]; rfl
  · rw [World.cell?_alloc_mark]; rfl
  · rw [World.cell?_alloc_mark]; rfl
/-- Four new variables, in whichever order they were made. -/
def Vars4 (w0 : World) (a : Option Addr) (n c : Nat) (x y : Int) (z : Nat) (p3 p4 p5 p6 : Nat) (w' : World) : Prop :=
  Below w0.heap.size w0 w' ∧ w0.heap.size ≤ p3 ∧ w0.heap.size ≤ p4 ∧ w0.heap.size ≤ p5 ∧ w0.heap.size ≤ p6 ∧ p3 < w'.heap.size ∧ p4 < w'.heap.size ∧ p5 < w'.heap.size ∧ p6 < w'.heap.size ∧
  w'.cell? ⟨p3, 0, none⟩ = some (.slice a n c) ∧ w'.cell? ⟨p4, 0, none⟩ = some (.int .i64 x) ∧ w'.cell? ⟨p5, 0, none⟩ = some (.int .i64 y) ∧ w'.cell? ⟨p6, 0, none⟩ = some (.int .u32 (z : Int))
def val4 (s : Nat) (v1 v2 v3 v4 : Value) (p : Nat) : Value := if p = s then v1 else if p = s + 1 then v2 else if p = s + 2 then v3 else v4
theorem new4 (w0 : World) (v1 v2 v3 v4 : Value) (t1 t2 t3 t4 : TypeId) (p : Nat) (h1 : w0.heap.size ≤ p) (h2 : p < w0.heap.size + 4) :
    ((((w0.alloc (.cells #[v1] t1)).alloc (.cells #[v2] t2)).alloc (.cells #[v3] t3)).alloc (.cells #[v4] t4)).cell? ⟨p, 0, none⟩ = some (val4 w0.heap.size v1 v2 v3 v4 p) := by
  have e1 := cell_new1 w0 v1 t1
  have b2 : Below (w0.alloc (.cells #[v1] t1)).heap.size (w0.alloc (.cells #[v1] t1)) _ := bel_alloc (bel_alloc (bel_alloc (Below.refl _ _) (.cells #[v2] t2)) (.cells #[v3] t3)) (.cells #[v4] t4)
  unfold val4
  rcases (show p = w0.heap.size ∨ p = w0.heap.size + 1 ∨ p = w0.heap.size + 2 ∨ p = w0.heap.size + 3 by omega) with rfl | rfl | rfl | rfl
  · rw [if_pos rfl]; exact cell_bel b2 e1
  · rw [if_neg (by omega), if_pos rfl]; exact cell_bel (bel_alloc (bel_alloc (Below.refl _ _) _) _) (cell_new1_at (by simp))
  · rw [if_neg (by omega), if_neg (by omega), if_pos rfl]; exact cell_bel (bel_alloc (Below.refl _ _) _) (cell_new1_at (by simp))
  · rw [if_neg (by omega), if_neg (by omega), if_neg (by omega)]; exact cell_new1_at (by simp)
theorem done4 {w0 : World} {a : Option Addr} {n c : Nat} {x y : Int} {z : Nat} {v1 v2 v3 v4 : Value} {t1 t2 t3 t4 : TypeId} {p3 p4 p5 p6 : Nat} (h3 : w0.heap.size ≤ p3 ∧ p3 < w0.heap.size + 4) (h4 : w0.heap.size ≤ p4 ∧ p4 < w0.heap.size + 4) (h5 : w0.heap.size ≤ p5 ∧ p5 < w0.heap.size + 4) (h6 : w0.heap.size ≤ p6 ∧ p6 < w0.heap.size + 4)
    (e3 : val4 w0.heap.size v1 v2 v3 v4 p3 = .slice a n c) (e4 : val4 w0.heap.size v1 v2 v3 v4 p4 = .int .i64 x) (e5 : val4 w0.heap.size v1 v2 v3 v4 p5 = .int .i64 y) (e6 : val4 w0.heap.size v1 v2 v3 v4 p6 = .int .u32 (z : Int)) :
    Vars4 w0 a n c x y z p3 p4 p5 p6 ((((w0.alloc (.cells #[v1] t1)).alloc (.cells #[v2] t2)).alloc (.cells #[v3] t3)).alloc (.cells #[v4] t4)) := by
  have hn := new4 w0 v1 v2 v3 v4 t1 t2 t3 t4
  have hb : Below w0.heap.size w0 ((((w0.alloc (.cells #[v1] t1)).alloc (.cells #[v2] t2)).alloc (.cells #[v3] t3)).alloc (.cells #[v4] t4)) := bel_alloc (bel_alloc (bel_alloc (bel_alloc (Below.refl _ w0) _) _) _) _
  have hz : ((((w0.alloc (.cells #[v1] t1)).alloc (.cells #[v2] t2)).alloc (.cells #[v3] t3)).alloc (.cells #[v4] t4)).heap.size = w0.heap.size + 4 := by simp
  exact ⟨hb, h3.1, h4.1, h5.1, h6.1, by rw [hz]; exact h3.2, by rw [hz]; exact h4.2, by rw [hz]; exact h5.2, by rw [hz]; exact h6.2, by rw [hn p3 h3.1 h3.2, e3], by rw [hn p4 h4.1 h4.2, e4], by rw [hn p5 h5.1 h5.2, e5], by rw [hn p6 h6.1 h6.2, e6]⟩
theorem vars4_drew {w0 w' : World} {a : Option Addr} {n c : Nat} {x y : Int} {z : Nat} {p3 p4 p5 p6 : Nat} (h : Vars4 w0 a n c x y z p3 p4 p5 p6 w') : Vars4 w0 a n c x y z p3 p4 p5 p6 w'.drew := by
  obtain ⟨h0, h1, h2, h3, h4, h5, h6, h7, h8, h9, h10, h11, h12⟩ := h
  exact ⟨h0.drew, h1, h2, h3, h4, h5, h6, h7, h8, h9, h10, h11, h12⟩
theorem size_alloc (w : World) (o : Obj) : (w.alloc o).heap.size = w.heap.size + 1 := by simp
/-- Two numbers in a new slice. -/
theorem rowK_new2 {n m : Nat} (w : World) (t : TypeId) (hn : n < 4294967296) (hm : m < 4294967296) : RowK .u32 4294967296 (w.alloc (.cells #[.int .u32 (n : Int), .int .u32 (m : Int)] t)) (some ⟨w.heap.size, 0, none⟩) 2 [n, m] :=
  ⟨rfl, fun y hy => by simp at hy; omega, fun _ => ⟨_, 0, rfl, fun i hi => by
    rcases (show i = 0 ∨ i = 1 by omega) with rfl | rfl
    · rw [World.cell?_alloc_mark]; rfl
    · rw [World.cell?_alloc_mark]; rfl⟩⟩
theorem frame_flat (b : List Nat) (X : List Nat) : (X ++ [b.length, Crc.of b].flatMap (Crc.les 4)) ++ b = X ++ frame b := by
  simp [frame, List.append_assoc]
/-- What comes in. -/
def CaseOk (W : World) (a : Option Addr) (n c : Nat) (A : Nat → Option Addr) (L C : Nat → Nat) (B : Nat → List Nat) (x y : Int) (z : Nat) : Prop :=
  InParts W a n c A L C B ∧ n ≤ c ∧ c ≤ maxLen ∧ (-9223372036854775808 ≤ x ∧ x ≤ 9223372036854775807) ∧ (-9223372036854775808 ≤ y ∧ y ≤ 9223372036854775807) ∧ z < 4294967296

set_option maxRecDepth 100000 in
set_option maxHeartbeats 8000000 in
theorem topFrames_walk (a : Option Addr) (n c : Nat) (A : Nat → Option Addr) (L C : Nat → Nat) (B : Nat → List Nat) (x y : Int) (z : Nat) (w : World) (h : CaseOk w a n c A L C B x y z) :
    Calls Try.prog 6 #[.agg #[.slice a n c, .int .i64 x, .int .i64 y, .int .u32 (z : Int)]] w fun e w' => e = .returned (.bool true) ∧ Below w.heap.size w w' := by
  have HC := Lib.hid h
  clear h
  go_enter Try.func6, Try.ntmps6
  go_wp2_with fail
  have hb0 : Below w.heap.size w (w.alloc (.cells #[.slice a n c, .int .i64 x, .int .i64 y, .int .u32 (z : Int)] 60)) := bel_alloc (Below.refl _ w) _
  obtain ⟨c0, c1, c2, c3⟩ := four_cells w (.slice a n c) (.int .i64 x) (.int .i64 y) (.int .u32 (z : Int)) 60
  obtain ⟨w0, hw0⟩ : ∃ w0, w0 = w.alloc (.cells #[.slice a n c, .int .i64 x, .int .i64 y, .int .u32 (z : Int)] 60) := ⟨_, rfl⟩
  rw [← hw0] at c0 c1 c2 c3 hb0 ⊢
  obtain ⟨s, hs⟩ : ∃ s, s = w.heap.size := ⟨_, rfl⟩
  rw [← hs] at c0 c1 c2 c3 ⊢
  have hs0 : s < w0.heap.size := World.block_lt_of_cell? w0 ⟨s, 0, none⟩ c0
  have HB0 := Lib.hid hb0
  have HS := Lib.hid hs
  clear hw0 hb0 hs
  refine Code.wp_mono (Q := fun e a' w' => e = Exit.normal ∧ ∃ p3 p4 p5 p6, a' = ⟨#[.agg #[.slice a n c, .int .i64 x, .int .i64 y, .int .u32 (z : Int)], .pointer (some ⟨s, 0, none⟩), .bool false, .pointer (some ⟨p3, 0, none⟩), .pointer (some ⟨p4, 0, none⟩), .pointer (some ⟨p5, 0, none⟩), .pointer (some ⟨p6, 0, none⟩), undef, undef, undef, undef, undef, .pointer (some ⟨s, 0, none⟩), .slice a n c, .pointer (some ⟨s, 1, none⟩), .int .i64 x, .pointer (some ⟨s, 2, none⟩), .int .i64 y, .pointer (some ⟨s, 3, none⟩), .int .u32 (z : Int), undef, undef, undef, undef, undef, undef, undef, undef, undef, undef, undef, undef, undef, undef, undef, undef, undef, undef, undef, undef, undef, undef, undef, undef, undef, undef, undef, undef, undef, undef, undef, undef, undef, undef, undef, undef, undef, undef, undef, undef, undef, undef, undef, undef, undef, undef, undef, undef, undef, undef, undef, undef, undef, undef, undef, undef, undef, undef, undef, undef, undef, undef, undef, undef, undef, undef, undef, undef, undef, undef, undef, undef, undef, undef], []⟩ ∧ Vars4 w0 a n c x y z p3 p4 p5 p6 w') ?_ ?_
  case refine_2 =>
    have cc := And.intro c0 (And.intro c1 (And.intro c2 c3))
    have hcc : ∀ wx, Below w0.heap.size w0 wx → wx.cell? ⟨s, 0, none⟩ = some (.slice a n c) ∧ wx.cell? ⟨s, 1, none⟩ = some (.int .i64 x) ∧ wx.cell? ⟨s, 2, none⟩ = some (.int .i64 y) ∧ wx.cell? ⟨s, 3, none⟩ = some (.int .u32 (z : Int)) := fun wx hb => ⟨cell_bel hb c0, cell_bel hb c1, cell_bel hb c2, cell_bel hb c3⟩
    go_region_held3 (fun w' => w'.cell? ⟨s, 0, none⟩ = some (.slice a n c) ∧ w'.cell? ⟨s, 1, none⟩ = some (.int .i64 x) ∧ w'.cell? ⟨s, 2, none⟩ = some (.int .i64 y) ∧ w'.cell? ⟨s, 3, none⟩ = some (.int .u32 (z : Int)))
      (first | exact cc | (refine hcc _ ?_; repeat (first | exact Below.refl _ _ | refine Below.drew ?_ | refine bel_alloc ?_ _ | refine Below.setCell ?_ (by dsimp only; omega) _))) (fail)
    all_goals (refine ⟨rfl, _, _, _, _, rfl, ?_⟩; refine vars4_drew (done4 ?_ ?_ ?_ ?_ ?_ ?_ ?_ ?_); all_goals (first | (constructor <;> omega) | (unfold val4; (repeat' split) <;> (first | rfl | omega))))
  case refine_1 =>
    rintro _ _ wv ⟨rfl, p3, p4, p5, p6, rfl, hv4⟩
    simp only [Exit.then]
    obtain ⟨hb4, l3, l4, l5, l6, u3, u4, u5, u6, c3, c4, c5, c6⟩ := hv4
    have HBV := Lib.hid (HB0.out.trans (hb4.mono HB0.out.size))
    have hwv := HB0.out.size
    clear c0 c1 c2 hs0 hb4 HB0
    go_wp2_with fail
    refine (wU16_any wv.heap.size wv.heap.size (.slice none 0 0) [] _ (wr_keep (wr_new wv) ((Below.refl _ _).alloc (Nat.le_refl _) _)) (by simp; omega) _ 1 1 [513] (rowK_new_at 38 (by omega) (by simp)) (fun _ x hx => by cases hx; exact ⟨by simp, fun h => by cases h⟩) (by omega) (by simp)).mono ?_
    rintro e w1 ⟨rfl, sv1, hw1, hm1⟩
    have e1 : ([] : List Nat) ++ [513].flatMap (Crc.les 2) = [1, 2] := by decide
    rw [e1] at hw1
    have hb1 : Below wv.heap.size wv w1 := ((Below.refl _ wv).alloc (Nat.le_refl _) _).trans ((moved_of_below ((Below.refl _ _).alloc (Nat.le_refl _) _) wv.heap.size (.slice none 0 0)).trans hm1 |>.below (wr_new wv) (by simp))
    clear e1 hm1
    have HW1 := Lib.hid hw1
    have HB1 := Lib.hid hb1
    clear hw1 hb1
    go_wp2_with fail
    refine (wBytes_any wv.heap.size wv.heap.size sv1 _ _ HW1.out (by simp)).mono ?_
    intro e w2 h2
    obtain ⟨a2, k2, rfl, hr2, _, _, hb2⟩ := retOwn_len h2
    have hb02 : Below wv.heap.size wv w2 := HB1.out.trans (hb2.mono HB1.out.size)
    have HW2 := Lib.hid (wr_keep HW1.out hb2)
    have HB2 := Lib.hid hb02
    have d3 := cell_bel hb02 c3
    have d4 := cell_bel hb02 c4
    have d5 := cell_bel hb02 c5
    have d6 := cell_bel hb02 c6
    have hnm : n ≤ maxLen := HC.out.1.1
    unfold maxLen at hnm
    clear h2 hr2 hb2 hb02 c3 c4 c5 c6 HW1 HB1
    by_cases hn20 : 20 < n
    · have dn : decide ((20 : Int) < (n : Int)) = true := decide_eq_true (by omega)
      go_wp2_with fail
      refine (wBytes_any wv.heap.size wv.heap.size sv1 _ _ HW2.out (by simp)).mono ?_
      intro e w3 h3
      obtain ⟨a3, k3, rfl, hr3, _, _, hb3⟩ := retOwn_len h3
      have hb03 : Below w.heap.size w w3 := (HBV.out.trans (HB2.out.mono HBV.out.size)).trans (hb3.mono (Nat.le_trans HBV.out.size HB2.out.size))
      clear h3 hr3 hb3
      go_wp2
      go_ret
      exact ⟨rfl, hb03⟩
    · have dn : decide ((20 : Int) < (n : Int)) = false := decide_eq_false (by omega)
      have hz2 := HB2.out.size
      have hb2p : Below w2.heap.size w2 (w2.alloc (.cells #[.slice none 0 0] 28)) := bel_alloc (Below.refl _ w2) _
      have hwr := wr_new w2
      have f3 := cell_bel hb2p d3
      have f4 := cell_bel hb2p d4
      have f5 := cell_bel hb2p d5
      have f6 := cell_bel hb2p d6
      have hbwp : Below w.heap.size w (w2.alloc (.cells #[.slice none 0 0] 28)) := (HBV.out.trans (HB2.out.mono HBV.out.size)).trans (hb2p.mono (Nat.le_trans HBV.out.size HB2.out.size))
      go_wp2_with fail
      obtain ⟨pw, hpw⟩ : ∃ pw, pw = w2.heap.size := ⟨_, rfl⟩
      obtain ⟨wp, hwp⟩ : ∃ wp, wp = w2.alloc (.cells #[.slice none 0 0] 28) := ⟨_, rfl⟩
      have hpz : pw ≤ wp.heap.size := by rw [hwp, hpw]; simp
      have hwpw : w.heap.size ≤ pw := by have := HBV.out.size; omega
      rw [← hwp] at hwr f3 f4 f5 f6 hbwp ⊢
      rw [← hpw] at hwr hz2 ⊢
      have q3 : p3 < pw := by omega
      have q4 : p4 < pw := by omega
      have q5 : p5 < pw := by omega
      have q6 : p6 < pw := by omega
      have m3 : w.heap.size ≤ p3 := by omega
      have m4 : w.heap.size ≤ p4 := by omega
      have m5 : w.heap.size ≤ p5 := by omega
      have m6 : w.heap.size ≤ p6 := by omega
      have HBP := Lib.hid hbwp
      have F3 := Lib.hid f3
      have F4 := Lib.hid f4
      have F5 := Lib.hid f5
      have F6 := Lib.hid f6
      have HWR := Lib.hid hwr
      clear hpw hwp hb2p d3 d4 d5 d6 HW2 HB2 hbwp f3 f4 f5 f6 hwr HBV l3 l4 l5 l6 u3 u4 u5 u6 hz2 hwv
      go_loopw [8] (fun iv wr => ∃ (k : Nat) (sv : Value) (X : List Nat), k ≤ n ∧ iv = .int .i64 (k : Int) ∧ WR pw wr pw sv X ∧ Below pw wp wr ∧ Hid (X = frames B 0 k) ∧ (∀ i, i < k → L i ≤ 300)) (fun iv _ => n - (intOf iv).toNat)
      case atStart => exact ⟨0, _, [], by omega, rfl, HWR.out, Below.refl _ _, Lib.hid rfl, fun i hi => by omega⟩
      case round =>
        obtain ⟨k, sv, X, hk, rfl, hw3, hb23, HX, hLs⟩ := hrel
        have g3 : wr.cell? ⟨p3, 0, none⟩ = some (.slice a n c) := by rw [hb23.cell (p := ⟨p3, 0, none⟩) q3]; exact F3.out
        have hbw : Below w.heap.size w wr := HBP.out.trans (hb23.mono hwpw)
        have hzr : pw ≤ wr.heap.size := Nat.le_trans hpz hb23.size
        by_cases hlt : k < n
        · obtain ⟨b, off, ha, hcP, hrP⟩ := part_at HC.out.1 hbw hlt
          have hkI : (k : Int) < (n : Int) := by omega
          have hk0 : (0 : Int) ≤ (k : Int) := by omega
          have hnc2 : n ≤ c := HC.out.2.1
          have hcm2 := HC.out.2.2.1
          unfold maxLen at hcm2
          have hPI := HC.out.1.2.2.2 k hlt
          have hlm : L k ≤ maxLen := Nat.le_trans hPI.2.1 hPI.2.2.1
          have HPI := Lib.hid hPI
          obtain ⟨lb, hlb⟩ : ∃ lb, L k = lb := ⟨_, rfl⟩
          rw [hlb] at hcP hrP hlm
          have HLB := Lib.hid hlb
          have HLS := Lib.hid hLs
          have HA := Lib.hid ha
          rw [ha] at g3
          clear ha hlb hPI hLs
          by_cases hl3 : 300 < lb
          · have dl : decide ((300 : Int) < (lb : Int)) = true := decide_eq_true (by omega)
            unfold maxLen at hlm
            go_wp2_with fail
            go_ret
            exact ⟨rfl, hbw⟩
          · have dl : decide ((300 : Int) < (lb : Int)) = false := decide_eq_false (by omega)
            have HSB : Hid (∀ wx, Below pw wp wx → wx.cell? ⟨p3, 0, none⟩ = some (.slice (some ⟨b, off, none⟩) n c) ∧ wx.cell? ⟨b, off + k, none⟩ = some (.slice (A k) lb (C k))) := Lib.hid fun wx hbx => by
              obtain ⟨b2, off2, e2, h2, _⟩ := part_at HC.out.1 (HBP.out.trans (hbx.mono hwpw)) hlt
              rw [HA.out] at e2
              cases e2
              rw [HLB.out] at h2
              exact ⟨by rw [hbx.cell (p := ⟨p3, 0, none⟩) q3, F3.out, HA.out], h2⟩
            have HRW : Hid (∀ wx, Below pw wp wx → Row wx (A k) lb (B k)) := Lib.hid fun wx hbx => by
              obtain ⟨b2, off2, e2, _, h2⟩ := part_at HC.out.1 (HBP.out.trans (hbx.mono hwpw)) hlt
              rw [HLB.out] at h2
              exact h2
            have hlk : (B k).length = lb := by rw [HPI.out.1.1, HLB.out]
            have hslt := Crc.of_lt (B k)
            obtain ⟨S, hS⟩ : ∃ S, Crc.of (B k) = S := ⟨_, rfl⟩
            have HSE := Lib.hid hS
            have hXl : X.length ≤ 308 * k := by
              rw [HX.out]
              exact frames_len B k 0 (fun j _ h2 => by have := HLS.out j (by omega); have := (HC.out.1.2.2.2 j (by omega)).1.1; omega)
            have HFX : Hid ((X ++ [lb, S].flatMap (Crc.les 4)) ++ B k = frames B 0 (k + 1)) := Lib.hid (by
              have h0 := frame_flat (B k) X
              rw [hlk, hS] at h0
              rw [h0, frames_snoc, Nat.zero_add, ← HX.out])
            rw [hS] at hslt
            have hla : lb ≤ maxLen := hlm
            have hbd : Below pw wp wr.drew := hb23.drew
            have hba : ∀ o, Below pw wp (wr.drew.alloc o) := fun o => hbd.alloc hzr o
            have hbb : ∀ o o', Below pw wp ((wr.drew.alloc o).alloc o') := fun o o' => (hba o).alloc (Nat.le_trans hzr (by rw [size_alloc]; exact Nat.le_succ _)) o'
            have hwa : ∀ o o', WR pw ((wr.drew.alloc o).alloc o') pw sv X := fun o o' => wr_keep hw3 (bel_alloc (bel_alloc ((Below.refl _ wr).drew) o) o')
            have hsz : ∀ o o', pw ≤ ((wr.drew.alloc o).alloc o').heap.size := fun o o' => Nat.le_trans hpz (hbb o o').size
            have hrk : ∀ o, RowK .u32 4294967296 ((wr.drew.alloc o).alloc (.cells #[.int .u32 (lb : Int), .int .u32 (S : Int)] 42)) (some ⟨wr.heap.size + 1, 0, none⟩) 2 [lb, S] := fun o => by
              have h0 := rowK_new2 (n := lb) (m := S) (wr.drew.alloc o) 42 (by omega) hslt
              rw [show (wr.drew.alloc o).heap.size = wr.heap.size + 1 from size_alloc wr.drew o] at h0
              exact h0
            have hfar : ∀ q : Addr, some (⟨wr.heap.size + 1, 0, none⟩ : Addr) = some q → q.block ≠ pw ∧ some q.block ≠ sv.ownBlock := fun q hq => by
              cases hq
              refine ⟨by show wr.heap.size + 1 ≠ pw; omega, fun e => ?_⟩
              have := own_base hw3.2.2.1 (wr.heap.size + 1) e.symm
              omega
            have hraU : ∀ o o' w1 sv1, Moved ((wr.drew.alloc o).alloc o') pw sv sv1 w1 → Below pw wp w1 := fun o o' w1 sv1 hm => (hbb o o').trans (hm.below (hwa o o') (hsz o o'))
            have hraR : ∀ w1 sv1 X1 w2 sv2, WR pw w1 pw sv1 X1 → Below pw wp w1 → Moved w1 pw sv1 sv2 w2 → Below pw wp w2 := fun w1 sv1 X1 w2 sv2 hw hb hm => hb.trans (hm.below hw (Nat.le_trans hpz hb.size))
            have hX6 : X.length ≤ 1000000 := by omega
            have hX7 : (X ++ [lb, S].flatMap (Crc.les 4)).length + lb ≤ 140737488355328 := by
              have : ([lb, S].flatMap (Crc.les 4)).length = 8 := by simp [Crc.les_len]
              rw [List.length_append, this]; omega
            have hnil : A k = none → C k = 0 := HPI.out.2.2.2
            have hszw : ∀ w1, Below pw wp w1 → pw ≤ w1.heap.size := fun w1 hb => Nat.le_trans hpz hb.size
            have hmod : (lb : Int) % 4294967296 = (lb : Int) := by omega
            have hwrap : IntKind.u32.wrap (lb : Int) = (lb : Int) := by rw [IntKind.wrap_u32]; exact hmod
            have h2m : (2 : Nat) ≤ 100000 := by omega
            have hff : 0 < 2 → ∀ q : Addr, some (⟨wr.heap.size + 1, 0, none⟩ : Addr) = some q → q.block ≠ pw ∧ some q.block ≠ sv.ownBlock := fun _ => hfar
            clear hS hlk hw3 hb23 hbw hrP hXl hfar HX
            unfold maxLen at hlm
            go_wp2_with fail
            clear g3 hcP
            go_region_held3 (fun w' => w'.cell? ⟨p3, 0, none⟩ = some (.slice (some ⟨b, off, none⟩) n c) ∧ w'.cell? ⟨b, off + k, none⟩ = some (.slice (A k) lb (C k)))
              (first | exact HSB.out _ hbd | exact HSB.out _ (hba _) | exact HSB.out _ (hbb _ _) | exact HSB.out _ hbu | exact HSB.out _ hbr | go_keep)
              (first
                | (go_simp; go_at_call 33; ((with_reducible refine (of_one wr.heap.size 0 1 (A k) lb (C k) (B k) _ ?_ hla ?_).mono ?_)); (· exact cell_new1 _ _ _); (· exact HRW.out _ (hba _)); (rintro e w' ⟨rfl, rfl⟩; rw [HSE.out]))
                | (go_simp; go_at_call 32; ((with_reducible refine (wU32_any pw pw sv X _ ?_ ?_ _ 2 2 [lb, S] ?_ hff h2m hX6).mono ?_)); (· exact hwa _ _); (· exact hsz _ _); (· exact hrk _); (rintro e w5 ⟨rfl, sv5, hw5, hm5⟩; have hbu := hraU _ _ _ _ hm5))
                | (go_simp; go_at_call 26; ((with_reducible refine (raw_any pw pw sv5 _ _ hw5 (hszw _ hbu) (A k) lb (C k) (B k) (HRW.out _ hbu) hnil hX7).mono ?_)); (rintro e w6 ⟨rfl, sv6, hw6, hm6⟩; rw [HFX.out] at hw6; have hbr := hraR _ _ _ _ _ hw5 hbu hm6)))
            have HLN : Hid (∀ i, i < k + 1 → L i ≤ 300) := Lib.hid fun i hi => by
              rcases Nat.lt_or_ge i k with h | h
              · exact HLS.out i h
              · rw [show i = k by omega, HLB.out]; omega
            clear hm6 hm5 hw5 hbu
            go_wp2_with fail
            exact ⟨⟨k + 1, sv6, _, by omega, by go_num, hw6, hbr, Lib.hid rfl, HLN.out⟩, by simp [intOf]; omega⟩
        · obtain rfl : k = n := by omega
          have hXl : X.length ≤ 308 * k := by
            rw [HX.out]
            exact frames_len B k 0 (fun j _ h2 => by have := hLs j (by omega); have := (HC.out.1.2.2.2 j (by omega)).1.1; omega)
          obtain ⟨cS, cN, fS, fN⟩ := two_new wr (.bool true) (.int .i64 0) 4 3
          have hb34 : Below wr.heap.size wr ((wr.alloc (.cells #[.bool true] 4)).alloc (.cells #[.int .i64 0] 3)) := bel_alloc (bel_alloc (Below.refl _ wr) _) _
          have hw4 := wr_keep hw3 hb34
          have hcx : ∀ (p : Nat) (v : Value), p < pw → wp.cell? ⟨p, 0, none⟩ = some v → ((wr.alloc (.cells #[.bool true] 4)).alloc (.cells #[.int .i64 0] 3)).cell? ⟨p, 0, none⟩ = some v := fun p v hp hv => cell_bel hb34 (by rw [hb23.cell (p := ⟨p, 0, none⟩) hp]; exact hv)
          have g3 := hcx p3 _ q3 F3.out
          have g4 := hcx p4 _ q4 F4.out
          have g5 := hcx p5 _ q5 F5.out
          have g6 := hcx p6 _ q6 F6.out
          have hb04 := bel_trans hbw hb34
          have HLS := Lib.hid hLs
          clear hcx hb34 hw3 hb23 hLs
          go_wp2_with fail
          refine (wBytes_any pw pw sv X _ hw4 (by omega)).mono ?_
          intro e w5 h5
          obtain ⟨a5, c5, rfl, hr5, hn5, _, hb45⟩ := retOwn_len h5
          have hv5 : TopV wr.heap.size (wr.heap.size + 1) p3 p4 p5 p6 a k c x y z 0 w5 :=
            ⟨cell_bel hb45 cS, (hb45.frozen (p := ⟨wr.heap.size, 0, none⟩) (World.block_lt_of_cell? _ ⟨wr.heap.size, 0, none⟩ cS)).trans fS, cell_bel hb45 cN, (hb45.frozen (p := ⟨wr.heap.size + 1, 0, none⟩) (World.block_lt_of_cell? _ ⟨wr.heap.size + 1, 0, none⟩ cN)).trans fN, cell_bel hb45 g3, cell_bel hb45 g4, cell_bel hb45 g5, cell_bel hb45 g6⟩
          have hb05 := bel_trans hb04 hb45
          have hlt5 : wr.heap.size + 1 < w5.heap.size := World.block_lt_of_cell? w5 ⟨wr.heap.size + 1, 0, none⟩ hv5.c2
          have hX5 : X.length ≤ 100000 := by omega
          clear h5 hb45 cS cN fS fN g3 g4 g5 g6 hw4 hb04 hXl
          have hmf : ∀ (fn : Fn) (first cap : Array Value) (w : World), (Instr.makeFunc fn first cap).run Try.prog w = .ok (.func fn first cap) w := fun _ _ _ _ => rfl
          go_wp2_with fail
          have hcall : ∀ (args : Array Value) (wx : World), (callFunc 34 args).run Try.prog wx = .ok (.enter 34 args) wx := fun args wx => by simp [go_sem]
          have hby : ByOk 34 #[.pointer (some ⟨wr.heap.size, 0, none⟩), .pointer (some ⟨wr.heap.size + 1, 0, none⟩), .pointer (some ⟨p3, 0, none⟩), .pointer (some ⟨p4, 0, none⟩), .pointer (some ⟨p6, 0, none⟩), .pointer (some ⟨p5, 0, none⟩)] X w5 (fun W' => Below w.heap.size w W' ∧ W'.cell? ⟨wr.heap.size, 0, none⟩ = some (.bool true) ∧ W'.cell? ⟨wr.heap.size + 1, 0, none⟩ = some (.int .i64 (k : Int)) ∧ W'.cell? ⟨p3, 0, none⟩ = some (.slice a k c)) := by
            intro W pr pg ra rc hrd hb hpr
            have hx := HX.out
            rw [hx] at hrd
            refine (topBy wr.heap.size (wr.heap.size + 1) p3 p4 p5 p6 a k c A L C B x y z w w5 W pr pg rc ra HC.out.1 HC.out.2.1 HC.out.2.2.1 (by omega) HLS.out HC.out.2.2.2.1 HC.out.2.2.2.2.1 HC.out.2.2.2.2.2 hrd ⟨m3, m4, m5, m6, by omega, by omega, by omega, by omega, rfl, hlt5, hpr⟩ hb05 hb hv5).mono ?_
            rintro e W' ⟨h1, h2, h3, h4, h5, h6⟩
            exact ⟨h1, h2, h3, h4, h5, h6⟩
          have hrok := read_ok a5 X.length c5 X _ _ _ _ hr5 hn5 hX5 hcall hby
          with_reducible refine hrok.mono ?_
          rintro e w7 ⟨rfl, W2, ⟨hq1, hq2, hq3, hq4⟩, hb57, _⟩
          have hb07 : Below w.heap.size w w7 := hq1.trans (hb57.mono hb05.size)
          have cS7 : w7.cell? ⟨wr.heap.size, 0, none⟩ = some (.bool true) := by rw [hb57.cell (p := ⟨wr.heap.size, 0, none⟩) (by show wr.heap.size < _; omega)]; exact hq2
          have cN7 : w7.cell? ⟨wr.heap.size + 1, 0, none⟩ = some (.int .i64 (k : Int)) := by rw [hb57.cell (p := ⟨wr.heap.size + 1, 0, none⟩) hlt5]; exact hq3
          have cP7 : w7.cell? ⟨p3, 0, none⟩ = some (.slice a k c) := by rw [hb57.cell (p := ⟨p3, 0, none⟩) (by show p3 < _; omega)]; exact hq4
          clear hrok hby hcall hq1 hq2 hq3 hq4 hb57 hv5 hr5
          go_wp2
          go_ret
          exact ⟨rfl, hb07⟩

end Go.Proofs.Ytejhdafipjajnaa
