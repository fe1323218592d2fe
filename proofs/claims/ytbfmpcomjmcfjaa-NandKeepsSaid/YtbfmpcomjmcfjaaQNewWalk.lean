/- gabionref04.New, where no block is bad. -/
import Derived.Test.YtbfmpcomjmcfjaaQMade
namespace Go.Proofs.Ytbfmpcomjmcfjaa
open Go.RowKit Go.Deep

theorem info_blks : (Try.prog.info? 55).map (fun i => (i.zero, i.size, i.bytes)) = some (some (.slice none 0 0), 1, 24) := by kernel_rfl
theorem info_bool : (Try.prog.info? 4).map (fun i => (i.zero, i.size, i.bytes)) = some (some (.bool false), 1, 1) := by kernel_rfl
theorem news_at (w : World) (l : List Value) (t : TypeId) {n : Nat} (hn : n = w.heap.size) (j : Nat) (u : Value) (h : l[j]? = some u) : (w.alloc (.cells l.toArray t)).cell? ((⟨n, 0, none⟩ : Addr).add j) = some u := by
  subst hn
  have e : (⟨w.heap.size, 0, none⟩ : Addr).add j = ⟨w.heap.size, j, none⟩ := by
    unfold Addr.add
    split
    · rename_i q; subst q; rfl
    · simp
  rw [e, World.cell?_alloc_new]
  simpa using h
def QNewRet (g0 g1 g2 g3 : Nat) (E : Nat → NE) (ev : Value) (w : World) (e : Ending) (w' : World) : Prop :=
  ∃ tag L, e = .returned (.pointer (some ⟨L.pa, 0, none⟩)) ∧ L.ev = ev ∧ QA w.heap.size tag L (NS.fresh g0 g1 g2 g3 E) w' ∧ Below w.heap.size w w'
set_option maxRecDepth 100000 in
set_option maxHeartbeats 6400000 in
theorem qnew_any (g0 g1 g2 g3 : Nat) (ea : Option Addr) (en ec : Nat) (E : Nat → NE) (w : World) (hg : GoodG g0 g1 g2 g3) :
    Calls Try.prog 21 #[.int .i64 (g0 : Int), .int .i64 (g1 : Int), .int .i64 (g2 : Int), .int .i64 (g3 : Int), .slice none 0 0, .slice ea en ec] w (QNewRet g0 g1 g2 g3 E (.slice ea en ec) w) := by
  obtain ⟨iB, hiB, hzB, hsB, hbB⟩ := info_parts info_blk
  obtain ⟨iL, hiL, hzL, hsL, hbL⟩ := info_parts info_blks
  obtain ⟨iG, hiG, hzG, hsG, hbG⟩ := info_parts info_bool
  obtain ⟨iR, hiR, hzR, hsR, hbR⟩ := info_parts info_row
  obtain ⟨x1, x2, x3, x4, x5, x6, x7, x8, x9⟩ := hg
  have hmk : ∀ w, (Instr.makeSlice 52 (.int .i64 (g2 : Int)) (.int .i64 (g2 : Int))).run Try.prog w = .ok (.slice (some ⟨w.heap.size, 0, none⟩) g2 g2) (w.alloc (.cells (madeCells #[Value.slice none 0 0] g2) 57)) := fun w => run_make_row 52 57 iR _ Try.underlying52 hiR hzR hsR rfl .i64 .i64 g2 (by rw [hbR]; omega) (by omega) w
  have HSH := Lib.hid (show Shape (NS.fresh g0 g1 g2 g3 E) from ⟨by show 3 ≤ g0; omega, by show g0 ≤ 16; omega, by show 16 ≤ g1; omega, by show g1 ≤ 64; omega, by show 4 ≤ g2; omega, by show g2 ≤ 32; omega, by show 256 ≤ g3; omega, by show g3 ≤ 1024; omega⟩)
  have b0 : (g0 : Int) ≤ 16 := x2
  have b1 : (g1 : Int) ≤ 64 := x4
  have HB1 := Lib.hid (show 16 ≤ g1 ∧ g1 ≤ 64 by omega)
  have HB2 := Lib.hid (show g2 ≤ 32 by omega)
  have HST := Lib.hid (heap_alloc_new w (.cells #[.int .i64 (g0 : Int), .int .i64 (g1 : Int), .int .i64 (g2 : Int), .int .i64 (g3 : Int), .slice none 0 0, .slice none 0 0, .slice ea en ec, .int .i64 0, .bool false] 48))
  have HB0 := Lib.hid (bel_alloc (Below.refl _ w) (.cells #[.int .i64 (g0 : Int), .int .i64 (g1 : Int), .int .i64 (g2 : Int), .int .i64 (g3 : Int), .slice none 0 0, .slice none 0 0, .slice ea en ec, .int .i64 0, .bool false] 48))
  clear x1 x2 x3 x4 x5 x6 x7 x8 x9 hzR hsR hbR hiR
  have HMK := Lib.hid hmk
  have HIB := Lib.hid (And.intro hiB (And.intro hzB (And.intro hsB hbB)))
  have HIL := Lib.hid (And.intro hiL (And.intro hzL (And.intro hsL hbL)))
  have HIG := Lib.hid (And.intro hiG (And.intro hzG (And.intro hsG hbG)))
  clear hmk hiB hzB hsB hbB hiL hzL hsL hbL hiG hzG hsG hbG
  go_enter Try.func21, Try.ntmps21
  go_wp2_with fail
  go_loopw [14] (fun i wr => ∃ (k : Nat) (Lv Gv : Value) (lo hi bb bc : Nat → Nat) (pb : Nat → Nat → Nat), k ≤ g0 + 1 ∧ i = .int .i64 (k : Int) ∧ OutI w.heap.size k k g0 g1 g2 g3 (.slice ea en ec) Lv Gv lo hi bb bc pb wr ∧ Below w.heap.size w wr) (fun i _ => g0 + 1 - (intOf i).toNat)
  case atStart => exact ⟨0, .slice none 0 0, .slice none 0 0, fun _ => 0, fun _ => 0, fun _ => 0, fun _ => 0, fun _ _ => 0, Nat.zero_le _, rfl, ⟨HST.out, World.ownsRow_nil _ _ _ _, World.ownsRow_nil _ _ _ _, .inl rfl, fun i h => by omega, fun i i' _ h => by omega, fun i h => by omega, fun i h => by omega⟩, HB0.out⟩
  case round =>
    obtain ⟨k, Lv, Gv, lo, hi, bb, bc, pb, hk, rfl, ho, hbel⟩ := hrel
    obtain ⟨wo, hwo⟩ : ∃ wo : World, wo = wr := ⟨_, rfl⟩
    subst hwo
    by_cases hlt : k ≤ g0
    · have d1 : decide (k ≤ g0) = true := decide_eq_true hlt
      have HO := Lib.hid ho
      have HBE := Lib.hid hbel
      have HLT := Lib.hid hlt
      clear ho hbel hlt
      go_wp2_with fail
      go_loopw [15, 16] (fun l i' wr' => ∃ (j : Nat) (pj : Nat → Nat), j ≤ g1 ∧ i' = .int .i64 (j : Int) ∧ RowI wo.heap.size g2 j l pj wr' ∧ Below wo.heap.size wo wr') (fun _ i' _ => g1 - (intOf i').toNat)
      case atStart => exact ⟨0, fun _ => 0, Nat.zero_le _, rfl, ⟨World.ownsRow_nil _ _ _ _, fun j h => by omega, fun j j' _ h => by omega⟩, Below.refl _ _⟩
      case round =>
        obtain ⟨j, pj, hj, rfl, hri, hbi⟩ := hrel
        obtain ⟨wi, hwi⟩ : ∃ wi : World, wi = wr := ⟨_, rfl⟩
        subst hwi
        by_cases hjl : j < g1
        · have d2 : decide (j < g1) = true := decide_eq_true hjl
          have hmkw := HMK.out wi
          obtain ⟨hiB, hzB, hsB, hbB⟩ := HIB.out
          have hown := (hri.1.alloc (.cells (madeCells #[Value.slice none 0 0] g2) 57)).alloc (.cells (blkCells wi.heap.size g2).toArray 54)
          have hnw := news_at (wi.alloc (.cells (madeCells #[Value.slice none 0 0] g2) 57)) (blkCells wi.heap.size g2) 54 (n := wi.heap.size + 1) (by simp)
          have hzz : wo.heap.size ≤ ((wi.alloc (.cells (madeCells #[Value.slice none 0 0] g2) 57)).alloc (.cells (blkCells wi.heap.size g2).toArray 54)).heap.size := by have := hbi.size; simp; omega
          have HRI := Lib.hid hri
          have HBI := Lib.hid hbi
          have HJ := Lib.hid hjl
          clear hri hbi hjl
          unfold blkCells at hown hnw hzz
          go_wp2_with (at_builtin; refine wpList_append_own_at _ rfl _ _ 55 rfl wo.heap.size 54 iB _ 4 48 Try.underlying55 hiB hzB hsB hbB rfl (by decide) _ _ _ rfl hown ⟨wi.heap.size + 1, 0, none⟩ 1 1 (blkCells wi.heap.size g2) rfl rfl hnw ?q1 ?q2 ?q3 hzz ?_)
          case q1 => intro u hu; simp [blkCells] at hu; rcases hu with rfl | rfl | rfl <;> rfl
          case q2 => have := HB1.out; have := HJ.out; unfold maxLen; omega
          case q3 => have := HB1.out; have := HJ.out; omega
          intro v' w' ho' hg' _ hv'
          have HS := Lib.hid (rowI_step HRI.out HBI.out.size rfl ho' hg' (hv'.imp id fun q => q.trans (by simp)))
          have HNX : Hid (∃ g c, v' = .slice (some ⟨g, 0, none⟩) (j + 1) c) := Lib.hid (by obtain ⟨g, c, e, _⟩ := owns_head ho' (by omega); exact ⟨g, c, e⟩)
          clear ho' hg' hv' hown hnw hzz hmkw hiB hzB hsB hbB
          go_wp2
          go_roundw
          case rel => exact ⟨j + 1, _, HJ.out, by go_num, HS.out.1, HBI.out.trans HS.out.2⟩
          case measure => have := HJ.out; simp [intOf]; omega
        · obtain rfl : j = g1 := by omega
          have d2 : decide (j < j) = false := by simp
          obtain ⟨bb1, bc1, rfl, hca, hcc1, hcc2⟩ := chipAt_of hri (by have := HB1.out; omega)
          have HCA := Lib.hid (And.intro hca (And.intro hcc1 hcc2))
          have HBI := Lib.hid hbi
          have hst := HO.out.st
          have hpl := HO.out.palt
          have c4 : wi.cell? ⟨w.heap.size, 4, none⟩ = some Lv := by rw [World.cell?_of_block (w := wo) (hbi.block _ hpl)]; simp [World.cell?, hst]
          have hown := (owns_below HO.out.rl hbi).alloc (.cells #[.slice (some ⟨bb1, 0, none⟩) j bc1] 55)
          obtain ⟨hiL, hzL, hsL, hbL⟩ := HIL.out
          have hnw := news_at wi [.slice (some ⟨bb1, 0, none⟩) j bc1] 55 rfl
          have hzz : w.heap.size + 1 ≤ (wi.alloc (.cells #[.slice (some ⟨bb1, 0, none⟩) j bc1] 55)).heap.size := by have := hbi.size; simp; omega
          clear hri hbi hca hcc1 hcc2 hst hpl
          go_wp2_with (at_builtin; refine wpList_append_own_at _ rfl (.tmp 45) (.tmp 47) 45 rfl (w.heap.size + 1) 55 iL _ 1 24 Try.underlying45 hiL hzL hsL hbL rfl (by decide) _ _ _ rfl hown ⟨wi.heap.size, 0, none⟩ 1 1 [.slice (some ⟨bb1, 0, none⟩) j bc1] rfl rfl hnw ?r1 ?r2 ?r3 hzz ?_)
          case r1 => intro u hu; simp at hu; subst hu; rfl
          case r2 => have := HLT.out; unfold maxLen; omega
          case r3 => have := HLT.out; omega
          intro v' w' ho' hg' _ hv'
          obtain ⟨gL, cL, rfl, _⟩ := owns_head ho' (by omega)
          have HS := Lib.hid (outL HO.out HBI.out HCA.out.1 HCA.out.2 rfl ho' hg' (hv'.imp id fun q => q.trans (by simp)))
          have h4 := HS.out.1.st
          have hfr : w'.frozen? ⟨w.heap.size, 4, none⟩ = false := by have := four_free h4 4; rwa [World.frozen?_setCell] at this
          have hown5 := HS.out.1.rg.alloc (.cells #[.bool false] 4)
          have c5 : (w'.setCell ⟨w.heap.size, 4, none⟩ (.slice (some ⟨gL, 0, none⟩) (k + 1) cL)).cell? ⟨w.heap.size, 5, none⟩ = some Gv := by simp [World.cell?, h4]
          have f5 := four_free h4 5
          obtain ⟨hiG, hzG, hsG, hbG⟩ := HIG.out
          have hu4 := HS.out.2.2
          have hnw5 := news_at (w'.setCell ⟨w.heap.size, 4, none⟩ (.slice (some ⟨gL, 0, none⟩) (k + 1) cL)) [.bool false] 4 (n := w'.heap.size) (by simp)
          have hzz5 : w.heap.size + 1 ≤ ((w'.setCell ⟨w.heap.size, 4, none⟩ (.slice (some ⟨gL, 0, none⟩) (k + 1) cL)).alloc (.cells #[.bool false] 4)).heap.size := by have h1 := HS.out.1.palt; simp at h1; simp; omega
          clear ho' hg' hv' hown hnw hzz h4 hiL hzL hsL hbL
          go_wp2_with (at_builtin; refine wpList_append_own_at _ rfl (.tmp 55) (.tmp 56) 46 rfl (w.heap.size + 1) 4 iG _ 1 1 Try.underlying46 hiG hzG hsG hbG rfl (by decide) _ _ _ rfl hown5 ⟨w'.heap.size, 0, none⟩ 1 1 [.bool false] rfl rfl hnw5 ?s1 ?s2 ?s3 hzz5 ?_)
          case s1 => intro u hu; simp at hu; subst hu; rfl
          case s2 => have := HLT.out; unfold maxLen; omega
          case s3 => have := HLT.out; omega
          intro v6 w6 ho6 hg6 _ hv6
          obtain ⟨gG, cG, rfl, _⟩ := owns_head ho6 (by omega)
          have HS6 := Lib.hid (outG HS.out.1 rfl ho6 hg6 (hv6.imp id fun q => q.trans (by simp)))
          have hu5 := HS6.out.2.2
          have f6 : w6.frozen? ⟨w.heap.size, 5, none⟩ = false := by have := four_free HS6.out.1.st 5; rwa [World.frozen?_setCell] at this
          have HFIN : Hid (Below w.heap.size w (w6.setCell ⟨w.heap.size, 5, none⟩ (.slice (some ⟨gG, 0, none⟩) (k + 1) cG))) := Lib.hid (by
            have b1 : Below w.heap.size w wi := HBE.out.trans (HBI.out.mono HBE.out.size)
            have b2 : Below w.heap.size w w' := b1.trans (HS.out.2.1.mono (by omega))
            have b3 := b2.setCell (p := ⟨w.heap.size, 4, none⟩) (Nat.le_refl _) (.slice (some ⟨gL, 0, none⟩) (k + 1) cL)
            exact (b3.trans (HS6.out.2.1.mono (by omega))).setCell (p := ⟨w.heap.size, 5, none⟩) (Nat.le_refl _) _)
          clear ho6 hg6 hv6 hown5 hnw5 hzz5 hiG hzG hsG hbG c5 f5 hu4 hfr c4
          go_wp2
          go_roundw
          case rel => exact ⟨k + 1, _, _, _, _, _, _, _, by have := HLT.out; omega, by go_num, HS6.out.1, HFIN.out⟩
          case measure => have := HLT.out; simp [intOf]; omega
    · obtain rfl : k = g0 + 1 := by omega
      have HQ := Lib.hid (q_made (E := E) ho (Nat.le_refl _) HSH.out)
      have HBE := Lib.hid hbel
      have d1 : decide ((g0 : Int) + 1 ≤ (g0 : Int)) = false := decide_eq_false (by omega)
      clear ho hbel
      go_wp2_with fail
      go_loop [17] (fun i => i = .int .i64 0) (fun _ => 0)
      case atStart => rfl
      case round =>
        subst hrel
        go_wp2
        go_ret
        obtain ⟨tag, L, e1, e2, hq⟩ := HQ.out
        exact ⟨tag, L, by rw [e1]; rfl, e2, hq, HBE.out⟩

end Go.Proofs.Ytbfmpcomjmcfjaa
