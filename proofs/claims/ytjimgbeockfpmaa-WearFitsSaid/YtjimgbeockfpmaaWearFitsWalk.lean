/- WearFits: walked. -/
import Derived.Test.YtjimgbeockfpmaaWearC
namespace Go.Proofs.Ytjimgbeockfpmaa
open Go.RowKit

theorem victim_cases {G : List SegV} {len : Nat} {r : Int} (hl : G.length = len) (h : VictimIs G r) :
    (r = -1 ∧ ∀ j, j < len → (G.getD j SegV.nil).k ≠ 2) ∨ ∃ m : Nat, m < len ∧ r = (m : Int) ∧ (G.getD m SegV.nil).k = 2 ∧ (∀ j, j < len → (G.getD j SegV.nil).k = 2 → (8 < spreadE G → ¬ (G.getD j SegV.nil).e < (G.getD m SegV.nil).e) ∧ (¬ 8 < spreadE G → ¬ (G.getD j SegV.nil).l < (G.getD m SegV.nil).l)) := by
  unfold VictimIs at h
  rw [hl] at h
  split at h
  · rename_i hs
    rcases h with h | ⟨m, h1, h2, h3, h4⟩
    · exact .inl h
    · refine .inr ⟨m, h1, h2, h3, fun j hj hk => ⟨fun _ => ?_, fun q => absurd hs q⟩⟩
      have := (h4 j hj hk).1
      rw [ordE_lt] at this
      omega
  · rename_i hs
    rcases h with h | ⟨m, h1, h2, h3, h4⟩
    · exact .inl h
    · refine .inr ⟨m, h1, h2, h3, fun j hj hk => ⟨fun q => absurd q hs, fun _ => ?_⟩⟩
      have := (h4 j hj hk).1
      rw [ordV_lt] at this
      omega
theorem cntK_none {K : Int} {G : List SegV} : ∀ {k : Nat}, (∀ j, j < k → (G.getD j SegV.nil).k ≠ K) → cntK K G k = 0
  | 0, _ => rfl
  | k + 1, h => by
    have h1 := cntK_none (k := k) (fun j hj => h j (by omega))
    have h2 := h k (by omega)
    unfold cntK
    rw [h1, if_neg h2]
theorem wearFits_big (a : Option Addr) (len cap : Nat) (w : World) (hl : 100 < len) :
    Calls Try.prog 6 #[.slice a len cap] w fun e w' => e = .returned (.bool true) ∧ Below w.heap.size w w' := by
  have t1 : decide ((100 : Int) < (len : Int)) = true := by simp; omega
  have t2 : decide (100 < len) = true := by simpa using hl
  go_enter Try.func6, Try.ntmps6
  go_wp2_with fail
  refine (chosen_any w).mono ?_
  rintro e w1 ⟨rfl, hb1⟩
  go_wp2_with fail
  refine (chosen_any w1).mono ?_
  rintro e w2 ⟨rfl, hb2⟩
  go_wp2_with fail
  go_ret
  exact ⟨rfl, wbel_trans hb1 hb2⟩
set_option maxHeartbeats 2000000 in
theorem wearFits_small (a : Option Addr) (len cap : Nat) (G : List SegV) (w : World) (hr : RowG w a len G) (hlc : len ≤ cap) (hcm : cap ≤ maxLen) (hl : ¬ 100 < len) :
    Calls Try.prog 6 #[.slice a len cap] w fun e w' => e = .returned (.bool true) ∧ Below w.heap.size w w' := by
  have t1 : decide ((100 : Int) < (len : Int)) = false := by simp; omega
  have t2 : decide (100 < len) = false := by simpa using hl
  have hlen := hr.1
  go_enter Try.func6, Try.ntmps6
  go_wp2_with fail
  refine (chosen_any w).mono ?_
  rintro e w1 ⟨rfl, hb1⟩
  go_wp2_with fail
  refine (victim_any a len cap G w1 (hr.step hb1) hlc hcm).mono ?_
  rintro e w2 ⟨r, rfl, hv, hb2⟩
  have hb := wbel_trans hb1 hb2
  have hr2 := hr.step hb
  clear hb1 hb2 hr
  rcases victim_cases hlen hv with ⟨rfl, hno⟩ | ⟨m, hm, rfl, hmk, hmj⟩
  · have hz := cntK_none hno
    clear hno hv
    go_wp2_with fail
    refine (count_any a len cap G 2 w2 hr2 hlc hcm).mono ?_
    rintro e w3 ⟨rfl, hb3⟩
    rw [hz]
    go_wp2_with fail
    go_ret
    exact ⟨rfl, wbel_trans hb hb3⟩
  · obtain ⟨b, off, rfl, hbs, hc⟩ := rowG_at hr2 hm
    obtain ⟨c0, c1, c2⟩ := hc m hm
    obtain ⟨z0, z1, z2⟩ := hc 0 (by omega)
    rw [Nat.zero_mul, Nat.add_zero] at z0 z1 z2
    have HC := Lib.hid hc
    have HR := Lib.hid hr2
    have HM := Lib.hid hmj
    have HB := Lib.hid hb
    clear hv hc hr2 hmj hb
    obtain ⟨g, hg⟩ : ∃ g, g = G.getD m SegV.nil := ⟨_, rfl⟩
    rw [← hg] at c0 c1 c2 hmk HM
    rw [hmk] at c0
    have HG := Lib.hid hg
    obtain ⟨z, hz⟩ : ∃ g, g = G.getD 0 SegV.nil := ⟨_, rfl⟩
    rw [← hz] at z0 z1 z2
    have hl0 : leE G 0 = z.e := by rw [hz]; rfl
    have hm0 : moE G 0 = z.e := by rw [hz]; rfl
    have HL0 := Lib.hid (And.intro hl0 hm0)
    clear hg hz hl0 hm0
    have i1 : ((m : Int) < 0) = False := by simp
    have i2 : decide ((len : Int) ≤ (m : Int)) = false := by simp; omega
    have i3 : decide (len ≤ m) = false := by simp; omega
    have i4 : (0 : Int) < (len : Int) := by omega
    have i5 : (m : Int) < (len : Int) := by omega
    have i6 : (0 : Int) ≤ (m : Int) := by omega
    go_upto_region 8 with fail
    go_region
    go_wp2_with fail
    go_loopw [6, 4, 5] (fun i t u wr => ∃ (k : Nat), k ≤ len ∧ i = .int .i64 (k : Int) ∧ t = .int .u32 (leE G k : Int) ∧ u = .int .u32 (moE G k : Int) ∧ Below w2.heap.size w2 wr) (fun i _ _ _ => len - (intOf i).toNat)
    case atStart => exact ⟨0, Nat.zero_le _, rfl, by rw [HL0.out.1], by rw [HL0.out.2], (Below.refl _ _).drew⟩
    case round =>
      obtain ⟨k, hk, rfl, rfl, rfl, hB⟩ := hrel
      have HBk := Lib.hid hB
      clear hB c0 c1 c2 z0 z1 z2
      by_cases hlt : k < len
      · have t3 : decide (k < len) = true := by simpa using hlt
        obtain ⟨c0, c1, c2⟩ := HC.out k hlt
        replace c0 := wcell_step c0 HBk.out
        replace c1 := wcell_step c1 HBk.out
        replace c2 := wcell_step c2 HBk.out
        obtain ⟨g', hg'⟩ : ∃ g, g = G.getD k SegV.nil := ⟨_, rfl⟩
        rw [← hg'] at c0 c1 c2
        have HG' := Lib.hid hg'
        clear hg'
        have hk0 : (0 : Int) ≤ (k : Int) := by omega
        have hk1 : (k : Int) < (len : Int) := by omega
        go_upto_region 12 with fail
        go_region
        have HBn : Hid (Below w2.heap.size w2 wr.drew) := Lib.hid HBk.out.drew
        have y1 : (if g'.e < leE G k then (g'.e : Int) else (leE G k : Int)) = (leE G (k + 1) : Int) := by
          rw [HG'.out]; show _ = ((min (leE G k) (G.getD k SegV.nil).e : Nat) : Int)
          split <;> omega
        have y2 : (if moE G k < g'.e then (g'.e : Int) else (moE G k : Int)) = (moE G (k + 1) : Int) := by
          rw [HG'.out]; show _ = ((max (moE G k) (G.getD k SegV.nil).e : Nat) : Int)
          split <;> omega
        rw [y1, y2]
        clear y1 y2 c0 c1 c2
        go_wp2_with fail
        go_roundw
        case rel => exact ⟨k + 1, by omega, by go_num, rfl, rfl, HBn.out⟩
        case measure => simp [intOf]; omega
      · obtain rfl : k = len := by omega
        have t3 : decide (k < k) = false := by simp
        obtain ⟨sp, hsp⟩ : ∃ s, s = spreadE G := ⟨_, rfl⟩
        have hw : IntKind.u32.wrap ((moE G k : Int) - (leE G k : Int)) = (sp : Int) := by
          have h1 := leE_le_moE G k
          have h2 := moE_lt HR.out.2.1 k
          rw [show (moE G k : Int) - (leE G k : Int) = ((moE G k - leE G k : Nat) : Int) by omega, hsp]
          unfold spreadE
          rw [if_neg (by omega), hlen]
          exact wrap_u32n _ (by omega)
        rw [← hsp] at HM
        clear hsp
        obtain ⟨le, hle⟩ : ∃ x, x = leE G k := ⟨_, rfl⟩
        obtain ⟨mo, hmo⟩ : ∃ x, x = moE G k := ⟨_, rfl⟩
        rw [← hle, ← hmo] at hw
        rw [← hle, ← hmo]
        clear hle hmo HL0 HR
        have HC2 : Hid (∀ i, i < k → wr.cell? ⟨b, off + i * 3, none⟩ = some (.int .i64 (G.getD i SegV.nil).k) ∧ wr.cell? ⟨b, off + i * 3 + 1, none⟩ = some (.int .i64 (G.getD i SegV.nil).l) ∧ wr.cell? ⟨b, off + i * 3 + 2, none⟩ = some (.int .u32 ((G.getD i SegV.nil).e : Int))) := Lib.hid fun i hi => ⟨wcell_step (HC.out i hi).1 HBk.out, wcell_step (HC.out i hi).2.1 HBk.out, wcell_step (HC.out i hi).2.2 HBk.out⟩
        have HB3 : Hid (Below w.heap.size w wr) := Lib.hid (wbel_trans HB.out HBk.out)
        clear HC HB HBk
        rename World => wy
        go_wp2_with fail
        go_loopw [7] (fun i wx => ∃ (k' : Nat), k' ≤ k ∧ i = .int .i64 (k' : Int) ∧ Below wy.heap.size wy wx) (fun i _ => k - (intOf i).toNat)
        case atStart => exact ⟨0, Nat.zero_le _, rfl, Below.refl _ _⟩
        case round =>
          obtain ⟨j, hj, rfl, hB⟩ := hrel
          have HBj := Lib.hid hB
          clear hB
          by_cases hlt2 : j < k
          · have t4 : decide (j < k) = true := by simpa using hlt2
            obtain ⟨c0, c1, c2⟩ := HC2.out j hlt2
            obtain ⟨d0, d1, d2⟩ := HC2.out m hm
            have hMj := HM.out j hlt2
            rw [← HG.out] at d0 d1 d2
            obtain ⟨s, hs⟩ : ∃ s, s = G.getD j SegV.nil := ⟨_, rfl⟩
            rw [← hs] at c0 c1 c2 hMj
            clear hs
            have j0 : (0 : Int) ≤ (j : Int) := by omega
            have j1 : (j : Int) < (k : Int) := by omega
            have x0 := wcell_step c0 HBj.out
            by_cases hK : s.k = 2
            · have t5 : (s.k == 2) = true := by simpa using hK
              have hMk := hMj hK
              rw [hK] at x0
              go_upto_region 17 with fail
              obtain ⟨S, hSd⟩ : ∃ S : World → Prop, (∀ x, S x → Below wy.heap.size wy x) ∧ (∀ x, Below wy.heap.size wy x → S x) := ⟨_, fun _ h => h, fun _ h => h⟩
              have hS0 : S wr.drew := hSd.2 _ HBj.out.drew
              haveI hne : Nonempty (Wd S) := ⟨⟨_, hS0⟩⟩
              have HS := Lib.hid hSd
              clear hSd
              have f1 : ∀ y : Wd S, y.w.cell? ⟨b, off + j * 3 + 1, none⟩ = some (.int .i64 s.l) := fun y => wcell_step c1 (HS.out.1 _ y.ok)
              have f2 : ∀ y : Wd S, y.w.cell? ⟨b, off + j * 3 + 2, none⟩ = some (.int .u32 (s.e : Int)) := fun y => wcell_step c2 (HS.out.1 _ y.ok)
              have f3 : ∀ y : Wd S, y.w.cell? ⟨b, off + m * 3 + 1, none⟩ = some (.int .i64 g.l) := fun y => wcell_step d1 (HS.out.1 _ y.ok)
              have f4 : ∀ y : Wd S, y.w.cell? ⟨b, off + m * 3 + 2, none⟩ = some (.int .u32 (g.e : Int)) := fun y => wcell_step d2 (HS.out.1 _ y.ok)
              clear c0 c1 c2 d0 d1 d2 x0 hMj
              by_cases hsp : 8 < sp
              · have t6 : decide ((8 : Int) < (sp : Int)) = true := by simp; omega
                have t7 : decide ((sp : Int) ≤ 8) = false := by simp; omega
                have t8 : decide (s.e < g.e) = false := by simpa using hMk.1 hsp
                clear hMk hsp
                refine wp_region_wd S (by kernel_rfl) (by kernel_rfl) hS0 ?_
                repeat (go_big_quiet_step (fail))
                refine wpQuiet_nil ?_
                intro _ hw'
                obtain ⟨y, rfl⟩ := hw'
                have hBy := HS.out.1 _ y.ok
                go_wp2_with fail
                go_roundw
                case rel => exact ⟨j + 1, by omega, by go_num, hBy⟩
                case measure => simp [intOf]; omega
              · have t6 : decide ((8 : Int) < (sp : Int)) = false := by simp; omega
                have t7 : decide ((sp : Int) ≤ 8) = true := by simp; omega
                have t8 : decide (s.l < g.l) = false := by simpa using hMk.2 hsp
                clear hMk hsp
                refine wp_region_wd S (by kernel_rfl) (by kernel_rfl) hS0 ?_
                repeat (go_big_quiet_step (fail))
                refine wpQuiet_nil ?_
                intro _ hw'
                obtain ⟨y, rfl⟩ := hw'
                have hBy := HS.out.1 _ y.ok
                go_wp2_with fail
                go_roundw
                case rel => exact ⟨j + 1, by omega, by go_num, hBy⟩
                case measure => simp [intOf]; omega
            · have t5 : (s.k == 2) = false := by simpa using hK
              go_wp2_with fail
              go_roundw
              case rel => exact ⟨j + 1, by omega, by go_num, HBj.out⟩
              case measure => simp [intOf]; omega
          · obtain rfl : j = k := by omega
            have t4 : decide (j < j) = false := by simp
            go_wp2_with fail
            go_ret
            exact ⟨rfl, wbel_trans HB3.out HBj.out⟩
theorem wearFits_all (a : Option Addr) (len cap : Nat) (G : List SegV) (w : World) (hr : RowG w a len G ∧ len ≤ cap ∧ cap ≤ maxLen) :
    Calls Try.prog 6 #[.slice a len cap] w fun e w' => e = .returned (.bool true) ∧ Below w.heap.size w w' := by
  by_cases h : 100 < len
  · exact wearFits_big a len cap w h
  · exact wearFits_small a len cap G w hr.1 hr.2.1 hr.2.2 h
end Go.Proofs.Ytjimgbeockfpmaa
