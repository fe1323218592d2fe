/- slices.symMergeCmpFunc over strings: one element on the right. -/
import Derived.Test.YtdpkinppkhnjkaaSrtIns
import Derived.Test.YtdpkinppkhnjkaaSrtM
namespace Go.Proofs.Ytdpkinppkhnjkaa
open Go.RowKit

set_option maxRecDepth 100000 in
set_option maxHeartbeats 8000000 in
theorem symB_any (g N C : Nat) (f : Seq') (a m b : Nat) (w : World) (h : SqAt g N f w) (h1 : a + 1 < m) (hb1 : b = m + 1) (h2 : b ≤ N) (h3 : N ≤ 1000000) (hz : ∀ k, a ≤ k → k < b → (f k).size ≤ 70368744177664) (hsr : Srt f a m) :
    Calls Try.prog 23 #[.slice (some ⟨g, 0, none⟩) N C, .int .i64 (a : Int), .int .i64 (m : Int), .int .i64 (b : Int), .func (Fn.func 14) #[] #[]] w fun e w' => e = .returned (.tuple #[]) ∧ (∃ f', SqAt g N f' w' ∧ Prm a b f f' ∧ Srt f' a b) ∧ Below g w w' := by
  have H := Lib.hid h
  have HZ := Lib.hid hz
  have HSR := Lib.hid hsr
  have hcall : ∀ (args : Array Value) (wx : World), (callFunc 14 args).run Try.prog wx = .ok (.enter 14 args) wx := fun _ _ => rfl
  obtain ⟨d, hd⟩ : ∃ i, m - a = i := ⟨_, rfl⟩
  have e0 : (m : Int) - (a : Int) = (d : Int) := by omega
  have u0 : IntKind.i64.wrap (d : Int) = (d : Int) := by rw [IntKind.wrap_i64]; omega
  have t0 : ((d : Int) == 1) = false := by rw [beq_eq_false_iff_ne]; omega
  have t0' : (d == 1) = false := by rw [beq_eq_false_iff_ne]; omega
  have e1 : (b : Int) - (m : Int) = 1 := by omega
  have HF : Hid (a + 1 < m ∧ b ≤ N ∧ N ≤ 1000000 ∧ b = m + 1) := Lib.hid ⟨h1, h2, h3, hb1⟩
  clear h h1 h2 h3 hz hsr hd hb1
  go_enter Try.func23, Try.ntmps23
  go_wp2_with fail
  clear e0 u0 t0 t0' e1
  go_loopw [14, 15] (fun iv jv wr => ∃ i j : Nat, iv = .int .i64 (i : Int) ∧ jv = .int .i64 (j : Int) ∧ a ≤ i ∧ i ≤ j ∧ j ≤ m ∧ SqAt g N f wr ∧ Below g w wr ∧ (i = a ∨ lessOf (f m) (f (i - 1)) = false) ∧ (j = m ∨ lessOf (f m) (f j) = true)) (fun iv jv _ => (intOf jv).toNat - (intOf iv).toNat)
  case atStart => exact ⟨a, m, rfl, rfl, Nat.le_refl _, by have := HF.out; omega, Nat.le_refl _, H.out, Below.refl _ _, .inl rfl, .inl rfl⟩
  case round =>
    obtain ⟨i, j, rfl, rfl, hi1, hij, hj1, hs, hb, k1, k2⟩ := hrel
    have HS := Lib.hid hs
    have HB := Lib.hid hb
    have HK1 := Lib.hid k1
    have HK2 := Lib.hid k2
    have HI : Hid (a ≤ i ∧ i ≤ j ∧ j ≤ m) := Lib.hid ⟨hi1, hij, hj1⟩
    clear hs hb k1 k2
    by_cases c0 : i < j
    · have t0 : decide ((i : Int) < (j : Int)) = true := by simp; omega
      have t0' : decide (i < j) = true := by simpa using c0
      have hjN : j ≤ 1000000 := by have := HF.out; omega
      obtain ⟨s, hs⟩ : ∃ s, i + j = s := ⟨_, rfl⟩
      obtain ⟨h, hh⟩ : ∃ h, s / 2 = h := ⟨_, rfl⟩
      have HH : Hid (i ≤ h ∧ h < j) := Lib.hid (by omega)
      have e1 : (i : Int) + (j : Int) = (s : Int) := by omega
      have u1 : IntKind.i64.wrap (s : Int) = (s : Int) := by rw [IntKind.wrap_i64]; omega
      have u2 : IntKind.u64.wrap (s : Int) = (s : Int) := by rw [IntKind.wrap_u64]; omega
      have e2 : (s : Int) / 2 = (h : Int) := by omega
      have u3 : IntKind.u64.wrap (h : Int) = (h : Int) := by rw [IntKind.wrap_u64]; omega
      have u4 : IntKind.i64.wrap (h : Int) = (h : Int) := by rw [IntKind.wrap_i64]; omega
      have HPQ : Hid (a ≤ m ∧ m < b ∧ a ≤ h ∧ h < b ∧ m < N ∧ h < N) := Lib.hid (by have := HF.out; have := HH.out; omega)
      have p1 : (m : Int) < (N : Int) := by have := HPQ.out; omega
      have p0 : (0 : Int) ≤ (m : Int) := by omega
      have q1 : (h : Int) < (N : Int) := by have := HPQ.out; omega
      have q0 : (0 : Int) ≤ (h : Int) := by omega
      have HC := Lib.hid fun x : World => order_any (f m) (f h) x (HZ.out m HPQ.out.1 HPQ.out.2.1) (HZ.out h HPQ.out.2.2.1 HPQ.out.2.2.2.1)
      have hno := ordOf_neg (f m) (f h)
      obtain ⟨tt, htt⟩ : ∃ t, lessOf (f m) (f h) = t := ⟨_, rfl⟩
      have HT := Lib.hid htt
      rw [htt] at hno
      obtain ⟨x, hx⟩ : ∃ x, f m = x := ⟨_, rfl⟩
      obtain ⟨y, hy⟩ : ∃ y, f h = y := ⟨_, rfl⟩
      obtain ⟨o, ho⟩ : ∃ o, ordOf (f m) (f h) = o := ⟨_, rfl⟩
      rw [ho] at HC hno
      obtain ⟨cp, fp⟩ := HS.out.cell HPQ.out.2.2.2.2.1
      obtain ⟨cq, fq⟩ := HS.out.cell HPQ.out.2.2.2.2.2
      rw [hx] at HC cp
      rw [hy] at HC cq
      clear hx hy htt ho hs hh hi1 hij hj1 c0
      go_upto_region 17 with fail
      go_cut [103] (fun t wx => t = .bool (!tt) ∧ SqAt g N f wx ∧ Below g w wx)
      case first =>
        obtain ⟨S, hS⟩ : ∃ S : World → Prop, S = fun y => Below wr.heap.size wr y := ⟨_, rfl⟩
        have hs0 : S wr.drew := by rw [hS]; exact (Below.refl _ _).drew
        have hS2 : ∀ u : World, S u → Below wr.heap.size wr u := fun u h => by rw [hS] at h; exact h
        have HSB : Hid (∀ y : Wd S, Below wr.heap.size wr y.w) := Lib.hid fun y => hS2 _ y.ok
        clear hS2
        have cp2 : ∀ y : Wd S, y.w.cell? ⟨g, m, none⟩ = some (.string x) := fun y => pt_stepS cp (HSB.out y)
        have cq2 : ∀ z : Wd S, z.w.cell? ⟨g, h, none⟩ = some (.string y) := fun z => pt_stepS cq (HSB.out z)
        have HCY : Hid (∀ z : Wd S, Calls Try.prog 14 #[.string x, .string y] z.w fun e w'' => e = .returned (.int .i64 o) ∧ ∃ z : Wd S, w'' = z.w) := Lib.hid fun z => Calls.wd (fun u hu => by rw [hS]; exact bel_trans (HSB.out z) hu) (HC.out z.w)
        clear hS cp cq fp fq
        haveI : Nonempty (Wd S) := ⟨⟨_, hs0⟩⟩
        refine wp_region_wd S (by kernel_rfl) (by kernel_rfl) hs0 ?_
        repeat (go_big_quiet_step (first | (go_at_call 14; with_reducible exact HCY.out _)))
        refine wpQuiet_nil ?_
        intro _ hw'
        obtain ⟨z, rfl⟩ := hw'
        go_wp2_with fail
        go_meet
        exact ⟨rfl, HS.out.below (HSB.out z), HB.out.trans ((HSB.out z).mono (Nat.le_of_lt HS.out.size))⟩
      case rest =>
      obtain ⟨rfl, hs, hb⟩ := hcut
      obtain ⟨W, rfl⟩ : ∃ x, x = wc := ⟨wc, rfl⟩
      have HS2 := Lib.hid hs
      have HB2 := Lib.hid hb
      clear hs hb cp cq fp fq hno hcall p0 p1 q0 q1
      cases tt with
      | false =>
        obtain ⟨h1, hh1⟩ : ∃ k, h + 1 = k := ⟨_, rfl⟩
        have e3 : (h : Int) + 1 = (h1 : Int) := by omega
        have u5 : IntKind.i64.wrap (h1 : Int) = (h1 : Int) := by have := HF.out; have := HH.out; have := HI.out; rw [IntKind.wrap_i64]; omega
        have HT1 : Hid (lessOf (f m) (f (h1 - 1)) = false) := Lib.hid (by rw [show h1 - 1 = h by omega]; exact HT.out)
        have HH1 : Hid (a ≤ h1 ∧ h1 ≤ j ∧ i < h1) := Lib.hid (by have := HH.out; have := HI.out; omega)
        clear hh1 u1 u2 u3 u4 e1 e2
        go_wp2_with fail
        clear e3 u5
        go_roundw
        case rel => exact ⟨h1, j, rfl, rfl, HH1.out.1, HH1.out.2.1, HI.out.2.2, HS2.out, HB2.out, .inr HT1.out, HK2.out⟩
        case measure => have := HH1.out; have := HI.out; simp [intOf]; omega
      | true =>
        have HH2 : Hid (h ≤ m) := Lib.hid (by have := HH.out; have := HI.out; omega)
        clear u1 u2 u3 e1 e2
        go_wp2_with fail
        clear u4
        go_roundw
        case rel => exact ⟨i, h, rfl, rfl, HI.out.1, HH.out.1, HH2.out, HS2.out, HB2.out, HK1.out, .inr HT.out⟩
        case measure => have := HH.out; simp [intOf]; omega
    · obtain rfl : i = j := by omega
      have t0 : decide ((i : Int) < (i : Int)) = false := by simp
      have t0' : decide (i < i) = false := by simp
      clear c0 hij
      clear hcall
      go_wp2_with fail
      clear t0 t0'
      go_loopw [17] (fun kv wr => ∃ k : Nat, kv = .int .i64 (k : Int) ∧ i ≤ k ∧ k ≤ m ∧ SqAt g N (rot f k (m - k) 1) wr ∧ Below g w wr) (fun kv _ => (intOf kv).toNat)
      case atStart => exact ⟨m, rfl, HI.out.2.2, Nat.le_refl _, by rw [Nat.sub_self, rot_none]; exact HS.out, HB.out⟩
      case round =>
        obtain ⟨k, rfl, hk1, hk2, hs, hb⟩ := hrel
        have HS3 := Lib.hid hs
        have HB3 := Lib.hid hb
        clear hs hb
        have hmM : m ≤ 1000000 := by have := HF.out; omega
        by_cases c1 : i < k
        · have t1 : decide ((i : Int) < (k : Int)) = true := by simp; omega
          have t1' : decide (i < k) = true := by simpa using c1
          obtain ⟨l, hl⟩ : ∃ l, k - 1 = l := ⟨_, rfl⟩
          have e6 : (k : Int) - 1 = (l : Int) := by omega
          have u6 : IntKind.i64.wrap (l : Int) = (l : Int) := by rw [IntKind.wrap_i64]; omega
          have HKL : Hid (k < N ∧ l < N ∧ k ≠ l) := Lib.hid (by have := HF.out; have := HI.out; omega)
          have HN : Hid (swp (rot f k (m - k) 1) k l = rot f l (m - l) 1) := Lib.hid (by
            have h := rotDn_step f l (m - k)
            rw [show l + 1 = k by omega, show m - k + 1 = m - l by omega] at h; exact h)
          have HLK : Hid (l + 1 = k ∧ i ≤ l ∧ k ≤ m) := Lib.hid ⟨by omega, by omega, hk2⟩
          have p1 : (k : Int) < (N : Int) := by have := HKL.out; omega
          have p0 : (0 : Int) ≤ (k : Int) := by omega
          have q1 : (l : Int) < (N : Int) := by have := HKL.out; omega
          have q0 : (0 : Int) ≤ (l : Int) := by omega
          obtain ⟨ck, fk⟩ := HS3.out.cell HKL.out.1
          obtain ⟨cl, fl⟩ := HS3.out.cell HKL.out.2.1
          obtain ⟨x, hx⟩ : ∃ x, (rot f k (m - k) 1) k = x := ⟨_, rfl⟩
          obtain ⟨y, hy⟩ : ∃ y, (rot f k (m - k) 1) l = y := ⟨_, rfl⟩
          have HXY := Lib.hid (And.intro hx hy)
          rw [hx] at ck
          rw [hy] at cl
          have fl2 : (wr.setCell ⟨g, k, none⟩ (.string y)).frozen? ⟨g, l, none⟩ = false := ((HS3.out.set HKL.out.1 y).cell HKL.out.2.1).2
          have cl2 := ((HS3.out.set HKL.out.1 y).cell HKL.out.2.1).1
          clear hx hy hl hk1 hk2 c1
          go_upto_region 23 with fail
          go_region
          all_goals
            have hD : SqAt g N (rot f l (m - l) 1) ((wr.setCell ⟨g, k, none⟩ (.string y)).setCell ⟨g, l, none⟩ (.string x)).drew := by
              have h := (HS3.out.set HKL.out.1 y).set HKL.out.2.1 x
              rw [← HXY.out.1, ← HXY.out.2, upd_swp, HN.out, HXY.out.1, HXY.out.2] at h
              exact h
            have HD := Lib.hid hD
            have HE : Hid (Below g w ((wr.setCell ⟨g, k, none⟩ (.string y)).setCell ⟨g, l, none⟩ (.string x)).drew) := Lib.hid ((HB3.out.setCell (p := ⟨g, k, none⟩) (Nat.le_refl g) _).setCell (p := ⟨g, l, none⟩) (Nat.le_refl g) _).drew
            clear hD ck cl fk fl fl2 cl2
            go_wp2_with fail
            clear e6 u6
            go_roundw
            case rel => exact ⟨l, rfl, by have := HLK.out; omega, by have := HLK.out; omega, HD.out, HE.out⟩
            case measure => have := HLK.out; simp [intOf]; omega
        · have t1 : decide ((i : Int) < (k : Int)) = false := by simp; omega
          have t1' : decide (i < k) = false := by simpa using c1
          obtain rfl : k = i := by omega
          clear c1 hk1 hk2
          go_wp2_with fail
          exact bodyPost_ret (results_none rfl _ _ _) rfl ⟨rfl, ⟨_, HS3.out, rot_prm _ f a b k (m - k) 1 (Nat.le_refl _) HI.out.1 (by have := HF.out; have := HI.out; omega), (by have h := srt_dn HSR.out HI.out.1 HI.out.2.2 HK1.out HK2.out; rw [HF.out.2.2.2]; exact h)⟩, HB3.out⟩
end Go.Proofs.Ytdpkinppkhnjkaa
