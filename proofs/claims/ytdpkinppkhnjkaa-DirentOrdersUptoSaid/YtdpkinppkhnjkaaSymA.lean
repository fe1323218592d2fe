/- slices.symMergeCmpFunc over strings: one element on the left. -/
import Derived.Test.YtdpkinppkhnjkaaSrtIns
import Derived.Test.YtdpkinppkhnjkaaSrtM
namespace Go.Proofs.Ytdpkinppkhnjkaa
open Go.RowKit

set_option maxRecDepth 100000 in
set_option maxHeartbeats 8000000 in
theorem symA_any (g N C : Nat) (f : Seq') (a b : Nat) (w : World) (h : SqAt g N f w) (h1 : a + 1 < b) (h2 : b ≤ N) (h3 : N ≤ 1000000) (hz : ∀ k, a ≤ k → k < b → (f k).size ≤ 70368744177664) (hsr : Srt f (a + 1) b) :
    Calls Try.prog 23 #[.slice (some ⟨g, 0, none⟩) N C, .int .i64 (a : Int), .int .i64 ((a + 1 : Nat) : Int), .int .i64 (b : Int), .func (Fn.func 14) #[] #[]] w fun e w' => e = .returned (.tuple #[]) ∧ (∃ f', SqAt g N f' w' ∧ Prm a b f f' ∧ Srt f' a b) ∧ Below g w w' := by
  have H := Lib.hid h
  have HZ := Lib.hid hz
  have HSR := Lib.hid hsr
  have hcall : ∀ (args : Array Value) (wx : World), (callFunc 14 args).run Try.prog wx = .ok (.enter 14 args) wx := fun _ _ => rfl
  obtain ⟨m, hm⟩ : ∃ i, a + 1 = i := ⟨_, rfl⟩
  rw [hm]
  have e0 : (m : Int) - (a : Int) = 1 := by omega
  have HF : Hid (m < b ∧ b ≤ N ∧ N ≤ 1000000 ∧ a + 1 = m) := Lib.hid ⟨by omega, h2, h3, hm⟩
  clear h h1 h2 h3 hz hsr hm
  go_enter Try.func23, Try.ntmps23
  go_wp2_with fail
  clear e0
  go_loopw [10, 11] (fun iv jv wr => ∃ i j : Nat, iv = .int .i64 (i : Int) ∧ jv = .int .i64 (j : Int) ∧ m ≤ i ∧ i ≤ j ∧ j ≤ b ∧ SqAt g N f wr ∧ Below g w wr ∧ (i = m ∨ lessOf (f (i - 1)) (f a) = true) ∧ (j = b ∨ lessOf (f j) (f a) = false)) (fun iv jv _ => (intOf jv).toNat - (intOf iv).toNat)
  case atStart => exact ⟨m, b, rfl, rfl, Nat.le_refl _, by have := HF.out; omega, Nat.le_refl _, H.out, Below.refl _ _, .inl rfl, .inl rfl⟩
  case round =>
    obtain ⟨i, j, rfl, rfl, hi1, hij, hj1, hs, hb, k1, k2⟩ := hrel
    have HS := Lib.hid hs
    have HB := Lib.hid hb
    have HK1 := Lib.hid k1
    have HK2 := Lib.hid k2
    have HI : Hid (m ≤ i ∧ i ≤ j ∧ j ≤ b) := Lib.hid ⟨hi1, hij, hj1⟩
    clear hs hb k1 k2
    by_cases c0 : i < j
    · have t0 : decide ((i : Int) < (j : Int)) = true := by simp; omega
      have t0' : decide (i < j) = true := by simpa using c0
      have hjN : j ≤ 1000000 := by have := HF.out; omega
      obtain ⟨s, hs⟩ : ∃ s, i + j = s := ⟨_, rfl⟩
      obtain ⟨h, hh⟩ : ∃ h, s / 2 = h := ⟨_, rfl⟩
      have HH : Hid (i ≤ h ∧ h < j) := Lib.hid (by omega)
      have e1 : (i : Int) + (j : Int) = (s : Int) := by omega
      have u1 : IntKind.i64.wrap (s : Int) = (s : Int) := by rw [IntKind.wrap_i64]; omega
      have u2 : IntKind.u64.wrap (s : Int) = (s : Int) := by rw [IntKind.wrap_u64]; omega
      have e2 : (s : Int) / 2 = (h : Int) := by omega
      have u3 : IntKind.u64.wrap (h : Int) = (h : Int) := by rw [IntKind.wrap_u64]; omega
      have u4 : IntKind.i64.wrap (h : Int) = (h : Int) := by rw [IntKind.wrap_i64]; omega
      have HPQ : Hid (a ≤ h ∧ h < b ∧ a ≤ a ∧ a < b ∧ h < N ∧ a < N) := Lib.hid (by have := HF.out; have := HH.out; omega)
      have p1 : (h : Int) < (N : Int) := by have := HPQ.out; omega
      have p0 : (0 : Int) ≤ (h : Int) := by omega
      have q1 : (a : Int) < (N : Int) := by have := HPQ.out; omega
      have q0 : (0 : Int) ≤ (a : Int) := by omega
      have HC := Lib.hid fun x : World => order_any (f h) (f a) x (HZ.out h HPQ.out.1 HPQ.out.2.1) (HZ.out a HPQ.out.2.2.1 HPQ.out.2.2.2.1)
      have hno := ordOf_neg (f h) (f a)
      obtain ⟨tt, htt⟩ : ∃ t, lessOf (f h) (f a) = t := ⟨_, rfl⟩
      have HT := Lib.hid htt
      rw [htt] at hno
      obtain ⟨x, hx⟩ : ∃ x, f h = x := ⟨_, rfl⟩
      obtain ⟨y, hy⟩ : ∃ y, f a = y := ⟨_, rfl⟩
      obtain ⟨o, ho⟩ : ∃ o, ordOf (f h) (f a) = o := ⟨_, rfl⟩
      rw [ho] at HC hno
      obtain ⟨cp, fp⟩ := HS.out.cell HPQ.out.2.2.2.2.1
      obtain ⟨cq, fq⟩ := HS.out.cell HPQ.out.2.2.2.2.2
      rw [hx] at HC cp
      rw [hy] at HC cq
      clear hx hy htt ho hs hh hi1 hij hj1 c0
      go_upto_region 5 with fail
      go_cut [50] (fun t wx => t = .bool tt ∧ SqAt g N f wx ∧ Below g w wx)
      case first =>
        obtain ⟨S, hS⟩ : ∃ S : World → Prop, S = fun y => Below wr.heap.size wr y := ⟨_, rfl⟩
        have hs0 : S wr.drew := by rw [hS]; exact (Below.refl _ _).drew
        have hS2 : ∀ u : World, S u → Below wr.heap.size wr u := fun u h => by rw [hS] at h; exact h
        have HSB : Hid (∀ y : Wd S, Below wr.heap.size wr y.w) := Lib.hid fun y => hS2 _ y.ok
        clear hS2
        have cp2 : ∀ y : Wd S, y.w.cell? ⟨g, h, none⟩ = some (.string x) := fun y => pt_stepS cp (HSB.out y)
        have cq2 : ∀ z : Wd S, z.w.cell? ⟨g, a, none⟩ = some (.string y) := fun z => pt_stepS cq (HSB.out z)
        have HCY : Hid (∀ z : Wd S, Calls Try.prog 14 #[.string x, .string y] z.w fun e w'' => e = .returned (.int .i64 o) ∧ ∃ z : Wd S, w'' = z.w) := Lib.hid fun z => Calls.wd (fun u hu => by rw [hS]; exact bel_trans (HSB.out z) hu) (HC.out z.w)
        clear hS cp cq fp fq
        haveI : Nonempty (Wd S) := ⟨⟨_, hs0⟩⟩
        refine wp_region_wd S (by kernel_rfl) (by kernel_rfl) hs0 ?_
        repeat (go_big_quiet_step (first | (go_at_call 14; with_reducible exact HCY.out _)))
        refine wpQuiet_nil ?_
        intro _ hw'
        obtain ⟨z, rfl⟩ := hw'
        go_wp2_with fail
        go_meet
        exact ⟨rfl, HS.out.below (HSB.out z), HB.out.trans ((HSB.out z).mono (Nat.le_of_lt HS.out.size))⟩
      case rest =>
      obtain ⟨rfl, hs, hb⟩ := hcut
      obtain ⟨W, rfl⟩ : ∃ x, x = wc := ⟨wc, rfl⟩
      have HS2 := Lib.hid hs
      have HB2 := Lib.hid hb
      clear hs hb cp cq fp fq hno hcall p0 p1 q0 q1
      cases tt with
      | true =>
        obtain ⟨h1, hh1⟩ : ∃ k, h + 1 = k := ⟨_, rfl⟩
        have e3 : (h : Int) + 1 = (h1 : Int) := by omega
        have u5 : IntKind.i64.wrap (h1 : Int) = (h1 : Int) := by have := HF.out; have := HH.out; have := HI.out; rw [IntKind.wrap_i64]; omega
        have HT1 : Hid (lessOf (f (h1 - 1)) (f a) = true) := Lib.hid (by rw [show h1 - 1 = h by omega]; exact HT.out)
        have HH1 : Hid (m ≤ h1 ∧ h1 ≤ j ∧ i < h1) := Lib.hid (by have := HH.out; have := HI.out; omega)
        clear hh1 u1 u2 u3 u4 e1 e2
        go_wp2_with fail
        clear e3 u5
        go_roundw
        case rel => exact ⟨h1, j, rfl, rfl, HH1.out.1, HH1.out.2.1, HI.out.2.2, HS2.out, HB2.out, .inr HT1.out, HK2.out⟩
        case measure => have := HH1.out; have := HI.out; simp [intOf]; omega
      | false =>
        have HH2 : Hid (h ≤ b) := Lib.hid (by have := HH.out; have := HI.out; omega)
        clear u1 u2 u3 e1 e2
        go_wp2_with fail
        clear u4
        go_roundw
        case rel => exact ⟨i, h, rfl, rfl, HI.out.1, HH.out.1, HH2.out, HS2.out, HB2.out, HK1.out, .inr HT.out⟩
        case measure => have := HH.out; simp [intOf]; omega
    · obtain rfl : i = j := by omega
      have t0 : decide ((i : Int) < (i : Int)) = false := by simp
      have t0' : decide (i < i) = false := by simp
      clear c0 hij
      clear hcall
      go_wp2_with fail
      clear t0 t0'
      go_loopw [13] (fun kv wr => ∃ k : Nat, kv = .int .i64 (k : Int) ∧ a ≤ k ∧ k + 1 ≤ i ∧ SqAt g N (rot f a 1 (k - a)) wr ∧ Below g w wr) (fun kv _ => i - (intOf kv).toNat)
      case atStart => exact ⟨a, rfl, Nat.le_refl _, by have := HF.out; have := HI.out; omega, by rw [Nat.sub_self, rot_zero]; exact HS.out, HB.out⟩
      case round =>
        obtain ⟨k, rfl, hk1, hk2, hs, hb⟩ := hrel
        have HS3 := Lib.hid hs
        have HB3 := Lib.hid hb
        clear hs hb
        obtain ⟨i1, hi1⟩ : ∃ x, i - 1 = x := ⟨_, rfl⟩
        have e5 : (i : Int) - 1 = (i1 : Int) := by omega
        have hiM : i ≤ 1000000 := by have := HF.out; have := HI.out; omega
        have u5 : IntKind.i64.wrap (i1 : Int) = (i1 : Int) := by rw [IntKind.wrap_i64]; omega
        by_cases c1 : k < i1
        · have t1 : decide ((k : Int) < (i1 : Int)) = true := by simp; omega
          have t1' : decide (k < i1) = true := by simpa using c1
          obtain ⟨l, hl⟩ : ∃ l, k + 1 = l := ⟨_, rfl⟩
          have e6 : (k : Int) + 1 = (l : Int) := by omega
          have u6 : IntKind.i64.wrap (l : Int) = (l : Int) := by rw [IntKind.wrap_i64]; omega
          have HKL : Hid (k < N ∧ l < N ∧ k ≠ l) := Lib.hid (by have := HF.out; have := HI.out; omega)
          have HN : Hid (swp (rot f a 1 (k - a)) k l = rot f a 1 (l - a)) := Lib.hid (by
            have h := rotUp_step f a (k - a)
            rw [show a + (k - a) = k by omega, show k - a + 1 = l - a by omega, hl] at h; exact h)
          have HLK : Hid (k + 1 = l ∧ a ≤ k ∧ l + 1 ≤ i) := Lib.hid ⟨hl, hk1, by omega⟩
          have p1 : (k : Int) < (N : Int) := by have := HKL.out; omega
          have p0 : (0 : Int) ≤ (k : Int) := by omega
          have q1 : (l : Int) < (N : Int) := by have := HKL.out; omega
          have q0 : (0 : Int) ≤ (l : Int) := by omega
          obtain ⟨ck, fk⟩ := HS3.out.cell HKL.out.1
          obtain ⟨cl, fl⟩ := HS3.out.cell HKL.out.2.1
          obtain ⟨x, hx⟩ : ∃ x, (rot f a 1 (k - a)) k = x := ⟨_, rfl⟩
          obtain ⟨y, hy⟩ : ∃ y, (rot f a 1 (k - a)) l = y := ⟨_, rfl⟩
          have HXY := Lib.hid (And.intro hx hy)
          rw [hx] at ck
          rw [hy] at cl
          have fl2 : (wr.setCell ⟨g, k, none⟩ (.string y)).frozen? ⟨g, l, none⟩ = false := ((HS3.out.set HKL.out.1 y).cell HKL.out.2.1).2
          have cl2 := ((HS3.out.set HKL.out.1 y).cell HKL.out.2.1).1
          clear hx hy hl hk1 hk2 c1
          go_upto_region 11 with fail
          go_region
          all_goals
            have hD : SqAt g N (rot f a 1 (l - a)) ((wr.setCell ⟨g, k, none⟩ (.string y)).setCell ⟨g, l, none⟩ (.string x)).drew := by
              have h := (HS3.out.set HKL.out.1 y).set HKL.out.2.1 x
              rw [← HXY.out.1, ← HXY.out.2, upd_swp, HN.out, HXY.out.1, HXY.out.2] at h
              exact h
            have HD := Lib.hid hD
            have HE : Hid (Below g w ((wr.setCell ⟨g, k, none⟩ (.string y)).setCell ⟨g, l, none⟩ (.string x)).drew) := Lib.hid ((HB3.out.setCell (p := ⟨g, k, none⟩) (Nat.le_refl g) _).setCell (p := ⟨g, l, none⟩) (Nat.le_refl g) _).drew
            clear hD ck cl fk fl fl2 cl2
            go_wp2_with fail
            clear e6 u6
            go_roundw
            case rel => exact ⟨l, rfl, by have := HLK.out; omega, by have := HLK.out; omega, HD.out, HE.out⟩
            case measure => have := HLK.out; simp [intOf]; omega
        · have t1 : decide ((k : Int) < (i1 : Int)) = false := by simp; omega
          have t1' : decide (k < i1) = false := by simpa using c1
          obtain rfl : k = i1 := by omega
          have HE := Lib.hid hi1
          clear c1 hk1 hk2
          go_wp2_with fail
          exact bodyPost_ret (results_none rfl _ _ _) rfl ⟨rfl, ⟨_, HS3.out, rot_prm _ f a b a 1 (k - a) (Nat.le_refl _) (Nat.le_refl _) (by have := HF.out; have := HI.out; have := HE.out; omega), (by have h := srt_up HSR.out (i := i) (by have := HF.out; have := HI.out; omega) HI.out.2.2 (by have := HF.out; rcases HK1.out with e | e; exact .inl (by omega); exact .inr e) HK2.out; rw [HE.out] at h; exact h)⟩, HB3.out⟩
end Go.Proofs.Ytdpkinppkhnjkaa
