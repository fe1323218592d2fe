/- slices.symMergeCmpFunc over strings: one element on the left. -/
import Derived.Test.YtdpkinppkhnjkaaDoorSrtIns
import Derived.Test.YtdpkinppkhnjkaaDoorSrtM
namespace Go.Proofs.YtdpkinppkhnjkaaDoor
open Go.RowKit

set_option maxRecDepth 100000 in
set_option maxHeartbeats 8000000 in
theorem symA_any (g N C : Nat) (f : Seq') (a b : Nat) (w : World) (h : SqAt g N f w) (h1 : a + 1 < b) (h2 : b ≤ N) (h3 : N ≤ 1000000) (hz : ∀ k, a ≤ k → k < b → (f k).size ≤ 70368744177664) (hsr : Srt f (a + 1) b) :
    Calls Tryd.prog 35 #[.slice (some ⟨g, 0, none⟩) N C, .int .i64 (a : Int), .int .i64 ((a + 1 : Nat) : Int), .int .i64 (b : Int), .func (Fn.func 19) #[] #[]] w fun e w' => e = .returned (.tuple #[]) ∧ (∃ f', SqAt g N f' w' ∧ Prm a b f f' ∧ Srt f' a b) ∧ Below g w w' := by
  have H := Lib.hid h
  have HZ := Lib.hid hz
  have HSR := Lib.hid hsr
  have hcall : ∀ (args : Array Value) (wx : World), (callFunc 19 args).run Tryd.prog wx = .ok (.enter 19 args) wx := fun _ _ => rfl
  obtain ⟨m, hm⟩ : ∃ i, a + 1 = i := ⟨_, rfl⟩
  rw [hm]
  have e0 : (m : Int) - (a : Int) = 1 := by omega
  have HF : Hid (m < b ∧ b ≤ N ∧ N ≤ 1000000 ∧ a + 1 = m) := Lib.hid ⟨by omega, h2, h3, hm⟩
  clear h h1 h2 h3 hz hsr hm
  go_enter Tryd.func35, Tryd.ntmps35
  go_wp2_with fail
  clear e0
  go_loopw [10, 11] (fun iv jv wr => ∃ i j : Nat, iv = .int .i64 (i : Int) ∧ jv = .int .i64 (j : Int) ∧ m ≤ i ∧ i ≤ j ∧ j ≤ b ∧ SqAt g N f wr ∧ Below g w wr ∧ (i = m ∨ lessOf (f (i - 1)) (f a) = true) ∧ (j = b ∨ lessOf (f j) (f a) = false)) (fun iv jv _ => (intOf jv).toNat - (intOf iv).toNat)
  case atStart => exact ⟨m, b, rfl, rfl, Nat.le_refl _, by have := HF.out; omega, Nat.le_refl _, H.out, Below.refl _ _, .inl rfl, .inl rfl⟩
  case round =>
    obtain ⟨i, j, rfl, rfl, hi1, hij, hj1, hs, hb, k1, k2⟩ := hrel
    have HS := Lib.hid hs
    have HB := Lib.hid hb
    have HK1 := Lib.hid k1
    have HK2 := Lib.hid k2
    have HI : Hid (m ≤ i ∧ i ≤ j ∧ j ≤ b) := Lib.hid ⟨hi1, hij, hj1⟩
    clear hs hb k1 k2
    by_cases c0 : i < j
    · have t0 : decide ((i : Int) < (j : Int)) = true := by simp; omega
      have t0' : decide (i < j) = true := by simpa using c0
      have hjN : j ≤ 1000000 := by have := HF.out; omega
      obtain ⟨s, hs⟩ : ∃ s, i + j = s := ⟨_, rfl⟩
      obtain ⟨h, hh⟩ : ∃ h, s / 2 = h := ⟨_, rfl⟩
      have HH : Hid (i ≤ h ∧ h < j) := Lib.hid (by omega)
      have e1 : (i : Int) + (j : Int) = (s : Int) := by omega
      have u1 : IntKind.i64.wrap (s : Int) = (s : Int) := by rw [IntKind.wrap_i64]; omega
      have u2 : IntKind.u64.wrap (s : Int) = (s : Int) := by rw [IntKind.wrap_u64]; omega
      have e2 : (s : Int) / 2 = (h : Int) := by omega
      have u3 : IntKind.u64.wrap (h : Int) = (h : Int) := by rw [IntKind.wrap_u64]; omega
      have u4 : IntKind.i64.wrap (h : Int) = (h : Int) := by rw [IntKind.wrap_i64]; omega
      have HPQ : Hid (a ≤ h ∧ h < b ∧ a ≤ a ∧ a < b ∧ h < N ∧ a < N) := Lib.hid (by have := HF.out; have := HH.out; omega)
      have p1 : (h : Int) < (N : Int) := by have := HPQ.out; omega
      have p0 : (0 : Int) ≤ (h : Int) := by omega
      have q1 : (a : Int) < (N : Int) := by have := HPQ.out; omega
      have q0 : (0 : Int) ≤ (a : Int) := by omega
      have HC := Lib.hid fun x : World => order_any (f h) (f a) x (HZ.out h HPQ.out.1 HPQ.out.2.1) (HZ.out a HPQ.out.2.2.1 HPQ.out.2.2.2.1)
      have hno := ordOf_neg (f h) (f a)
      obtain ⟨tt, htt⟩ : ∃ t, lessOf (f h) (f a) = t := ⟨_, rfl⟩
      have HT := Lib.hid htt
      rw [htt] at hno
      obtain ⟨x, hx⟩ : ∃ x, f h = x := ⟨_, rfl⟩
      obtain ⟨y, hy⟩ : ∃ y, f a = y := ⟨_, rfl⟩
      obtain ⟨o, ho⟩ : ∃ o, ordOf (f h) (f a) = o := ⟨_, rfl⟩
      rw [ho] at HC hno
      obtain ⟨cp, fp⟩ := HS.out.cell HPQ.out.2.2.2.2.1
      obtain ⟨cq, fq⟩ := HS.out.cell HPQ.out.2.2.2.2.2
      rw [hx] at HC cp
      rw [hy] at HC cq
      clear hx hy htt ho hs hh hi1 hij hj1 c0
      go_upto_region 5 with fail
      go_cut [50] (fun t wx => t = .bool tt ∧ SqAt g N f wx ∧ Below g w wx)
      case first =>
        obtain ⟨S, hS⟩ : ∃ S : World → Prop, S = fun y => Below wr.heap.size wr y := ⟨_, rfl⟩
        have hs0 : S wr.drew := by rw [hS]; exact (Below.refl _ _).drew
        have hS2 : ∀ u : World, S u → Below wr.heap.size wr u := fun u h => by rw [hS] at h; exact h
        have HSB : Hid (∀ y : Wd S, Below wr.heap.size wr y.w) := Lib.hid fun y => hS2 _ y.ok
        clear hS2
        have cp2 : ∀ y : Wd S, y.w.cell? ⟨g, h, none⟩ = some (.string x) := fun y => pt_stepS cp (HSB.out y)
        have cq2 : ∀ z : Wd S, z.w.cell? ⟨g, a, none⟩ = some (.string y) := fun z => pt_stepS cq (HSB.out z)
        have HCY : Hid (∀ z : Wd S, Calls Tryd.prog 19 #[.string x, .string y] z.w fun e w'' => e = .returned (.int .i64 o) ∧ ∃ z : Wd S, w'' = z.w) := Lib.hid fun z => Calls.wd (fun u hu => by rw [hS]; exact nbel_trans (HSB.out z) hu) (HC.out z.w)
        clear hS cp cq fp fq
        haveI : Nonempty (Wd S) := ⟨⟨_, hs0⟩⟩
        refine wp_region_wd S (by kernel_rfl) (by kernel_rfl) hs0 ?_
        repeat (go_big_quiet_step (first | (go_at_call 19; with_reducible exact HCY.out _)))
        refine wpQuiet_nil ?_
        intro _ hw'
        obtain ⟨z, rfl⟩ := hw'
        go_wp2_with fail
        go_meet
        exact ⟨rfl, HS.out.below (HSB.out z), HB.out.trans ((HSB.out z).mono (Nat.le_of_lt HS.out.size))⟩
      case rest =>
      obtain ⟨rfl, hs, hb⟩ := hcut
      obtain ⟨W, rfl⟩ : ∃ x, x = wc := ⟨wc, rfl⟩
      have HS2 := Lib.hid hs
      have HB2 := Lib.hid hb
      clear hs hb cp cq fp fq hno hcall p0 p1 q0 q1
      cases tt with
      | true =>
        obtain ⟨h1, hh1⟩ : ∃ k, h + 1 = k := ⟨_, rfl⟩
        have e3 : (h : Int) + 1 = (h1 : Int) := by omega
        have u5 : IntKind.i64.wrap (h1 : Int) = (h1 : Int) := by have := HF.out; have := HH.out; have := HI.out; rw [IntKind.wrap_i64]; omega
        have HT1 : Hid (lessOf (f (h1 - 1)) (f a) = true) := Lib.hid (by rw [show h1 - 1 = h by omega]; exact HT.out)
        have HH1 : Hid (m ≤ h1 ∧ h1 ≤ j ∧ i < h1) := Lib.hid (by have := HH.out; have := HI.out; omega)
        clear hh1 u1 u2 u3 u4 e1 e2
        go_wp2_with fail
        clear e3 u5
        go_roundw
        case rel => exact ⟨h1, j, rfl, rfl, HH1.out.1, HH1.out.2.1, HI.out.2.2, HS2.out, HB2.out, .inr HT1.out, HK2.out⟩
        case measure => have := HH1.out; have := HI.out; simp [intOf]; omega
      | false =>
        have HH2 : Hid (h ≤ b) := Lib.hid (by have := HH.out; have := HI.out; omega)
        clear u1 u2 u3 e1 e2
        go_wp2_with fail
        clear u4
        go_roundw
        case rel => exact ⟨i, h, rfl, rfl, HI.out.1, HH.out.1, HH2.out, HS2.out, HB2.out, HK1.out, .inr HT.out⟩
        case measure => have := HH.out; simp [intOf]; omega
    · obtain rfl : i = j := by omega
      have t0 : decide ((i : Int) < (i : Int)) = false := by simp
      have t0' : decide (i < i) = false := by simp
      clear c0 hij
      clear hcall
      go_wp2_with fail
      clear t0 t0'
      go_loopw [13] (fun kv wr => ∃ k : Nat, kv = .int .i64 (k : Int) ∧ a ≤ k ∧ k + 1 ≤ i ∧ SqAt g N (rot f a 1 (k - a)) wr ∧ Below g w wr) (fun kv _ => i - (intOf kv).toNat)
      case atStart => exact ⟨a, rfl, Nat.le_refl _, by have := HF.out; have := HI.out; omega, by rw [Nat.sub_self, rot_zero]; exact HS.out, HB.out⟩
      case round =>
        obtain ⟨k, rfl, hk1, hk2, hs, hb⟩ := hrel
        have HS3 := Lib.hid hs
        have HB3 := Lib.hid hb
        clear hs hb
        obtain ⟨i1, hi1⟩ : ∃ x, i - 1 = x := ⟨_, rfl⟩
        have e5 : (i : Int) - 1 = (i1 : Int) := by omega
        have hiM : i ≤ 1000000 := by have := HF.out; have := HI.out; omega
        have u5 : IntKind.i64.wrap (i1 : Int) = (i1 : Int) := by rw [IntKind.wrap_i64]; omega
        by_cases c1 : k < i1
        · have t1 : decide ((k : Int) < (i1 : Int)) = true := by simp; omega
          have t1' : decide (k < i1) = true := by simpa using c1
          obtain ⟨l, hl⟩ : ∃ l, k + 1 = l := ⟨_, rfl⟩
          have e6 : (k : Int) + 1 = (l : Int) := by omega
          have u6 : IntKind.i64.wrap (l : Int) = (l : Int) := by rw [IntKind.wrap_i64]; omega
          have HKL : Hid (k < N ∧ l < N ∧ k ≠ l) := Lib.hid (by have := HF.out; have := HI.out; omega)
          have HN : Hid (swp (rot f a 1 (k - a)) k l = rot f a 1 (l - a)) := Lib.hid (by
            have h := rotUp_step f a (k - a)
            rw [show a + (k - a) = k by omega, show k - a + 1 = l - a by omega, hl] at h; exact h)
          have HLK : Hid (k + 1 = l ∧ a ≤ k ∧ l + 1 ≤ i) := Lib.hid ⟨hl, hk1, by omega⟩
          have p1 : (k : Int) < (N : Int) := by have := HKL.out; omega
          have p0 : (0 : Int) ≤ (k : Int) := by omega
          have q1 : (l : Int) < (N : Int) := by have := HKL.out; omega
          have q0 : (0 : Int) ≤ (l : Int) := by omega
          obtain ⟨ck, fk⟩ := HS3.out.cell HKL.out.1
          obtain ⟨cl, fl⟩ := HS3.out.cell HKL.out.2.1
          obtain ⟨x, hx⟩ : ∃ x, (rot f a 1 (k - a)) k = x := ⟨_, rfl⟩
          obtain ⟨y, hy⟩ : ∃ y, (rot f a 1 (k - a)) l = y := ⟨_, rfl⟩
          have HXY := Lib.hid (And.intro hx hy)
          rw [hx] at ck
          rw [hy] at cl
          have fl2 : (wr.setCell ⟨g, k, none⟩ (.string y)).frozen? ⟨g, l, none⟩ = false := ((HS3.out.set HKL.out.1 y).cell HKL.out.2.1).2
          have cl2 := ((HS3.out.set HKL.out.1 y).cell HKL.out.2.1).1
          clear hx hy hl hk1 hk2 c1
          go_upto_region 11 with fail
          go_region
          all_goals
            have hD : SqAt g N (rot f a 1 (l - a)) ((wr.setCell ⟨g, k, none⟩ (.string y)).setCell ⟨g, l, none⟩ (.string x)).drew := by
              have h := (HS3.out.set HKL.out.1 y).set HKL.out.2.1 x
              rw [← HXY.out.1, ← HXY.out.2, upd_swp, HN.out, HXY.out.1, HXY.out.2] at h
              exact h
            have HD := Lib.hid hD
            have HE : Hid (Below g w ((wr.setCell ⟨g, k, none⟩ (.string y)).setCell ⟨g, l, none⟩ (.string x)).drew) := Lib.hid ((HB3.out.setCell (p := ⟨g, k, none⟩) (Nat.le_refl g) _).setCell (p := ⟨g, l, none⟩) (Nat.le_refl g) _).drew
            clear hD ck cl fk fl fl2 cl2
            go_wp2_with fail
            clear e6 u6
            go_roundw
            case rel => exact ⟨l, rfl, by have := HLK.out; omega, by have := HLK.out; omega, HD.out, HE.out⟩
            case measure => have := HLK.out; simp [intOf]; omega
        · have t1 : decide ((k : Int) < (i1 : Int)) = false := by simp; omega
          have t1' : decide (k < i1) = false := by simpa using c1
          obtain rfl : k = i1 := by omega
          have HE := Lib.hid hi1
          clear c1 hk1 hk2
          go_wp2_with fail
          exact bodyPost_ret (results_none rfl _ _ _) rfl ⟨rfl, ⟨_, HS3.out, rot_prm _ f a b a 1 (k - a) (Nat.le_refl _) (Nat.le_refl _) (by have := HF.out; have := HI.out; have := HE.out; omega), (by have h := srt_up HSR.out (i := i) (by have := HF.out; have := HI.out; omega) HI.out.2.2 (by have := HF.out; rcases HK1.out with e | e; exact .inl (by omega); exact .inr e) HK2.out; rw [HE.out] at h; exact h)⟩, HB3.out⟩
end Go.Proofs.YtdpkinppkhnjkaaDoor

namespace Go.Proofs.YtdpkinppkhnjkaaDoor
open Go.RowKit

set_option maxRecDepth 100000 in
set_option maxHeartbeats 8000000 in
theorem symB_any (g N C : Nat) (f : Seq') (a m b : Nat) (w : World) (h : SqAt g N f w) (h1 : a + 1 < m) (hb1 : b = m + 1) (h2 : b ≤ N) (h3 : N ≤ 1000000) (hz : ∀ k, a ≤ k → k < b → (f k).size ≤ 70368744177664) (hsr : Srt f a m) :
    Calls Tryd.prog 35 #[.slice (some ⟨g, 0, none⟩) N C, .int .i64 (a : Int), .int .i64 (m : Int), .int .i64 (b : Int), .func (Fn.func 19) #[] #[]] w fun e w' => e = .returned (.tuple #[]) ∧ (∃ f', SqAt g N f' w' ∧ Prm a b f f' ∧ Srt f' a b) ∧ Below g w w' := by
  have H := Lib.hid h
  have HZ := Lib.hid hz
  have HSR := Lib.hid hsr
  have hcall : ∀ (args : Array Value) (wx : World), (callFunc 19 args).run Tryd.prog wx = .ok (.enter 19 args) wx := fun _ _ => rfl
  obtain ⟨d, hd⟩ : ∃ i, m - a = i := ⟨_, rfl⟩
  have e0 : (m : Int) - (a : Int) = (d : Int) := by omega
  have u0 : IntKind.i64.wrap (d : Int) = (d : Int) := by rw [IntKind.wrap_i64]; omega
  have t0 : ((d : Int) == 1) = false := by rw [beq_eq_false_iff_ne]; omega
  have t0' : (d == 1) = false := by rw [beq_eq_false_iff_ne]; omega
  have e1 : (b : Int) - (m : Int) = 1 := by omega
  have HF : Hid (a + 1 < m ∧ b ≤ N ∧ N ≤ 1000000 ∧ b = m + 1) := Lib.hid ⟨h1, h2, h3, hb1⟩
  clear h h1 h2 h3 hz hsr hd hb1
  go_enter Tryd.func35, Tryd.ntmps35
  go_wp2_with fail
  clear e0 u0 t0 t0' e1
  go_loopw [14, 15] (fun iv jv wr => ∃ i j : Nat, iv = .int .i64 (i : Int) ∧ jv = .int .i64 (j : Int) ∧ a ≤ i ∧ i ≤ j ∧ j ≤ m ∧ SqAt g N f wr ∧ Below g w wr ∧ (i = a ∨ lessOf (f m) (f (i - 1)) = false) ∧ (j = m ∨ lessOf (f m) (f j) = true)) (fun iv jv _ => (intOf jv).toNat - (intOf iv).toNat)
  case atStart => exact ⟨a, m, rfl, rfl, Nat.le_refl _, by have := HF.out; omega, Nat.le_refl _, H.out, Below.refl _ _, .inl rfl, .inl rfl⟩
  case round =>
    obtain ⟨i, j, rfl, rfl, hi1, hij, hj1, hs, hb, k1, k2⟩ := hrel
    have HS := Lib.hid hs
    have HB := Lib.hid hb
    have HK1 := Lib.hid k1
    have HK2 := Lib.hid k2
    have HI : Hid (a ≤ i ∧ i ≤ j ∧ j ≤ m) := Lib.hid ⟨hi1, hij, hj1⟩
    clear hs hb k1 k2
    by_cases c0 : i < j
    · have t0 : decide ((i : Int) < (j : Int)) = true := by simp; omega
      have t0' : decide (i < j) = true := by simpa using c0
      have hjN : j ≤ 1000000 := by have := HF.out; omega
      obtain ⟨s, hs⟩ : ∃ s, i + j = s := ⟨_, rfl⟩
      obtain ⟨h, hh⟩ : ∃ h, s / 2 = h := ⟨_, rfl⟩
      have HH : Hid (i ≤ h ∧ h < j) := Lib.hid (by omega)
      have e1 : (i : Int) + (j : Int) = (s : Int) := by omega
      have u1 : IntKind.i64.wrap (s : Int) = (s : Int) := by rw [IntKind.wrap_i64]; omega
      have u2 : IntKind.u64.wrap (s : Int) = (s : Int) := by rw [IntKind.wrap_u64]; omega
      have e2 : (s : Int) / 2 = (h : Int) := by omega
      have u3 : IntKind.u64.wrap (h : Int) = (h : Int) := by rw [IntKind.wrap_u64]; omega
      have u4 : IntKind.i64.wrap (h : Int) = (h : Int) := by rw [IntKind.wrap_i64]; omega
      have HPQ : Hid (a ≤ m ∧ m < b ∧ a ≤ h ∧ h < b ∧ m < N ∧ h < N) := Lib.hid (by have := HF.out; have := HH.out; omega)
      have p1 : (m : Int) < (N : Int) := by have := HPQ.out; omega
      have p0 : (0 : Int) ≤ (m : Int) := by omega
      have q1 : (h : Int) < (N : Int) := by have := HPQ.out; omega
      have q0 : (0 : Int) ≤ (h : Int) := by omega
      have HC := Lib.hid fun x : World => order_any (f m) (f h) x (HZ.out m HPQ.out.1 HPQ.out.2.1) (HZ.out h HPQ.out.2.2.1 HPQ.out.2.2.2.1)
      have hno := ordOf_neg (f m) (f h)
      obtain ⟨tt, htt⟩ : ∃ t, lessOf (f m) (f h) = t := ⟨_, rfl⟩
      have HT := Lib.hid htt
      rw [htt] at hno
      obtain ⟨x, hx⟩ : ∃ x, f m = x := ⟨_, rfl⟩
      obtain ⟨y, hy⟩ : ∃ y, f h = y := ⟨_, rfl⟩
      obtain ⟨o, ho⟩ : ∃ o, ordOf (f m) (f h) = o := ⟨_, rfl⟩
      rw [ho] at HC hno
      obtain ⟨cp, fp⟩ := HS.out.cell HPQ.out.2.2.2.2.1
      obtain ⟨cq, fq⟩ := HS.out.cell HPQ.out.2.2.2.2.2
      rw [hx] at HC cp
      rw [hy] at HC cq
      clear hx hy htt ho hs hh hi1 hij hj1 c0
      go_upto_region 17 with fail
      go_cut [103] (fun t wx => t = .bool (!tt) ∧ SqAt g N f wx ∧ Below g w wx)
      case first =>
        obtain ⟨S, hS⟩ : ∃ S : World → Prop, S = fun y => Below wr.heap.size wr y := ⟨_, rfl⟩
        have hs0 : S wr.drew := by rw [hS]; exact (Below.refl _ _).drew
        have hS2 : ∀ u : World, S u → Below wr.heap.size wr u := fun u h => by rw [hS] at h; exact h
        have HSB : Hid (∀ y : Wd S, Below wr.heap.size wr y.w) := Lib.hid fun y => hS2 _ y.ok
        clear hS2
        have cp2 : ∀ y : Wd S, y.w.cell? ⟨g, m, none⟩ = some (.string x) := fun y => pt_stepS cp (HSB.out y)
        have cq2 : ∀ z : Wd S, z.w.cell? ⟨g, h, none⟩ = some (.string y) := fun z => pt_stepS cq (HSB.out z)
        have HCY : Hid (∀ z : Wd S, Calls Tryd.prog 19 #[.string x, .string y] z.w fun e w'' => e = .returned (.int .i64 o) ∧ ∃ z : Wd S, w'' = z.w) := Lib.hid fun z => Calls.wd (fun u hu => by rw [hS]; exact nbel_trans (HSB.out z) hu) (HC.out z.w)
        clear hS cp cq fp fq
        haveI : Nonempty (Wd S) := ⟨⟨_, hs0⟩⟩
        refine wp_region_wd S (by kernel_rfl) (by kernel_rfl) hs0 ?_
        repeat (go_big_quiet_step (first | (go_at_call 19; with_reducible exact HCY.out _)))
        refine wpQuiet_nil ?_
        intro _ hw'
        obtain ⟨z, rfl⟩ := hw'
        go_wp2_with fail
        go_meet
        exact ⟨rfl, HS.out.below (HSB.out z), HB.out.trans ((HSB.out z).mono (Nat.le_of_lt HS.out.size))⟩
      case rest =>
      obtain ⟨rfl, hs, hb⟩ := hcut
      obtain ⟨W, rfl⟩ : ∃ x, x = wc := ⟨wc, rfl⟩
      have HS2 := Lib.hid hs
      have HB2 := Lib.hid hb
      clear hs hb cp cq fp fq hno hcall p0 p1 q0 q1
      cases tt with
      | false =>
        obtain ⟨h1, hh1⟩ : ∃ k, h + 1 = k := ⟨_, rfl⟩
        have e3 : (h : Int) + 1 = (h1 : Int) := by omega
        have u5 : IntKind.i64.wrap (h1 : Int) = (h1 : Int) := by have := HF.out; have := HH.out; have := HI.out; rw [IntKind.wrap_i64]; omega
        have HT1 : Hid (lessOf (f m) (f (h1 - 1)) = false) := Lib.hid (by rw [show h1 - 1 = h by omega]; exact HT.out)
        have HH1 : Hid (a ≤ h1 ∧ h1 ≤ j ∧ i < h1) := Lib.hid (by have := HH.out; have := HI.out; omega)
        clear hh1 u1 u2 u3 u4 e1 e2
        go_wp2_with fail
        clear e3 u5
        go_roundw
        case rel => exact ⟨h1, j, rfl, rfl, HH1.out.1, HH1.out.2.1, HI.out.2.2, HS2.out, HB2.out, .inr HT1.out, HK2.out⟩
        case measure => have := HH1.out; have := HI.out; simp [intOf]; omega
      | true =>
        have HH2 : Hid (h ≤ m) := Lib.hid (by have := HH.out; have := HI.out; omega)
        clear u1 u2 u3 e1 e2
        go_wp2_with fail
        clear u4
        go_roundw
        case rel => exact ⟨i, h, rfl, rfl, HI.out.1, HH.out.1, HH2.out, HS2.out, HB2.out, HK1.out, .inr HT.out⟩
        case measure => have := HH.out; simp [intOf]; omega
    · obtain rfl : i = j := by omega
      have t0 : decide ((i : Int) < (i : Int)) = false := by simp
      have t0' : decide (i < i) = false := by simp
      clear c0 hij
      clear hcall
      go_wp2_with fail
      clear t0 t0'
      go_loopw [17] (fun kv wr => ∃ k : Nat, kv = .int .i64 (k : Int) ∧ i ≤ k ∧ k ≤ m ∧ SqAt g N (rot f k (m - k) 1) wr ∧ Below g w wr) (fun kv _ => (intOf kv).toNat)
      case atStart => exact ⟨m, rfl, HI.out.2.2, Nat.le_refl _, by rw [Nat.sub_self, rot_none]; exact HS.out, HB.out⟩
      case round =>
        obtain ⟨k, rfl, hk1, hk2, hs, hb⟩ := hrel
        have HS3 := Lib.hid hs
        have HB3 := Lib.hid hb
        clear hs hb
        have hmM : m ≤ 1000000 := by have := HF.out; omega
        by_cases c1 : i < k
        · have t1 : decide ((i : Int) < (k : Int)) = true := by simp; omega
          have t1' : decide (i < k) = true := by simpa using c1
          obtain ⟨l, hl⟩ : ∃ l, k - 1 = l := ⟨_, rfl⟩
          have e6 : (k : Int) - 1 = (l : Int) := by omega
          have u6 : IntKind.i64.wrap (l : Int) = (l : Int) := by rw [IntKind.wrap_i64]; omega
          have HKL : Hid (k < N ∧ l < N ∧ k ≠ l) := Lib.hid (by have := HF.out; have := HI.out; omega)
          have HN : Hid (swp (rot f k (m - k) 1) k l = rot f l (m - l) 1) := Lib.hid (by
            have h := rotDn_step f l (m - k)
            rw [show l + 1 = k by omega, show m - k + 1 = m - l by omega] at h; exact h)
          have HLK : Hid (l + 1 = k ∧ i ≤ l ∧ k ≤ m) := Lib.hid ⟨by omega, by omega, hk2⟩
          have p1 : (k : Int) < (N : Int) := by have := HKL.out; omega
          have p0 : (0 : Int) ≤ (k : Int) := by omega
          have q1 : (l : Int) < (N : Int) := by have := HKL.out; omega
          have q0 : (0 : Int) ≤ (l : Int) := by omega
          obtain ⟨ck, fk⟩ := HS3.out.cell HKL.out.1
          obtain ⟨cl, fl⟩ := HS3.out.cell HKL.out.2.1
          obtain ⟨x, hx⟩ : ∃ x, (rot f k (m - k) 1) k = x := ⟨_, rfl⟩
          obtain ⟨y, hy⟩ : ∃ y, (rot f k (m - k) 1) l = y := ⟨_, rfl⟩
          have HXY := Lib.hid (And.intro hx hy)
          rw [hx] at ck
          rw [hy] at cl
          have fl2 : (wr.setCell ⟨g, k, none⟩ (.string y)).frozen? ⟨g, l, none⟩ = false := ((HS3.out.set HKL.out.1 y).cell HKL.out.2.1).2
          have cl2 := ((HS3.out.set HKL.out.1 y).cell HKL.out.2.1).1
          clear hx hy hl hk1 hk2 c1
          go_upto_region 23 with fail
          go_region
          all_goals
            have hD : SqAt g N (rot f l (m - l) 1) ((wr.setCell ⟨g, k, none⟩ (.string y)).setCell ⟨g, l, none⟩ (.string x)).drew := by
              have h := (HS3.out.set HKL.out.1 y).set HKL.out.2.1 x
              rw [← HXY.out.1, ← HXY.out.2, upd_swp, HN.out, HXY.out.1, HXY.out.2] at h
              exact h
            have HD := Lib.hid hD
            have HE : Hid (Below g w ((wr.setCell ⟨g, k, none⟩ (.string y)).setCell ⟨g, l, none⟩ (.string x)).drew) := Lib.hid ((HB3.out.setCell (p := ⟨g, k, none⟩) (Nat.le_refl g) _).setCell (p := ⟨g, l, none⟩) (Nat.le_refl g) _).drew
            clear hD ck cl fk fl fl2 cl2
            go_wp2_with fail
            clear e6 u6
            go_roundw
            case rel => exact ⟨l, rfl, by have := HLK.out; omega, by have := HLK.out; omega, HD.out, HE.out⟩
            case measure => have := HLK.out; simp [intOf]; omega
        · have t1 : decide ((i : Int) < (k : Int)) = false := by simp; omega
          have t1' : decide (i < k) = false := by simpa using c1
          obtain rfl : k = i := by omega
          clear c1 hk1 hk2
          go_wp2_with fail
          exact bodyPost_ret (results_none rfl _ _ _) rfl ⟨rfl, ⟨_, HS3.out, rot_prm _ f a b k (m - k) 1 (Nat.le_refl _) HI.out.1 (by have := HF.out; have := HI.out; omega), (by have h := srt_dn HSR.out HI.out.1 HI.out.2.2 HK1.out HK2.out; rw [HF.out.2.2.2]; exact h)⟩, HB3.out⟩
end Go.Proofs.YtdpkinppkhnjkaaDoor

namespace Go.Proofs.YtdpkinppkhnjkaaDoor
open Go.RowKit

set_option maxRecDepth 100000 in
set_option maxHeartbeats 8000000 in
theorem symC_any (g N C : Nat) (f : Seq') (a m b : Nat) (w : World) (h : SqAt g N f w) (h1 : a + 1 < m) (hb1 : m + 1 < b) (h2 : b ≤ N) (h3 : N ≤ 1000000) (hz : ∀ k, a ≤ k → k < b → (f k).size ≤ 70368744177664) (hsr : Srt f a m) (hsr2 : Srt f m b)
    (IH : Hid (∀ (a' m' b' : Nat) (f' : Seq') (w' : World), b' - a' < b - a → a' < m' → m' < b' → b' ≤ N → SqAt g N f' w' → (∀ k, a' ≤ k → k < b' → (f' k).size ≤ 70368744177664) → Srt f' a' m' → Srt f' m' b' → Calls Tryd.prog 35 #[.slice (some ⟨g, 0, none⟩) N C, .int .i64 (a' : Int), .int .i64 (m' : Int), .int .i64 (b' : Int), .func (Fn.func 19) #[] #[]] w' fun e w2 => e = .returned (.tuple #[]) ∧ (∃ f2, SqAt g N f2 w2 ∧ Prm a' b' f' f2 ∧ Srt f2 a' b') ∧ Below g w' w2)) :
    Calls Tryd.prog 35 #[.slice (some ⟨g, 0, none⟩) N C, .int .i64 (a : Int), .int .i64 (m : Int), .int .i64 (b : Int), .func (Fn.func 19) #[] #[]] w fun e w' => e = .returned (.tuple #[]) ∧ (∃ f', SqAt g N f' w' ∧ Prm a b f f' ∧ Srt f' a b) ∧ Below g w w' := by
  have H := Lib.hid h
  have HZ := Lib.hid hz
  have HSR := Lib.hid hsr
  have HSR2 := Lib.hid hsr2
  have hcall : ∀ (args : Array Value) (wx : World), (callFunc 19 args).run Tryd.prog wx = .ok (.enter 19 args) wx := fun _ _ => rfl
  obtain ⟨d, hd⟩ : ∃ i, m - a = i := ⟨_, rfl⟩
  obtain ⟨d2, hd2⟩ : ∃ i, b - m = i := ⟨_, rfl⟩
  have e0 : (m : Int) - (a : Int) = (d : Int) := by omega
  have u0 : IntKind.i64.wrap (d : Int) = (d : Int) := by rw [IntKind.wrap_i64]; omega
  have t0 : ((d : Int) == 1) = false := by rw [beq_eq_false_iff_ne]; omega
  have t0' : (d == 1) = false := by rw [beq_eq_false_iff_ne]; omega
  have e1 : (b : Int) - (m : Int) = (d2 : Int) := by omega
  have u1 : IntKind.i64.wrap (d2 : Int) = (d2 : Int) := by rw [IntKind.wrap_i64]; omega
  have t1 : ((d2 : Int) == 1) = false := by rw [beq_eq_false_iff_ne]; omega
  have t1' : (d2 == 1) = false := by rw [beq_eq_false_iff_ne]; omega
  obtain ⟨s0, hs0⟩ : ∃ i, a + b = i := ⟨_, rfl⟩
  obtain ⟨mid, hmid⟩ : ∃ i, s0 / 2 = i := ⟨_, rfl⟩
  obtain ⟨n, hn⟩ : ∃ i, mid + m = i := ⟨_, rfl⟩
  obtain ⟨p, hp⟩ : ∃ i, n - 1 = i := ⟨_, rfl⟩
  have v1 : (a : Int) + (b : Int) = (s0 : Int) := by omega
  have v2 : IntKind.i64.wrap (s0 : Int) = (s0 : Int) := by rw [IntKind.wrap_i64]; omega
  have v3 : IntKind.u64.wrap (s0 : Int) = (s0 : Int) := by rw [IntKind.wrap_u64]; omega
  have v4 : (s0 : Int) / 2 = (mid : Int) := by omega
  have v5 : IntKind.u64.wrap (mid : Int) = (mid : Int) := by rw [IntKind.wrap_u64]; omega
  have v6 : IntKind.i64.wrap (mid : Int) = (mid : Int) := by rw [IntKind.wrap_i64]; omega
  have v7 : (mid : Int) + (m : Int) = (n : Int) := by omega
  have v8 : IntKind.i64.wrap (n : Int) = (n : Int) := by rw [IntKind.wrap_i64]; omega
  have v9 : (n : Int) - 1 = (p : Int) := by omega
  have v10 : IntKind.i64.wrap (p : Int) = (p : Int) := by rw [IntKind.wrap_i64]; omega
  have HF : Hid (a + 1 < m ∧ m + 1 < b ∧ b ≤ N ∧ N ≤ 1000000) := Lib.hid ⟨h1, hb1, h2, h3⟩
  have HM : Hid (a < mid ∧ mid < b ∧ mid - a ≤ b - mid ∧ b - mid ≤ mid - a + 1 ∧ n = mid + m ∧ p + 1 = n) := Lib.hid (by omega)
  go_enter Tryd.func35, Tryd.ntmps35
  clear h hz hsr hsr2 hd hd2 hs0 hmid hn hp
  have key : ∃ lo hi : Nat, ((mid < m ∧ lo = n - b ∧ hi = mid) ∨ (m ≤ mid ∧ lo = a ∧ hi = m)) := by
    by_cases c : mid < m
    · exact ⟨_, _, .inl ⟨c, rfl, rfl⟩⟩
    · exact ⟨_, _, .inr ⟨by omega, rfl, rfl⟩⟩
  obtain ⟨lo, hi, hlh⟩ := key
  have HLH := Lib.hid hlh
  have HLO : Hid (a ≤ lo ∧ lo < hi ∧ hi ≤ m ∧ hi ≤ mid) := Lib.hid (by have := HM.out; omega)
  have HLX : Hid (∀ c, lo ≤ c → c < hi → m ≤ p - c ∧ p - c < b ∧ c ≤ p) := Lib.hid (by have := HM.out; intro c h1 h2; omega)
  obtain ⟨tm, htm⟩ : ∃ t, decide (mid < m) = t := ⟨_, rfl⟩
  have HTM := Lib.hid htm
  have t2 : decide ((mid : Int) < (m : Int)) = tm := by rw [← htm]; simp
  clear h1 hb1 h2 h3 hlh
  go_upto_if 140 with fail
  clear e0 u0 t0 t0' e1 u1 t1 t1' v1 v2 v3 v4 v5 v6 v7 v8
  go_cut [20, 21] from 141 to 146 (fun s20 s21 wx => s20 = .int .i64 (lo : Int) ∧ s21 = .int .i64 (hi : Int) ∧ wx = w)
  case first =>
    by_cases c : mid < m
    · obtain rfl : tm = true := by rw [← HTM.out]; simpa using c
      have hl : lo = n - b ∧ hi = mid := by have := HLH.out; omega
      have e7 : (n : Int) - (b : Int) = (lo : Int) := by have := HM.out; have := HLO.out; omega
      have u7 : IntKind.i64.wrap (lo : Int) = (lo : Int) := by have := HF.out; have := HLO.out; rw [IntKind.wrap_i64]; omega
      have hm2 := hl.2
      subst hm2
      clear hl c v9 v10 t2
      go_wp2_with fail
      go_meet
      exact ⟨rfl, rfl, rfl⟩
    · obtain rfl : tm = false := by rw [← HTM.out]; simpa using c
      have hl : lo = a ∧ hi = m := by have := HLH.out; omega
      obtain ⟨hl1, hl2⟩ := hl
      subst hl1 hl2
      clear c v9 v10 t2
      go_wp2_with fail
      go_meet
      exact ⟨rfl, rfl, rfl⟩
  case rest =>
  obtain ⟨rfl, rfl, hwc⟩ := hcut
  rw [hwc]
  clear hwc t2 HTM htm
  go_wp2_with fail
  clear v9 v10
  go_loopw [20, 21] (fun iv jv wr => ∃ i j : Nat, iv = .int .i64 (i : Int) ∧ jv = .int .i64 (j : Int) ∧ lo ≤ i ∧ i ≤ j ∧ j ≤ hi ∧ SqAt g N f wr ∧ Below g w wr ∧ (i = lo ∨ lessOf (f (p - (i - 1))) (f (i - 1)) = false) ∧ (j = hi ∨ lessOf (f (p - j)) (f j) = true)) (fun iv jv _ => (intOf jv).toNat - (intOf iv).toNat)
  case atStart => exact ⟨lo, hi, rfl, rfl, Nat.le_refl _, Nat.le_of_lt HLO.out.2.1, Nat.le_refl _, H.out, Below.refl _ _, .inl rfl, .inl rfl⟩
  case round =>
    obtain ⟨i, j, rfl, rfl, hi1, hij, hj1, hs, hb, k1, k2⟩ := hrel
    have HS := Lib.hid hs
    have HB := Lib.hid hb
    have HK1 := Lib.hid k1
    have HK2 := Lib.hid k2
    have HI : Hid (lo ≤ i ∧ i ≤ j ∧ j ≤ hi) := Lib.hid ⟨hi1, hij, hj1⟩
    clear hs hb k1 k2
    by_cases c0 : i < j
    · have t0 : decide ((i : Int) < (j : Int)) = true := by simp; omega
      have t0' : decide (i < j) = true := by simpa using c0
      have hjN : j ≤ 1000000 := by have := HF.out; have := HLO.out; omega
      obtain ⟨s, hs⟩ : ∃ s, i + j = s := ⟨_, rfl⟩
      obtain ⟨h, hh⟩ : ∃ h, s / 2 = h := ⟨_, rfl⟩
      have HH : Hid (i ≤ h ∧ h < j) := Lib.hid (by omega)
      have e1 : (i : Int) + (j : Int) = (s : Int) := by omega
      have u1 : IntKind.i64.wrap (s : Int) = (s : Int) := by rw [IntKind.wrap_i64]; omega
      have u2 : IntKind.u64.wrap (s : Int) = (s : Int) := by rw [IntKind.wrap_u64]; omega
      have e2 : (s : Int) / 2 = (h : Int) := by omega
      have u3 : IntKind.u64.wrap (h : Int) = (h : Int) := by rw [IntKind.wrap_u64]; omega
      have u4 : IntKind.i64.wrap (h : Int) = (h : Int) := by rw [IntKind.wrap_i64]; omega
      obtain ⟨x0, hx0⟩ : ∃ x, p - h = x := ⟨_, rfl⟩
      have hxr := HLX.out h (by have := HI.out; have := HH.out; omega) (by have := HI.out; have := HH.out; omega)
      have e7 : (p : Int) - (h : Int) = (x0 : Int) := by omega
      have u7 : IntKind.i64.wrap (x0 : Int) = (x0 : Int) := by have := HF.out; rw [IntKind.wrap_i64]; omega
      have hz1 := HI.out
      have hz2 := HLO.out
      have HPQ : Hid (a ≤ x0 ∧ x0 < b ∧ a ≤ h ∧ h < b ∧ x0 < N ∧ h < N) := Lib.hid (by have := HF.out; have := HH.out; omega)
      have p1 : (x0 : Int) < (N : Int) := by have := HPQ.out; omega
      have p0 : (0 : Int) ≤ (x0 : Int) := by omega
      have q1 : (h : Int) < (N : Int) := by have := HPQ.out; omega
      have q0 : (0 : Int) ≤ (h : Int) := by omega
      have HC := Lib.hid fun x : World => order_any (f x0) (f h) x (HZ.out x0 HPQ.out.1 HPQ.out.2.1) (HZ.out h HPQ.out.2.2.1 HPQ.out.2.2.2.1)
      have hno := ordOf_neg (f x0) (f h)
      obtain ⟨tt, htt⟩ : ∃ t, lessOf (f (p - h)) (f h) = t := ⟨_, rfl⟩
      have HT := Lib.hid htt
      rw [hx0] at htt
      rw [htt] at hno
      obtain ⟨x, hx⟩ : ∃ x, f x0 = x := ⟨_, rfl⟩
      obtain ⟨y, hy⟩ : ∃ y, f h = y := ⟨_, rfl⟩
      obtain ⟨o, ho⟩ : ∃ o, ordOf (f x0) (f h) = o := ⟨_, rfl⟩
      rw [ho] at HC hno
      obtain ⟨cp, fp⟩ := HS.out.cell HPQ.out.2.2.2.2.1
      obtain ⟨cq, fq⟩ := HS.out.cell HPQ.out.2.2.2.2.2
      rw [hx] at HC cp
      rw [hy] at HC cq
      clear hx hy htt ho hs hh hi1 hij hj1 c0 hx0 hxr hz1 hz2
      go_upto_region 35 with fail
      go_cut [171] (fun t wx => t = .bool (!tt) ∧ SqAt g N f wx ∧ Below g w wx)
      case first =>
        obtain ⟨S, hS⟩ : ∃ S : World → Prop, S = fun y => Below wr.heap.size wr y := ⟨_, rfl⟩
        have hs0 : S wr.drew := by rw [hS]; exact (Below.refl _ _).drew
        have hS2 : ∀ u : World, S u → Below wr.heap.size wr u := fun u h => by rw [hS] at h; exact h
        have HSB : Hid (∀ y : Wd S, Below wr.heap.size wr y.w) := Lib.hid fun y => hS2 _ y.ok
        clear hS2
        have cp2 : ∀ y : Wd S, y.w.cell? ⟨g, x0, none⟩ = some (.string x) := fun y => pt_stepS cp (HSB.out y)
        have cq2 : ∀ z : Wd S, z.w.cell? ⟨g, h, none⟩ = some (.string y) := fun z => pt_stepS cq (HSB.out z)
        have HCY : Hid (∀ z : Wd S, Calls Tryd.prog 19 #[.string x, .string y] z.w fun e w'' => e = .returned (.int .i64 o) ∧ ∃ z : Wd S, w'' = z.w) := Lib.hid fun z => Calls.wd (fun u hu => by rw [hS]; exact nbel_trans (HSB.out z) hu) (HC.out z.w)
        clear hS cp cq fp fq
        haveI : Nonempty (Wd S) := ⟨⟨_, hs0⟩⟩
        refine wp_region_wd S (by kernel_rfl) (by kernel_rfl) hs0 ?_
        repeat (go_big_quiet_step (first | (go_at_call 19; with_reducible exact HCY.out _)))
        refine wpQuiet_nil ?_
        intro _ hw'
        obtain ⟨z, rfl⟩ := hw'
        go_wp2_with fail
        go_meet
        exact ⟨rfl, HS.out.below (HSB.out z), HB.out.trans ((HSB.out z).mono (Nat.le_of_lt HS.out.size))⟩
      case rest =>
      obtain ⟨rfl, hs, hb⟩ := hcut
      obtain ⟨W, rfl⟩ : ∃ x, x = wc := ⟨wc, rfl⟩
      have HS2 := Lib.hid hs
      have HB2 := Lib.hid hb
      clear hs hb cp cq fp fq hno hcall p0 p1 q0 q1 e7 u7
      cases tt with
      | false =>
        obtain ⟨h1, hh1⟩ : ∃ k, h + 1 = k := ⟨_, rfl⟩
        have e3 : (h : Int) + 1 = (h1 : Int) := by omega
        have u5 : IntKind.i64.wrap (h1 : Int) = (h1 : Int) := by have := HF.out; have := HH.out; have := HI.out; rw [IntKind.wrap_i64]; omega
        have HT1 : Hid (lessOf (f (p - (h1 - 1))) (f (h1 - 1)) = false) := Lib.hid (by rw [show h1 - 1 = h by omega]; exact HT.out)
        have HH1 : Hid (lo ≤ h1 ∧ h1 ≤ j ∧ i < h1) := Lib.hid (by have := HH.out; have := HI.out; omega)
        clear hh1 u1 u2 u3 u4 e1 e2
        go_wp2_with fail
        clear e3 u5
        go_roundw
        case rel => exact ⟨h1, j, rfl, rfl, HH1.out.1, HH1.out.2.1, HI.out.2.2, HS2.out, HB2.out, .inr HT1.out, HK2.out⟩
        case measure => have := HH1.out; have := HI.out; simp [intOf]; omega
      | true =>
        have HH2 : Hid (h ≤ hi) := Lib.hid (by have := HH.out; have := HI.out; omega)
        clear u1 u2 u3 e1 e2
        go_wp2_with fail
        clear u4
        go_roundw
        case rel => exact ⟨i, h, rfl, rfl, HI.out.1, HH.out.1, HH2.out, HS2.out, HB2.out, HK1.out, .inr HT.out⟩
        case measure => have := HH.out; simp [intOf]; omega
    · obtain rfl : i = j := by omega
      have t0 : decide ((i : Int) < (i : Int)) = false := by simp
      have t0' : decide (i < i) = false := by simp
      clear c0 hij
      clear hcall
      obtain ⟨en, hen⟩ : ∃ x, n - i = x := ⟨_, rfl⟩
      have hcu : CutAt f a m b mid i (n - i) := cut_of HSR.out HSR2.out (by have := HF.out; omega) (by have := HF.out; omega) (lo := lo) (hi := hi) (n := n) (by have := HM.out; omega) HM.out.2.2.2.2.1 HLH.out ⟨HI.out.1, HI.out.2.2⟩
        (by
          rcases HK1.out with e | e
          · exact .inl e
          · by_cases c : i = lo
            · exact .inl c
            · refine .inr ?_
              have := HI.out; have := HM.out; have := HLO.out
              rw [show n - i = p - (i - 1) by omega]; exact e)
        (by
          rcases HK2.out with e | e
          · exact .inl e
          · refine .inr ?_
            have := HM.out
            rw [show n - 1 - i = p - i by omega]; exact e)
      rw [hen] at hcu
      have HCU := Lib.hid hcu
      have HE : Hid (a ≤ i ∧ i ≤ m ∧ m ≤ en ∧ en ≤ b ∧ en + i = mid + m ∧ i ≤ mid ∧ mid ≤ en) := Lib.hid (by have h1 := hcu.lo; have h2 := hcu.sm; have h3 := hcu.me; have h4 := hcu.eb; have h5 := hcu.sum; omega)
      have w1 : (n : Int) - (i : Int) = (en : Int) := by have := HE.out; have := HM.out; omega
      have w2 : IntKind.i64.wrap (en : Int) = (en : Int) := by have := HF.out; have := HE.out; rw [IntKind.wrap_i64]; omega
      obtain ⟨G, hG⟩ : ∃ x, rot f i (m - i) (en - m) = x := ⟨_, rfl⟩
      have HG := Lib.hid hG
      have q0 := hcu.srt0 HSR.out
      have q1 := hcu.srt1 HSR2.out
      have q2 := hcu.srt2 HSR.out
      have q3 := hcu.srt3 HSR2.out
      have q4 := hcu.across HSR.out HSR2.out
      have q5 := hcu.prm
      rw [hG] at q0 q1 q2 q3 q4 q5
      have HQ := Lib.hid (And.intro q0 (And.intro q1 (And.intro q2 (And.intro q3 (And.intro q4 q5)))))
      have HZG := Lib.hid (q5.all (fun x => x.size ≤ 70368744177664) HZ.out)
      clear hcu hG hen q0 q1 q2 q3 q4 q5 HK1 HK2
      obtain ⟨B1, hB1⟩ : ∃ t, decide (i < m ∧ m < en) = t := ⟨_, rfl⟩
      have HB1 := Lib.hid hB1
      clear hB1
      go_upto_region 39 with fail
      clear t0 t0' w1 w2
      go_cut [185] from 178 to 185 (fun t wx => t = .bool B1 ∧ wx = wr)
      case first =>
        by_cases c1 : i < m
        · have s1 : decide ((i : Int) < (m : Int)) = true := by simp; omega
          have s1' : decide (i < m) = true := by simpa using c1
          by_cases c2 : m < en
          · have s2 : decide ((m : Int) < (en : Int)) = true := by simp; omega
            have s2' : decide (m < en) = true := by simpa using c2
            obtain rfl : B1 = true := by rw [← HB1.out]; exact decide_eq_true ⟨c1, c2⟩
            clear c1 c2
            go_wp2_with fail
            go_meet
            exact ⟨rfl, rfl⟩
          · have s2 : decide ((m : Int) < (en : Int)) = false := by simp; omega
            have s2' : decide (m < en) = false := by simpa using c2
            obtain rfl : B1 = false := by rw [← HB1.out]; exact decide_eq_false fun h => c2 h.2
            clear c1 c2
            go_wp2_with fail
            go_meet
            exact ⟨rfl, rfl⟩
        · have s1 : decide ((i : Int) < (m : Int)) = false := by simp; omega
          have s1' : decide (i < m) = false := by simpa using c1
          obtain rfl : B1 = false := by rw [← HB1.out]; exact decide_eq_false fun h => c1 h.1
          clear c1
          go_wp2_with fail
          go_meet
          exact ⟨rfl, rfl⟩
      case rest =>
      obtain ⟨rfl, hwc⟩ := hcut
      rw [hwc]
      clear hwc
      go_upto_if 185 with fail
      go_cut [] from 186 to 191 (fun wx => SqAt g N G wx ∧ Below g w wx)
      case first =>
        cases B1 with
        | true =>
          obtain ⟨c1, c2⟩ : i < m ∧ m < en := of_decide_eq_true HB1.out
          have HC := Lib.hid (rotate_any g N C f i m en (.func (Fn.func 19) #[] #[]) wr HS.out c1 c2 (by have := HE.out; have := HF.out; omega) HF.out.2.2.2)
          rw [HG.out] at HC
          clear c1 c2
          go_wp2_with fail
          ((with_reducible refine HC.out.mono ?_))
          rintro e w2 ⟨rfl, hs2, hb2⟩
          have HS2 := Lib.hid hs2
          have HB2 := Lib.hid (HB.out.trans hb2)
          clear hs2 hb2
          go_wp2_with fail
          go_meet
          exact ⟨HS2.out, HB2.out⟩
        | false =>
          have hs2 : SqAt g N G wr := by
            have c := of_decide_eq_false HB1.out
            by_cases c1 : i < m
            · rw [← HG.out, show en - m = 0 by have := HE.out; omega, rot_zero]; exact HS.out
            · rw [← HG.out, show m - i = 0 by omega, rot_none]; exact HS.out
          have HS2 := Lib.hid hs2
          clear hs2
          go_wp2_with fail
          go_meet
          exact ⟨HS2.out, HB.out⟩
      case rest =>
      obtain ⟨hs, hb⟩ := hcut
      obtain ⟨W, rfl⟩ : ∃ x, x = wc := ⟨wc, rfl⟩
      have HS2 := Lib.hid hs
      have HBW := Lib.hid hb
      clear hs hb HS HB HB1
      obtain ⟨B2, hB2⟩ : ∃ t, decide (a < i ∧ i < mid) = t := ⟨_, rfl⟩
      have HB2 := Lib.hid hB2
      clear hB2
      go_upto_region 41 with fail
      go_cut [199] from 192 to 199 (fun t wx => t = .bool B2 ∧ wx = W)
      case first =>
        by_cases c1 : a < i
        · have s1 : decide ((a : Int) < (i : Int)) = true := by simp; omega
          have s1' : decide (a < i) = true := by simpa using c1
          by_cases c2 : i < mid
          · have s2 : decide ((i : Int) < (mid : Int)) = true := by simp; omega
            have s2' : decide (i < mid) = true := by simpa using c2
            obtain rfl : B2 = true := by rw [← HB2.out]; exact decide_eq_true ⟨c1, c2⟩
            clear c1 c2
            go_wp2_with fail
            go_meet
            exact ⟨rfl, rfl⟩
          · have s2 : decide ((i : Int) < (mid : Int)) = false := by simp; omega
            have s2' : decide (i < mid) = false := by simpa using c2
            obtain rfl : B2 = false := by rw [← HB2.out]; exact decide_eq_false fun h => c2 h.2
            clear c1 c2
            go_wp2_with fail
            go_meet
            exact ⟨rfl, rfl⟩
        · have s1 : decide ((a : Int) < (i : Int)) = false := by simp; omega
          have s1' : decide (a < i) = false := by simpa using c1
          obtain rfl : B2 = false := by rw [← HB2.out]; exact decide_eq_false fun h => c1 h.1
          clear c1
          go_wp2_with fail
          go_meet
          exact ⟨rfl, rfl⟩
      case rest =>
      obtain ⟨rfl, hwc⟩ := hcut
      rw [hwc]
      clear hwc
      go_upto_if 199 with fail
      go_cut [] from 200 to 205 (fun wx => ∃ g1, SqAt g N g1 wx ∧ Prm a mid G g1 ∧ Srt g1 a mid ∧ Below g w wx)
      case first =>
        cases B2 with
        | true =>
          obtain ⟨c1, c2⟩ : a < i ∧ i < mid := of_decide_eq_true HB2.out
          have HC := Lib.hid (IH.out a i mid G W (by have := HM.out; omega) c1 c2 (by have := HM.out; have := HF.out; omega) HS2.out (fun k h1 h2 => HZG.out k h1 (by have := HM.out; omega)) HQ.out.1 HQ.out.2.1)
          clear c1 c2
          go_wp2_with fail
          ((with_reducible refine HC.out.mono ?_))
          rintro e w2 ⟨rfl, ⟨g1, hs3, hp3, ho3⟩, hb3⟩
          have HS3 := Lib.hid hs3
          have HBX := Lib.hid (HBW.out.trans hb3)
          have HP3 := Lib.hid hp3
          have HO3 := Lib.hid ho3
          clear hs3 hb3 hp3 ho3
          go_wp2_with fail
          go_meet
          exact ⟨g1, HS3.out, HP3.out, HO3.out, HBX.out⟩
        | false =>
          have ho3 : Srt G a mid := by
            have c := of_decide_eq_false HB2.out
            by_cases c1 : a < i
            · rw [show mid = i by have := HE.out; omega]; exact HQ.out.1
            · have h := HQ.out.2.1
              rw [show i = a by have := HE.out; omega] at h; exact h
          have HO3 := Lib.hid ho3
          clear ho3
          go_wp2_with fail
          go_meet
          exact ⟨G, HS2.out, .refl, HO3.out, HBW.out⟩
      case rest =>
      obtain ⟨g1, hs, hp, ho, hb⟩ := hcut
      obtain ⟨W2, rfl⟩ : ∃ x, x = wc := ⟨wc, rfl⟩
      have HS3 := Lib.hid hs
      have HBX := Lib.hid hb
      have HP3 := Lib.hid hp
      have HO3 := Lib.hid ho
      have HPA : Hid (Prm a b f g1) := Lib.hid (HQ.out.2.2.2.2.2.trans (hp.mono (Nat.le_refl _) (by have := HM.out; omega)))
      have r2 : Srt g1 mid en := fun x y h1 h2 h3 => by rw [hp.out x (by omega), hp.out y (by omega)]; exact HQ.out.2.2.1 x y h1 h2 h3
      have r3 : Srt g1 en b := fun x y h1 h2 h3 => by
        have := HE.out
        rw [hp.out x (by omega), hp.out y (by omega)]; exact HQ.out.2.2.2.1 x y h1 h2 h3
      have HR := Lib.hid (And.intro r2 r3)
      clear hs hb hp ho HS2 HBW HB2 r2 r3
      have fin : ∀ g2, Prm mid b g1 g2 → Srt g2 mid b → Prm a b f g2 ∧ Srt g2 a b := fun g2 hp2 hs2 => ⟨HPA.out.trans (hp2.mono (by have := HM.out; omega) (Nat.le_refl _)), srt_join HP3.out HO3.out hp2 hs2 HQ.out.2.2.2.2.1⟩
      have FIN := Lib.hid fin
      clear fin
      obtain ⟨B3, hB3⟩ : ∃ t, decide (mid < en ∧ en < b) = t := ⟨_, rfl⟩
      have HB3 := Lib.hid hB3
      clear hB3
      go_upto_region 43 with fail
      go_cut [213] from 206 to 213 (fun t wx => t = .bool B3 ∧ wx = W2)
      case first =>
        by_cases c1 : mid < en
        · have s1 : decide ((mid : Int) < (en : Int)) = true := by simp; omega
          have s1' : decide (mid < en) = true := by simpa using c1
          by_cases c2 : en < b
          · have s2 : decide ((en : Int) < (b : Int)) = true := by simp; omega
            have s2' : decide (en < b) = true := by simpa using c2
            obtain rfl : B3 = true := by rw [← HB3.out]; exact decide_eq_true ⟨c1, c2⟩
            clear c1 c2
            go_wp2_with fail
            go_meet
            exact ⟨rfl, rfl⟩
          · have s2 : decide ((en : Int) < (b : Int)) = false := by simp; omega
            have s2' : decide (en < b) = false := by simpa using c2
            obtain rfl : B3 = false := by rw [← HB3.out]; exact decide_eq_false fun h => c2 h.2
            clear c1 c2
            go_wp2_with fail
            go_meet
            exact ⟨rfl, rfl⟩
        · have s1 : decide ((mid : Int) < (en : Int)) = false := by simp; omega
          have s1' : decide (mid < en) = false := by simpa using c1
          obtain rfl : B3 = false := by rw [← HB3.out]; exact decide_eq_false fun h => c1 h.1
          clear c1
          go_wp2_with fail
          go_meet
          exact ⟨rfl, rfl⟩
      case rest =>
      obtain ⟨rfl, hwc⟩ := hcut
      rw [hwc]
      clear hwc
      go_upto_if 213 with fail
      cases B3 with
      | true =>
        obtain ⟨c1, c2⟩ : mid < en ∧ en < b := of_decide_eq_true HB3.out
        have HC := Lib.hid (IH.out mid en b g1 W2 (by have := HM.out; omega) c1 c2 HF.out.2.2.1 HS3.out (fun k h1 h2 => HPA.out.all (fun x => x.size ≤ 70368744177664) HZ.out k (by have := HM.out; omega) h2) HR.out.1 HR.out.2)
        clear c1 c2
        go_wp2_with fail
        ((with_reducible refine HC.out.mono ?_))
        rintro e w2 ⟨rfl, ⟨g2, hs4, hp4, ho4⟩, hb4⟩
        have HS4 := Lib.hid hs4
        have HBY := Lib.hid (HBX.out.trans hb4)
        have HF4 := Lib.hid (FIN.out g2 hp4 ho4)
        clear hs4 hb4 hp4 ho4
        go_wp2_with fail
        exact bodyPost_end (results_none rfl _ _ _) rfl ⟨rfl, ⟨g2, HS4.out, HF4.out.1, HF4.out.2⟩, HBY.out⟩
      | false =>
        have ho4 : Srt g1 mid b := by
          have c := of_decide_eq_false HB3.out
          by_cases c1 : mid < en
          · rw [show b = en by have := HE.out; omega]; exact HR.out.1
          · have h := HR.out.2
            rw [show en = mid by have := HE.out; omega] at h; exact h
        have HF4 := Lib.hid (FIN.out g1 .refl ho4)
        clear ho4
        go_wp2_with fail
        exact bodyPost_end (results_none rfl _ _ _) rfl ⟨rfl, ⟨g1, HS3.out, HF4.out.1, HF4.out.2⟩, HBX.out⟩
end Go.Proofs.YtdpkinppkhnjkaaDoor

namespace Go.Proofs.YtdpkinppkhnjkaaDoor
open Go.RowKit

theorem sym_all (g N C : Nat) (h3 : N ≤ 1000000) : ∀ (n a m b : Nat) (f : Seq') (w : World), b - a ≤ n → a < m → m < b → b ≤ N → SqAt g N f w → (∀ k, a ≤ k → k < b → (f k).size ≤ 70368744177664) → Srt f a m → Srt f m b →
    Calls Tryd.prog 35 #[.slice (some ⟨g, 0, none⟩) N C, .int .i64 (a : Int), .int .i64 (m : Int), .int .i64 (b : Int), .func (Fn.func 19) #[] #[]] w fun e w' => e = .returned (.tuple #[]) ∧ (∃ f', SqAt g N f' w' ∧ Prm a b f f' ∧ Srt f' a b) ∧ Below g w w' := by
  intro n
  induction n with
  | zero => intro a m b f w h1 h2 h4; omega
  | succ n ih =>
    intro a m b f w h1 h2 h4 h5 hs hz hs1 hs2
    by_cases c1 : m = a + 1
    · subst c1
      exact symA_any g N C f a b w hs h4 h5 h3 hz hs2
    · by_cases c2 : b = m + 1
      · exact symB_any g N C f a m b w hs (by omega) c2 h5 h3 hz hs1
      · exact symC_any g N C f a m b w hs (by omega) (by omega) h5 h3 hz hs1 hs2 (Lib.hid fun a' m' b' f' w' q1 q2 q3 q4 q5 q6 q7 q8 => ih a' m' b' f' w' (by omega) q2 q3 q4 q5 q6 q7 q8)
set_option maxRecDepth 100000 in
set_option maxHeartbeats 4000000 in
theorem stable_any (g N C : Nat) (f : Seq') (w : World) (h : SqAt g N f w) (h3 : N ≤ 100000) (hz : ∀ k, 0 ≤ k → k < N → (f k).size ≤ 70368744177664) :
    Calls Tryd.prog 28 #[.slice (some ⟨g, 0, none⟩) N C, .int .i64 (N : Int), .func (Fn.func 19) #[] #[]] w fun e w' => e = .returned (.tuple #[]) ∧ (∃ f', SqAt g N f' w' ∧ Prm 0 N f f' ∧ Srt f' 0 N) ∧ Below g w w' := by
  have H := Lib.hid h
  have HZ := Lib.hid hz
  have HN := Lib.hid h3
  clear h hz h3
  go_enter Tryd.func28, Tryd.ntmps28
  go_wp2_with fail
  go_loopw [7, 8] (fun av bv wr => ∃ (q a b : Nat) (f1 : Seq'), av = .int .i64 (a : Int) ∧ bv = .int .i64 (b : Int) ∧ q * 20 = a ∧ a + 20 = b ∧ a ≤ N ∧ SqAt g N f1 wr ∧ Prm 0 N f f1 ∧ Bd f1 20 a ∧ Below g w wr) (fun av _ _ => N + 1 - (intOf av).toNat)
  case atStart => exact ⟨0, 0, 20, f, rfl, rfl, rfl, rfl, Nat.zero_le _, H.out, .refl, Bd.zero f (by omega), Below.refl _ _⟩
  case round =>
    clear H
    obtain ⟨q, a, b, f1, rfl, rfl, hq, hb, haN, hs, hp, hd, hbl⟩ := hrel
    have HS := Lib.hid hs
    have HP := Lib.hid hp
    have HD := Lib.hid hd
    have HB := Lib.hid hbl
    have HQ := Lib.hid hq
    have HA : Hid (a + 20 = b ∧ a ≤ N) := Lib.hid ⟨hb, haN⟩
    clear hs hp hd hbl hq hb haN
    by_cases c : b ≤ N
    · have t1 : decide ((b : Int) ≤ (N : Int)) = true := by simp; omega
      have t1' : decide (b ≤ N) = true := by simpa using c
      have HC := Lib.hid (insert_any g N C f1 a b wr HS.out (by have := HA.out; omega) c (by have := HN.out; omega) (fun k h1 h2 => HP.out.all (fun x => x.size ≤ 70368744177664) HZ.out k (by omega) (by omega)))
      have HC2 := Lib.hid c
      obtain ⟨b2, hb2⟩ : ∃ x, b + 20 = x := ⟨_, rfl⟩
      have e1 : (b : Int) + 20 = (b2 : Int) := by omega
      have u1 : IntKind.i64.wrap (b2 : Int) = (b2 : Int) := by have := HN.out; rw [IntKind.wrap_i64]; omega
      have HB2 := Lib.hid hb2
      clear c hb2
      go_wp2_with fail
      ((with_reducible refine HC.out.mono ?_))
      rintro e w2 ⟨rfl, ⟨f2, hs2, hp2, ho2⟩, hbl2⟩
      have HS2 := Lib.hid hs2
      have HP2 := Lib.hid (HP.out.trans (hp2.mono (Nat.zero_le _) HC2.out))
      have hd2 : Bd f2 20 b := by
        have h := HD.out
        rw [← HQ.out] at h
        have h2 := h.step (g := f2) (by rw [HQ.out, HA.out.1]; exact hp2) (by rw [HQ.out, HA.out.1]; exact ho2)
        rw [HQ.out, HA.out.1] at h2
        exact h2
      have HD2 := Lib.hid hd2
      have HBL := Lib.hid (HB.out.trans hbl2)
      have HQ2 : Hid ((q + 1) * 20 = b) := Lib.hid (by have := HQ.out; have := HA.out; omega)
      clear hs2 hp2 ho2 hd2 hbl2
      go_wp2_with fail
      clear e1 u1
      go_roundw
      case rel => exact ⟨q + 1, b, b2, f2, rfl, rfl, HQ2.out, HB2.out, HC2.out, HS2.out, HP2.out, HD2.out, HBL.out⟩
      case measure => have := HA.out; have := HC2.out; simp [intOf]; omega
    · have t1 : decide ((b : Int) ≤ (N : Int)) = false := by simp; omega
      have t1' : decide (b ≤ N) = false := by simpa using c
      have HC := Lib.hid (insert_any g N C f1 a N wr HS.out HA.out.2 (Nat.le_refl _) (by have := HN.out; omega) (fun k h1 h2 => HP.out.all (fun x => x.size ≤ 70368744177664) HZ.out k (by omega) (by omega)))
      have HC2 : Hid (N < a + 20) := Lib.hid (by have := HA.out; omega)
      clear c
      go_wp2_with fail
      ((with_reducible refine HC.out.mono ?_))
      rintro e w2 ⟨rfl, ⟨f2, hs2, hp2, ho2⟩, hbl2⟩
      have HS2 := Lib.hid hs2
      have HP2 := Lib.hid (HP.out.trans (hp2.mono (Nat.zero_le _) (Nat.le_refl _)))
      have hl2 : Bl f2 20 N 0 := by
        have h := HD.out
        rw [← HQ.out] at h
        exact h.all (by rw [HQ.out]; exact hp2) (by rw [HQ.out]; exact ho2) (by rw [HQ.out]; exact HC2.out)
      have HL2 := Lib.hid hl2
      have HBL := Lib.hid (HB.out.trans hbl2)
      clear hs2 hp2 ho2 hl2 hbl2 t1 t1' HC HS HP HD HB HQ HA HC2
      go_wp2_with fail
      go_loopw [6, 7, 8, 9] (fun sv _ _ _ wr => ∃ (s : Nat) (f1 : Seq'), sv = .int .i64 (s : Int) ∧ 1 ≤ s ∧ s ≤ 300000 ∧ SqAt g N f1 wr ∧ Prm 0 N f f1 ∧ Bl f1 s N 0 ∧ Below g w wr) (fun sv _ _ _ _ => N - (intOf sv).toNat)
      case atStart => exact ⟨20, f2, rfl, by omega, by omega, HS2.out, HP2.out, HL2.out, HBL.out⟩
      case round =>
        clear HS2 HP2 HL2 HBL
        obtain ⟨s, f1, rfl, hs1, hs2, hs, hp, hl, hbl⟩ := hrel
        have HS := Lib.hid hs
        have HP := Lib.hid hp
        have HL := Lib.hid hl
        have HB := Lib.hid hbl
        have HSS : Hid (1 ≤ s ∧ s ≤ 300000) := Lib.hid ⟨hs1, hs2⟩
        clear hs hp hl hbl
        by_cases c : s < N
        · have t1 : decide ((s : Int) < (N : Int)) = true := by simp; omega
          have t1' : decide (s < N) = true := by simpa using c
          have HSN := Lib.hid c
          obtain ⟨t, ht⟩ : ∃ t, 2 * s = t := ⟨_, rfl⟩
          have e1 : (2 : Int) * (s : Int) = (t : Int) := by omega
          have e1' : (s : Int) * 2 = (t : Int) := by omega
          have u1 : IntKind.i64.wrap (t : Int) = (t : Int) := by rw [IntKind.wrap_i64]; omega
          have HT : Hid (2 * s = t ∧ 2 ≤ t ∧ t ≤ 200000) := Lib.hid ⟨ht, by omega, by have := HN.out; omega⟩
          clear c ht hs1 hs2
          go_wp2_with fail
          go_loopw [7, 8] (fun av bv wr => ∃ (q a b : Nat) (f1 : Seq'), av = .int .i64 (a : Int) ∧ bv = .int .i64 (b : Int) ∧ q * t = a ∧ a + t = b ∧ a ≤ N ∧ SqAt g N f1 wr ∧ Prm 0 N f f1 ∧ Bd f1 t a ∧ Bl f1 s N a ∧ Below g w wr) (fun av _ _ => N + 1 - (intOf av).toNat)
          case atStart => exact ⟨0, 0, t, f1, rfl, rfl, Nat.zero_mul _, by omega, Nat.zero_le _, HS.out, HP.out, Bd.zero f1 (by have := HT.out; omega), HL.out, HB.out⟩
          case round =>
            clear HS HP HL HB
            obtain ⟨q, a, b, f1, rfl, rfl, hq, hb, haN, hs, hp, hd, hl, hbl⟩ := hrel
            have HS := Lib.hid hs
            have HP := Lib.hid hp
            have HD := Lib.hid hd
            have HL := Lib.hid hl
            have HB := Lib.hid hbl
            have HQ := Lib.hid hq
            have HA : Hid (a + t = b ∧ a ≤ N) := Lib.hid ⟨hb, haN⟩
            obtain ⟨m, hm⟩ : ∃ m, a + s = m := ⟨_, rfl⟩
            have e2 : (a : Int) + (s : Int) = (m : Int) := by omega
            have hN5 := HN.out
            have hSS := HSS.out
            have hTT := HT.out
            have u2 : IntKind.i64.wrap (m : Int) = (m : Int) := by rw [IntKind.wrap_i64]; omega
            have HM : Hid (a + s = m ∧ a < m ∧ m + s = b) := Lib.hid ⟨hm, by omega, by omega⟩
            clear hs hp hd hl hbl hq hm
            by_cases c : b ≤ N
            · have t2 : decide ((b : Int) ≤ (N : Int)) = true := by simp; omega
              have t2' : decide (b ≤ N) = true := by simpa using c
              have HC := Lib.hid (sym_all g N C (by omega) _ a m b f1 wr (Nat.le_refl _) HM.out.2.1 (by have := HM.out; omega) c HS.out (fun k h1 h2 => HP.out.all (fun x => x.size ≤ 70368744177664) HZ.out k (by omega) (by omega)) (HL.out.first (by have := HM.out; omega) (by have := HM.out; omega)) (by
                have h := HL.out.second (b := b) (by have := HM.out; omega) c
                rw [HM.out.1] at h; exact h))
              have HC2 := Lib.hid c
              obtain ⟨b2, hb2⟩ : ∃ x, b + t = x := ⟨_, rfl⟩
              have e3 : (b : Int) + (t : Int) = (b2 : Int) := by omega
              have u3 : IntKind.i64.wrap (b2 : Int) = (b2 : Int) := by rw [IntKind.wrap_i64]; omega
              have HB2 := Lib.hid hb2
              clear c hb2 hN5 hSS hTT hb haN
              go_wp2_with fail
              ((with_reducible refine HC.out.mono ?_))
              rintro e w2 ⟨rfl, ⟨f2, hs2, hp2, ho2⟩, hbl2⟩
              have HS2 := Lib.hid hs2
              have HP2 := Lib.hid (HP.out.trans (hp2.mono (Nat.zero_le _) HC2.out))
              have hd2 : Bd f2 t b := by
                have h := HD.out
                rw [← HQ.out] at h
                have h2 := h.step (g := f2) (by rw [HQ.out, HA.out.1]; exact hp2) (by rw [HQ.out, HA.out.1]; exact ho2)
                rw [HQ.out, HA.out.1] at h2
                exact h2
              have hl2 : Bl f2 s N b := by
                have h := HL.out.next (g := f2) (by rw [HT.out.1, HA.out.1]; exact hp2)
                rw [HT.out.1, HA.out.1] at h
                exact h
              have HD2 := Lib.hid hd2
              have HL2 := Lib.hid hl2
              have HBL := Lib.hid (HB.out.trans hbl2)
              have HQ2 : Hid ((q + 1) * t = b) := Lib.hid (by rw [Nat.succ_mul, HQ.out]; exact HA.out.1)
              clear hs2 hp2 ho2 hd2 hl2 hbl2 e2 u2
              go_wp2_with fail
              clear e3 u3 e1 e1' u1
              go_roundw
              case rel => exact ⟨q + 1, b, b2, f2, rfl, rfl, HQ2.out, HB2.out, HC2.out, HS2.out, HP2.out, HD2.out, HL2.out, HBL.out⟩
              case measure => have := HA.out; have := HC2.out; have := HT.out; simp [intOf]; omega
            · have t2 : decide ((b : Int) ≤ (N : Int)) = false := by simp; omega
              have t2' : decide (b ≤ N) = false := by simpa using c
              have HC2 : Hid (N < a + t) := Lib.hid (by have := HA.out; omega)
              by_cases c2 : m < N
              · have t3 : decide ((m : Int) < (N : Int)) = true := by simp; omega
                have t3' : decide (m < N) = true := by simpa using c2
                have HC := Lib.hid (sym_all g N C (by omega) _ a m N f1 wr (Nat.le_refl _) HM.out.2.1 c2 (Nat.le_refl _) HS.out (fun k h1 h2 => HP.out.all (fun x => x.size ≤ 70368744177664) HZ.out k (by omega) (by omega)) (HL.out.first (by have := HM.out; omega) (by omega)) (by
                  have h := HL.out.second (b := N) (by have := HM.out; have := HA.out; omega) (Nat.le_refl _)
                  rw [HM.out.1] at h; exact h))
                clear c c2 hN5 hSS hTT hb haN
                go_wp2_with fail
                ((with_reducible refine HC.out.mono ?_))
                rintro e w2 ⟨rfl, ⟨f2, hs2, hp2, ho2⟩, hbl2⟩
                have HS2 := Lib.hid hs2
                have HP2 := Lib.hid (HP.out.trans (hp2.mono (Nat.zero_le _) (Nat.le_refl _)))
                have hl2 : Bl f2 t N 0 := by
                  have h := HD.out
                  rw [← HQ.out] at h
                  exact h.all (by rw [HQ.out]; exact hp2) (by rw [HQ.out]; exact ho2) (by rw [HQ.out]; exact HC2.out)
                have HL2 := Lib.hid hl2
                have HBL := Lib.hid (HB.out.trans hbl2)
                clear hs2 hp2 ho2 hl2 hbl2 e2 u2
                go_wp2_with fail
                clear e1 e1' u1
                go_roundw
                case rel => exact ⟨t, f2, rfl, by have := HT.out; omega, by have := HT.out; omega, HS2.out, HP2.out, HL2.out, HBL.out⟩
                case measure => have := HT.out; have := HSN.out; have := HSS.out; simp [intOf]; omega
              · have t3 : decide ((m : Int) < (N : Int)) = false := by simp; omega
                have t3' : decide (m < N) = false := by simpa using c2
                have hl2 : Bl f1 t N 0 := by
                  have h := HD.out
                  rw [← HQ.out] at h
                  exact h.all .refl (by rw [HQ.out]; exact HL.out.first (by have := HM.out; omega) (Nat.le_refl _)) (by rw [HQ.out]; exact HC2.out)
                have HL2 := Lib.hid hl2
                clear c c2 hl2 hN5 hSS hTT hb haN
                go_wp2_with fail
                clear e1 e1' u1 e2 u2
                go_roundw
                case rel => exact ⟨t, f1, rfl, by have := HT.out; omega, by have := HT.out; omega, HS.out, HP.out, HL2.out, HB.out⟩
                case measure => have := HT.out; have := HSN.out; have := HSS.out; simp [intOf]; omega
        · have t1 : decide ((s : Int) < (N : Int)) = false := by simp; omega
          have t1' : decide (s < N) = false := by simpa using c
          have HO := Lib.hid (HL.out.whole (by omega))
          clear c hs1 hs2
          go_wp2_with fail
          exact bodyPost_end (results_none rfl _ _ _) rfl ⟨rfl, ⟨f1, HS.out, HP.out, HO.out⟩, HB.out⟩
set_option maxRecDepth 100000 in
theorem sortStable_any (g N C : Nat) (f : Seq') (w : World) (h : SqAt g N f w) (h3 : N ≤ 100000) (hz : ∀ k, 0 ≤ k → k < N → (f k).size ≤ 70368744177664) :
    Calls Tryd.prog 18 #[.slice (some ⟨g, 0, none⟩) N C, .func (Fn.func 19) #[] #[]] w fun e w' => e = .returned (.tuple #[]) ∧ (∃ f', SqAt g N f' w' ∧ Prm 0 N f f' ∧ Srt f' 0 N) ∧ Below g w w' := by
  have H := Lib.hid (stable_any g N C f w h h3 hz)
  clear h h3 hz
  go_enter Tryd.func18, Tryd.ntmps18
  go_wp2_with fail
  ((with_reducible refine H.out.mono ?_))
  rintro e w2 ⟨rfl, ⟨f2, hs2, hp2, ho2⟩, hbl2⟩
  go_wp2_with fail
  exact bodyPost_end (results_none rfl _ _ _) rfl ⟨rfl, ⟨f2, hs2, hp2, ho2⟩, hbl2⟩
end Go.Proofs.YtdpkinppkhnjkaaDoor
