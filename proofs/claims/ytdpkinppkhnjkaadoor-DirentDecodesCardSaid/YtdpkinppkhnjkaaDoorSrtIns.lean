/- slices.insertionSortCmpFunc over strings. -/
import Derived.Test.YtdpkinppkhnjkaaDoorSrtOrder
import Derived.Test.YtdpkinppkhnjkaaDoorWd
namespace Go.Proofs.YtdpkinppkhnjkaaDoor
open Go.RowKit

/-- In order from a up to n, but for the one at j towards those ahead of it. -/
def InsOk (f : Seq') (a n j : Nat) : Prop := ∀ x y, a ≤ x → x < y → y < n → y ≠ j → leS (f x) (f y)
theorem InsOk.start {f : Seq'} {a i : Nat} (h : Srt f a i) : InsOk f a (i + 1) i := fun x y h1 h2 h3 h4 => h x y h1 h2 (by omega)
theorem InsOk.low {f : Seq'} {a n : Nat} (h : InsOk f a n a) : Srt f a n := fun x y h1 h2 h3 => h x y h1 h2 h3 (by omega)
theorem InsOk.done {f : Seq'} {a n j : Nat} (h : InsOk f a n j) (hj : a < j) (hl : lessOf (f j) (f (j - 1)) = false) : Srt f a n := fun x y h1 h2 h3 => by
  by_cases c : y = j
  · subst c
    by_cases c2 : x = y - 1
    · subst c2; exact hl
    · exact leS_trans (h x (y - 1) h1 (by omega) (by omega) (by omega)) hl
  · exact h x y h1 h2 h3 c
theorem InsOk.step {f : Seq'} {a n j : Nat} (h : InsOk f a n j) (hj : a < j) (hn : j < n) (hl : lessOf (f j) (f (j - 1)) = true) : InsOk (swp f j (j - 1)) a n (j - 1) := fun x y h1 h2 h3 h4 => by
  unfold swp
  by_cases c1 : y = j
  · subst c1
    rw [if_pos rfl]
    by_cases c2 : x = y - 1
    · subst c2
      rw [if_neg (by omega), if_pos rfl]
      exact lt_leS hl
    · rw [if_neg (by omega), if_neg c2]
      exact h x (y - 1) h1 (by omega) (by omega) (by omega)
  · rw [if_neg c1, if_neg h4]
    by_cases c3 : x = j
    · subst c3
      rw [if_pos rfl]
      exact h (x - 1) y (by omega) (by omega) h3 (by omega)
    · rw [if_neg c3]
      by_cases c4 : x = j - 1
      · subst c4
        rw [if_pos rfl]
        exact h j y (by omega) (by omega) h3 c1
      · rw [if_neg c4]
        exact h x y h1 h2 h3 c1
theorem pt_stepS {x y : World} {B o : Nat} {v : Value} (h : x.cell? ⟨B, o, none⟩ = some v) (hb : Below x.heap.size x y) : y.cell? ⟨B, o, none⟩ = some v := by
  rw [World.cell?_of_block (hb.block B (World.block_lt_of_cell? x ⟨B, o, none⟩ h))]
  exact h
theorem SqAt.below {g N : Nat} {f : Seq'} {w x : World} (h : SqAt g N f w) (hb : Below w.heap.size w x) : SqAt g N f x := by
  have hl := h.size
  obtain ⟨cs, h1, h2⟩ := h
  exact ⟨cs, (hb.block g hl).trans h1, h2⟩
set_option maxRecDepth 100000 in
set_option maxHeartbeats 4000000 in
theorem insert_any (g N C : Nat) (f : Seq') (a b : Nat) (w : World) (h : SqAt g N f w) (h1 : a ≤ b) (h2 : b ≤ N) (h3 : N ≤ 1000000) (hz : ∀ k, a ≤ k → k < b → (f k).size ≤ 70368744177664) :
    Calls Tryd.prog 34 #[.slice (some ⟨g, 0, none⟩) N C, .int .i64 (a : Int), .int .i64 (b : Int), .func (Fn.func 19) #[] #[]] w fun e w' => e = .returned (.tuple #[]) ∧ (∃ f', SqAt g N f' w' ∧ Prm a b f f' ∧ Srt f' a b) ∧ Below g w w' := by
  have H := Lib.hid h
  have HZ := Lib.hid hz
  have hcall : ∀ (args : Array Value) (wx : World), (callFunc 19 args).run Tryd.prog wx = .ok (.enter 19 args) wx := fun _ _ => rfl
  obtain ⟨i1, hi1⟩ : ∃ i, a + 1 = i := ⟨_, rfl⟩
  have e0 : (a : Int) + 1 = (i1 : Int) := by omega
  have u0 : IntKind.i64.wrap (i1 : Int) = (i1 : Int) := by rw [IntKind.wrap_i64]; omega
  have HF : Hid (a ≤ b ∧ b ≤ N ∧ N ≤ 1000000 ∧ a + 1 = i1) := Lib.hid ⟨h1, h2, h3, hi1⟩
  clear h h1 h2 h3 hz hi1
  go_enter Tryd.func34, Tryd.ntmps34
  go_wp2_with fail
  clear e0 u0
  go_loopw [8] (fun iv wr => ∃ (i : Nat) (f' : Seq'), iv = .int .i64 (i : Int) ∧ a + 1 ≤ i ∧ i ≤ N + 1 ∧ SqAt g N f' wr ∧ Prm a b f f' ∧ Srt f' a i ∧ Below g w wr) (fun iv _ => N + 1 - (intOf iv).toNat)
  case atStart => exact ⟨i1, f, rfl, by have := HF.out; omega, by have := HF.out; omega, H.out, .refl, fun x y h1 h2 h3 => by have := HF.out; omega, Below.refl _ _⟩
  case round =>
    obtain ⟨i, f', rfl, hi, hiN, hs, hp, ho, hb⟩ := hrel
    have HS := Lib.hid hs
    have HP := Lib.hid hp
    have HO := Lib.hid ho
    have HB := Lib.hid hb
    clear hs hp ho hb
    by_cases c0 : i < b
    · have t0 : decide ((i : Int) < (b : Int)) = true := by simp; omega
      have t0' : decide (i < b) = true := by simpa using c0
      have HI : Hid (a + 1 ≤ i ∧ i < b) := Lib.hid ⟨hi, c0⟩
      clear c0 hi hiN
      go_wp2_with fail
      clear t0 t0'
      go_loopw [9] (fun jv wr => ∃ (j : Nat) (f2 : Seq'), jv = .int .i64 (j : Int) ∧ a ≤ j ∧ j ≤ i ∧ SqAt g N f2 wr ∧ Prm a b f f2 ∧ InsOk f2 a (i + 1) j ∧ Below g w wr) (fun jv _ => (intOf jv).toNat)
      case atStart => exact ⟨i, f', rfl, by have := HI.out; omega, Nat.le_refl _, HS.out, HP.out, InsOk.start HO.out, HB.out⟩
      case round =>
        clear HS HP HO HB
        obtain ⟨j, f2, rfl, hj1, hj2, hs, hp, ho, hb⟩ := hrel
        have HS := Lib.hid hs
        have HP := Lib.hid hp
        have HO := Lib.hid ho
        have HB := Lib.hid hb
        clear hs hp ho hb
        by_cases c1 : a < j
        · have t1 : decide ((a : Int) < (j : Int)) = true := by simp; omega
          have t1' : decide (a < j) = true := by simpa using c1
          obtain ⟨k, hk⟩ : ∃ k, j - 1 = k := ⟨_, rfl⟩
          have hjN : j < N := by have := HF.out; have := HI.out; omega
          have e1 : (j : Int) - 1 = (k : Int) := by omega
          have u1 : IntKind.i64.wrap (k : Int) = (k : Int) := by have := HF.out; rw [IntKind.wrap_i64]; omega
          have p1 : (j : Int) < (N : Int) := by omega
          have p0 : (0 : Int) ≤ (j : Int) := by omega
          have q1 : (k : Int) < (N : Int) := by omega
          have q0 : (0 : Int) ≤ (k : Int) := by omega
          have HJ : Hid (a ≤ k ∧ k < b ∧ a ≤ j ∧ j < b ∧ j < N ∧ k < N ∧ a < j ∧ j < i + 1 ∧ k ≤ i ∧ k < j) := Lib.hid (by have := HI.out; omega)
          have hsz := HP.out.all (fun x => x.size ≤ 70368744177664) HZ.out
          have HC := Lib.hid fun x : World => order_any (f2 j) (f2 k) x (hsz j HJ.out.2.2.1 HJ.out.2.2.2.1) (hsz k HJ.out.1 HJ.out.2.1)
          have HDN := Lib.hid fun h => HO.out.done HJ.out.2.2.2.2.2.2.1 h
          have HST := Lib.hid fun h => HO.out.step HJ.out.2.2.2.2.2.2.1 HJ.out.2.2.2.2.2.2.2.1 h
          rw [hk] at HDN HST
          have HPS : Hid (Prm a b f (swp f2 j k)) := Lib.hid (.swap j k ⟨HJ.out.2.2.1, HJ.out.2.2.2.1⟩ ⟨HJ.out.1, HJ.out.2.1⟩ HP.out)
          have hno := ordOf_neg (f2 j) (f2 k)
          obtain ⟨x, hx⟩ : ∃ x, f2 j = x := ⟨_, rfl⟩
          obtain ⟨y, hy⟩ : ∃ y, f2 k = y := ⟨_, rfl⟩
          obtain ⟨tt, htt⟩ : ∃ t, lessOf (f2 j) (f2 k) = t := ⟨_, rfl⟩
          obtain ⟨o, ho⟩ : ∃ o, ordOf (f2 j) (f2 k) = o := ⟨_, rfl⟩
          rw [htt] at HDN HST hno
          rw [ho] at HC hno
          obtain ⟨cj, fj⟩ := HS.out.cell hjN
          obtain ⟨ck, fk⟩ := HS.out.cell HJ.out.2.2.2.2.2.1
          rw [hx] at HC cj
          rw [hy] at HC ck
          have HXY := Lib.hid (And.intro hx hy)
          clear hsz hx hy htt ho hj1 hj2 c1 hjN hk
          go_upto_region 4 with fail
          go_cut [34] (fun t wx => t = .bool tt ∧ SqAt g N f2 wx ∧ Below g w wx)
          case first =>
            obtain ⟨S, hS⟩ : ∃ S : World → Prop, S = fun y => Below wr.heap.size wr y := ⟨_, rfl⟩
            have hs0 : S wr.drew := by rw [hS]; exact (Below.refl _ _).drew
            have hS2 : ∀ u : World, S u → Below wr.heap.size wr u := fun u h => by rw [hS] at h; exact h
            have HSB : Hid (∀ y : Wd S, Below wr.heap.size wr y.w) := Lib.hid fun y => hS2 _ y.ok
            clear hS2
            have cj2 : ∀ y : Wd S, y.w.cell? ⟨g, j, none⟩ = some (.string x) := fun y => pt_stepS cj (HSB.out y)
            have ck2 : ∀ z : Wd S, z.w.cell? ⟨g, k, none⟩ = some (.string y) := fun z => pt_stepS ck (HSB.out z)
            have HCY : Hid (∀ z : Wd S, Calls Tryd.prog 19 #[.string x, .string y] z.w fun e w'' => e = .returned (.int .i64 o) ∧ ∃ z : Wd S, w'' = z.w) := Lib.hid fun z => Calls.wd (fun u hu => by rw [hS]; exact nbel_trans (HSB.out z) hu) (HC.out z.w)
            clear hS cj ck fj fk
            haveI : Nonempty (Wd S) := ⟨⟨_, hs0⟩⟩
            refine wp_region_wd S (by kernel_rfl) (by kernel_rfl) hs0 ?_
            repeat (go_big_quiet_step (first | (go_at_call 19; with_reducible exact HCY.out _)))
            refine wpQuiet_nil ?_
            intro _ hw'
            obtain ⟨z, rfl⟩ := hw'
            go_wp2_with fail
            go_meet
            exact ⟨rfl, HS.out.below (HSB.out z), HB.out.trans ((HSB.out z).mono (Nat.le_of_lt HS.out.size))⟩
          case rest =>
          obtain ⟨rfl, hs, hb⟩ := hcut
          obtain ⟨W, rfl⟩ : ∃ x, x = wc := ⟨wc, rfl⟩
          have HS2 := Lib.hid hs
          have HB2 := Lib.hid hb
          clear hs hb cj ck fj fk hno hcall
          cases tt with
          | false =>
            have HSO := Lib.hid (HDN.out rfl)
            have hi1 : i < N := by have := HI.out; have := HF.out; clear u1; omega
            have hN1 : N ≤ 1000000 := HF.out.2.2.1
            have ha1 : a + 1 ≤ i := HI.out.1
            clear HDN HST u1
            go_wp2_with fail
            go_roundw
            case rel => exact ⟨i + 1, f2, by go_num, by omega, by omega, HS2.out, HP.out, HSO.out, HB2.out⟩
            case measure => simp [intOf]; omega
          | true =>
            have HSO := Lib.hid (HST.out rfl)
            obtain ⟨cj, fj⟩ := HS2.out.cell HJ.out.2.2.2.2.1
            obtain ⟨ck, fk⟩ := HS2.out.cell HJ.out.2.2.2.2.2.1
            rw [HXY.out.1] at cj
            rw [HXY.out.2] at ck
            have fk2 := ((HS2.out.set HJ.out.2.2.2.2.1 y).cell HJ.out.2.2.2.2.2.1).2
            have ck2 := ((HS2.out.set HJ.out.2.2.2.2.1 y).cell HJ.out.2.2.2.2.2.1).1
            clear HDN HST
            go_upto_region 6 with fail
            go_region
            all_goals
              have hD : SqAt g N (swp f2 j k) ((W.setCell ⟨g, j, none⟩ (.string y)).setCell ⟨g, k, none⟩ (.string x)).drew := by
                have h := (HS2.out.set HJ.out.2.2.2.2.1 y).set HJ.out.2.2.2.2.2.1 x
                rw [← HXY.out.1, ← HXY.out.2, upd_swp, HXY.out.1, HXY.out.2] at h
                exact h
              have HD := Lib.hid hD
              have HE : Hid (Below g w ((W.setCell ⟨g, j, none⟩ (.string y)).setCell ⟨g, k, none⟩ (.string x)).drew) := Lib.hid ((HB2.out.setCell (p := ⟨g, j, none⟩) (Nat.le_refl g) _).setCell (p := ⟨g, k, none⟩) (Nat.le_refl g) _).drew
              clear hD
              go_wp2_with fail
              clear u1
              go_roundw
              case rel => exact ⟨k, swp f2 j k, rfl, HJ.out.1, HJ.out.2.2.2.2.2.2.2.2.1, HD.out, HPS.out, HSO.out, HE.out⟩
              case measure => have := HJ.out; simp [intOf]; omega
        · have t1 : decide ((a : Int) < (j : Int)) = false := by simp; omega
          have t1' : decide (a < j) = false := by simpa using c1
          obtain rfl : j = a := by omega
          clear hcall
          go_upto_region 4 with fail
          go_quiet (fail)
          all_goals
            have hi1 : i < N := by have := HI.out; have := HF.out; omega
            have hN1 : N ≤ 1000000 := HF.out.2.2.1
            have ha1 : j + 1 ≤ i := HI.out.1
            go_wp2_with fail
            go_roundw
            case rel => exact ⟨i + 1, f2, by go_num, by omega, by omega, HS.out.below ⟨rfl, rfl, rfl, Nat.le_refl _, fun _ _ => rfl⟩, HP.out, InsOk.low HO.out, HB.out.trans ⟨rfl, rfl, rfl, Nat.le_refl _, fun _ _ => rfl⟩⟩
            case measure => simp [intOf]; omega
    · have t0 : decide ((i : Int) < (b : Int)) = false := by simp; omega
      have t0' : decide (i < b) = false := by simpa using c0
      go_wp2_with fail
      exact bodyPost_end (results_none rfl _ _ _) rfl ⟨rfl, ⟨f', HS.out, HP.out, fun x y h1 h2 h3 => HO.out x y h1 h2 (by omega)⟩, HB.out⟩
end Go.Proofs.YtdpkinppkhnjkaaDoor
