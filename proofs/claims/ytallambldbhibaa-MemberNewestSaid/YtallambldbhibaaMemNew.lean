/- member.Newest: the set with the greatest number. -/
import Derived.Test.YtallambldbhibaaMemSame
import Derived.Test.YtallambldbhibaaWd
namespace Go.Proofs.Ytallambldbhibaa
open Go.RowKit Go.Deep

/-- Sets that come in. -/
structure RowM (w : World) (a : Option Addr) (len cap : Nat) (S : Nat → MSet) : Prop where
  le : len ≤ cap
  top : cap ≤ maxLen
  at_ : 0 < len → ∃ b off, a = some ⟨b, off, none⟩ ∧ ∀ i, i < len → (w.cell? ⟨b, off + i * 5, none⟩ = some (.int .u32 ((S i).sq : Int)) ∧ w.cell? ⟨b, off + i * 5 + 1, none⟩ = some (.slice (S i).a (S i).n (S i).c) ∧ w.cell? ⟨b, off + i * 5 + 2, none⟩ = some (.int .i64 (S i).sp) ∧ w.cell? ⟨b, off + i * 5 + 3, none⟩ = some (.int .i64 (S i).de) ∧ w.cell? ⟨b, off + i * 5 + 4, none⟩ = some (.int .i64 (S i).dn)) ∧ MSetOk w (S i) ∧ (S i).n * 8 ≤ 140737488355328
theorem RowM.step {x y : World} {a : Option Addr} {len cap : Nat} {S : Nat → MSet} (h : RowM x a len cap S) (hb : Below x.heap.size x y) : RowM y a len cap S := by
  refine ⟨h.le, h.top, fun h0 => ?_⟩
  obtain ⟨b, off, e, hc⟩ := h.at_ h0
  refine ⟨b, off, e, fun i hi => ?_⟩
  obtain ⟨⟨c0, c1, c2, c3, c4⟩, c5, c6⟩ := hc i hi
  exact ⟨⟨cell_step c0 hb, cell_step c1 hb, cell_step c2 hb, cell_step c3 hb, cell_step c4 hb⟩, c5.step hb, c6⟩
/-- Which one has the greatest number, the first of them. -/
def newI (S : Nat → MSet) : Nat → Nat
  | 0 => 0
  | k + 1 => if (S (newI S k)).sq < (S (k + 1)).sq then k + 1 else newI S k
theorem newI_le (S : Nat → MSet) : ∀ k, newI S k ≤ k
  | 0 => Nat.le_refl _
  | k + 1 => by
    have := newI_le S k
    unfold newI
    split <;> omega
theorem cloneI_big (a : Option Addr) (n c : Nat) (L : List Int) (w : World) (h : RowI w a n c L) (hl : n * 8 ≤ 140737488355328) :
    Calls Try.prog 105 #[.slice a n c] w fun e w' => ∃ v', e = .returned v' ∧ OwnI w.heap.size w' v' L ∧ Below w.heap.size w w' := by
  obtain ⟨h1, h2, h3, h4, h5, h6⟩ := h
  rcases Nat.eq_zero_or_pos n with h0 | h0
  · subst h0
    obtain rfl : L = [] := List.eq_nil_of_length_eq_zero h1
    cases a with
    | none =>
      refine (Try.slices_Clone_int_nil 0 c w).mono ?_
      rintro e w' ⟨rfl, rfl⟩
      exact ⟨_, rfl, ownI_nil _ _, Below.refl _ _⟩
    | some q =>
      refine (Try.slices_Clone_int_zero q c w).mono ?_
      rintro e w' ⟨v', rfl, ho, _, hb⟩
      exact ⟨_, rfl, ho, hb⟩
  · obtain ⟨b, off, rfl, hc⟩ := h6 h0
    refine (Try.slices_Clone_int b off n c L w (by omega) hl (fun j hj => hc j (by omega))).mono ?_
    rintro e w' ⟨v', rfl, ho, _, hb⟩
    refine ⟨_, rfl, ?_, hb⟩
    rw [List.take_of_length_le (by omega)] at ho
    unfold OwnI valz
    rw [h1]
    exact ho
theorem five_frozen {W : World} {b : Nat} {cs : Array Value} {t : TypeId} (h : W.heap[b]? = some (.cells cs t (0, 0))) (o : Nat) : W.frozen? ⟨b, o, none⟩ = false := mfree_at h o
def NewestRet (s : MSet) (w : World) (e : Ending) (w' : World) : Prop :=
  ∃ v, e = .returned (.tuple #[.agg #[.int .u32 (s.sq : Int), v, .int .i64 s.sp, .int .i64 s.de, .int .i64 s.dn], .bool true]) ∧ OwnI w.heap.size w' v s.L ∧ Below w.heap.size w w'
theorem newest_none (c : Nat) (a : Option Addr) (w : World) :
    Calls Try.prog 59 #[.slice a 0 c] w fun e w' => e = .returned (.tuple #[.agg #[.int .u32 0, .slice none 0 0, .int .i64 0, .int .i64 0, .int .i64 0], .bool false]) ∧ Below w.heap.size w w' := by
  go_enter Try.func59, Try.ntmps59
  go_wp2
  have l1 := heap_alloc_new w (.cells #[.int .u32 0, .slice none 0 0, .int .i64 0, .int .i64 0, .int .i64 0] 113)
  obtain ⟨q0, q1, q2, q3, q4⟩ := five_at l1
  refine bodyPost_ret (v := .tuple #[.agg #[.int .u32 0, .slice none 0 0, .int .i64 0, .int .i64 0, .int .i64 0], .bool false]) ?_ rfl ⟨rfl, bel_alloc (Below.refl _ w) _⟩
  simp [results, Try.results59, go_sem, q0, q1, q2, q3, q4]
set_option maxRecDepth 100000 in
set_option maxHeartbeats 1000000 in
theorem newest_any (a : Option Addr) (len cap : Nat) (S : Nat → MSet) (w : World) (hr : RowM w a len cap S) (h0 : 0 < len) (h20 : len ≤ 20) :
    Calls Try.prog 59 #[.slice a len cap] w (NewestRet (S (newI S (len - 1))) w) := by
  have hle := hr.le
  have htop := hr.top
  have HR := Lib.hid hr
  unfold maxLen at htop
  clear hr
  obtain ⟨n, hn⟩ : ∃ n, n = len - 1 := ⟨_, rfl⟩
  have HN : Hid (n = len - 1) := Lib.hid hn
  rw [← hn]
  clear hn
  have i0 : (0 : Int) < (len : Int) := by omega
  have i00 : ((len : Int) == 0) = false := by simp; omega
  go_enter Try.func59, Try.ntmps59
  go_upto_region 1 with fail
  have l0 := heap_alloc_new w (.cells #[.int .u32 0, .slice none 0 0, .int .i64 0, .int .i64 0, .int .i64 0] 113)
  have hb1 := bel_alloc (Below.refl _ w) (.cells #[.int .u32 0, .slice none 0 0, .int .i64 0, .int .i64 0, .int .i64 0] 113)
  have hr1 := HR.out.step hb1
  have hsz : w.heap.size < (w.alloc (.cells #[.int .u32 0, .slice none 0 0, .int .i64 0, .int .i64 0, .int .i64 0] 113)).heap.size := by simp
  obtain ⟨w1, hw1⟩ : ∃ x, x = w.alloc (.cells #[.int .u32 0, .slice none 0 0, .int .i64 0, .int .i64 0, .int .i64 0] 113) := ⟨_, rfl⟩
  obtain ⟨rb, hrb⟩ : ∃ x, x = w.heap.size := ⟨_, rfl⟩
  rw [← hw1, ← hrb] at l0 hsz
  rw [← hw1] at hb1 hr1
  rw [← hw1, ← hrb]
  obtain ⟨b, off, rfl, hc⟩ := hr1.at_ h0
  have HC := Lib.hid hc
  have HL0 := Lib.hid l0
  have HB1 := Lib.hid hb1
  have HRB := Lib.hid hrb
  have HSZ := Lib.hid hsz
  clear hw1 hrb hc l0 hb1 hsz hr1 HR
  obtain ⟨⟨c0, c1, c2, c3, c4⟩, _, _⟩ := HC.out 0 (by omega)
  simp only [Nat.zero_mul, Nat.add_zero] at c0 c1 c2 c3 c4
  go_upto_region 4 with fail
  have l1 := heap_alloc_new w1 (.cells #[.int .u32 ((S 0).sq : Int), .slice (S 0).a (S 0).n (S 0).c, .int .i64 (S 0).sp, .int .i64 (S 0).de, .int .i64 (S 0).dn] 113)
  have hb2 := bel_alloc (Below.refl _ w1) (.cells #[.int .u32 ((S 0).sq : Int), .slice (S 0).a (S 0).n (S 0).c, .int .i64 (S 0).sp, .int .i64 (S 0).de, .int .i64 (S 0).dn] 113)
  have hsz2 : w1.heap.size < (w1.alloc (.cells #[.int .u32 ((S 0).sq : Int), .slice (S 0).a (S 0).n (S 0).c, .int .i64 (S 0).sp, .int .i64 (S 0).de, .int .i64 (S 0).dn] 113)).heap.size := by simp
  obtain ⟨w2, hw2⟩ : ∃ x, x = w1.alloc (.cells #[.int .u32 ((S 0).sq : Int), .slice (S 0).a (S 0).n (S 0).c, .int .i64 (S 0).sp, .int .i64 (S 0).de, .int .i64 (S 0).dn] 113) := ⟨_, rfl⟩
  obtain ⟨fb, hfb⟩ : ∃ x, x = w1.heap.size := ⟨_, rfl⟩
  rw [← hw2, ← hfb] at l1 hsz2
  rw [← hw2] at hb2
  rw [← hw2, ← hfb]
  have HFB := Lib.hid hfb
  have HB2 := Lib.hid hb2
  have HL1 : Hid (w2.heap[fb]? = some (.cells #[.int .u32 ((S (newI S 0)).sq : Int), .slice (S (newI S 0)).a (S (newI S 0)).n (S (newI S 0)).c, .int .i64 (S (newI S 0)).sp, .int .i64 (S (newI S 0)).de, .int .i64 (S (newI S 0)).dn] 113 (0, 0))) := Lib.hid l1
  have HSZ2 := Lib.hid hsz2
  clear hw2 hfb hb2 l1 hsz2 c0 c1 c2 c3 c4
  obtain ⟨s, hs⟩ : ∃ s, s = S (newI S n) := ⟨_, rfl⟩
  have HMO := Lib.hid (HC.out (newI S n) (by have := newI_le S n; have := HN.out; omega)).2.1
  have HM8 := Lib.hid (HC.out (newI S n) (by have := newI_le S n; have := HN.out; omega)).2.2
  rw [← hs] at HMO HM8
  rw [← hs]
  have HS := Lib.hid hs
  clear hs
  by_cases hcp : cap = 1
  · obtain rfl : len = 1 := by omega
    subst hcp
    obtain rfl : n = 0 := by have := HN.out; omega
    clear h0 h20 hle htop i0
    rw [← HS.out] at HL1
    have HLr0 := HL1
    have HRr0 := Lib.hid ((HB2.out.block _ HSZ.out).trans HL0.out)
    have HBr0 := HB2
    clear HL1
    go_upto_region 5 with fail
    go_loopw [17] (fun i wr => i = .int .i64 0 ∧ wr = w2) (fun _ _ => 0)
    case atStart => exact ⟨rfl, rfl⟩
    case round =>
      obtain ⟨rfl, rfl⟩ := hrel
      have HLr := HLr0
      have HRr := HRr0
      have HBr := HBr0
      clear HLr0 HRr0 HBr0
      have HMS := Lib.hid (HMO.out.step HBr.out)
      have HCL := Lib.hid (cloneI_big s.a s.n s.c s.L wr HMS.out.row HM8.out)
      obtain ⟨z0, z1, z2, z3, z4⟩ := five_at HLr.out
      go_wp2_with fail
      ((with_reducible refine HCL.out.mono ?_))
      rintro e wt ⟨v, rfl, ho, hbt⟩
      obtain ⟨va, vc, rfl, _, _⟩ := ownI_row ho HMS.out.row.2.2.2.2.1
      have hLt := (hbt.block _ (Array.getElem?_eq_some_iff.1 HLr.out).1).trans HLr.out
      have hRt := (hbt.block _ (Array.getElem?_eq_some_iff.1 HRr.out).1).trans HRr.out
      have hfw : fb < wr.heap.size := (Array.getElem?_eq_some_iff.1 HLr.out).1
      have hBt : Below w1.heap.size w1 wt := bel_trans HBr.out hbt
      clear z0 z1 z2 z3 z4
      obtain ⟨z0, z1, z2, z3, z4⟩ := five_at hLt
      have zf := mfree_at hLt
      have hLu : Hid ((wt.setCell ⟨fb, 1, none⟩ (.slice va s.L.length vc)).heap[fb]? = some (.cells #[.int .u32 (s.sq : Int), (.slice va s.L.length vc), .int .i64 s.sp, .int .i64 s.de, .int .i64 s.dn] 113 (0, 0))) := Lib.hid (by
        have := heap_setCell_same wt fb 1 _ _ (.slice va s.L.length vc) hLt
        simpa using this)
      have hRu : Hid ((wt.setCell ⟨fb, 1, none⟩ (.slice va s.L.length vc)).heap[rb]? = some (.cells #[.int .u32 0, .slice none 0 0, .int .i64 0, .int .i64 0, .int .i64 0] 113 (0, 0))) := Lib.hid (by
        have := heap_setCell_other wt ⟨fb, 1, none⟩ rb (.slice va s.L.length vc) (by have := HFB.out; have := HSZ.out; simp; omega)
        exact this.trans hRt)
      have hOu : Hid (OwnI wr.heap.size (wt.setCell ⟨fb, 1, none⟩ (.slice va s.L.length vc)) (.slice va s.L.length vc) s.L) := Lib.hid (ownsRow_setCell_below ho (by simpa using hfw) (.slice va s.L.length vc))
      have hBu : Hid (Below w1.heap.size w1 (wt.setCell ⟨fb, 1, none⟩ (.slice va s.L.length vc))) := Lib.hid (hBt.setCell (p := ⟨fb, 1, none⟩) (Nat.le_of_eq HFB.out.symm) (.slice va s.L.length vc))
      have hWR : Hid (w.heap.size ≤ wr.heap.size) := Lib.hid (Nat.le_trans HB1.out.size HBr.out.size)
      clear ho hbt hLt hRt hfw hBt
      go_upto_region 11 with fail
      obtain ⟨wu, hwu⟩ : ∃ x, x = wt.setCell ⟨fb, 1, none⟩ (.slice va s.L.length vc) := ⟨_, rfl⟩
      rw [← hwu] at hLu hRu hOu hBu ⊢
      clear hwu z0 z1 z2 z3 z4 zf
      obtain ⟨z0, z1, z2, z3, z4⟩ := five_at hLu.out
      obtain ⟨y0, y1, y2, y3, y4⟩ := five_at hRu.out
      have yf := mfree_at hRu.out
      have E5 := Lib.hid (five_put (.int .u32 (s.sq : Int)) (.slice va s.L.length vc) (.int .i64 s.sp) (.int .i64 s.de) (.int .i64 s.dn) hRu.out)
      have hlt : rb < wr.heap.size := (Array.getElem?_eq_some_iff.1 HRr.out).1
      have hle' : w.heap.size ≤ rb := Nat.le_of_eq HRB.out.symm
      have e6 : Below w.heap.size w _ := ((((((HB1.out.trans (hBu.out.mono HB1.out.size)).setCell (p := ⟨rb, 0, none⟩) hle' (.int .u32 (s.sq : Int))).setCell (p := ⟨rb, 1, none⟩) hle' (.slice va s.L.length vc)).setCell (p := ⟨rb, 2, none⟩) hle' (.int .i64 s.sp)).setCell (p := ⟨rb, 3, none⟩) hle' (.int .i64 s.de)).setCell (p := ⟨rb, 4, none⟩) hle' (.int .i64 s.dn))
      have e7 : OwnI wr.heap.size _ (.slice va s.L.length vc) s.L := ownsRow_setCell_below (a := ⟨rb, 4, none⟩) (ownsRow_setCell_below (a := ⟨rb, 3, none⟩) (ownsRow_setCell_below (a := ⟨rb, 2, none⟩) (ownsRow_setCell_below (a := ⟨rb, 1, none⟩) (ownsRow_setCell_below (a := ⟨rb, 0, none⟩) hOu.out hlt (.int .u32 (s.sq : Int))) hlt (.slice va s.L.length vc)) hlt (.int .i64 s.sp)) hlt (.int .i64 s.de)) hlt (.int .i64 s.dn)
      have E6 := Lib.hid (And.intro e7 e6)
      clear hlt hle' e6 e7
      go_wp2
      obtain ⟨q0, q1, q2, q3, q4⟩ := five_at E5.out
      rw [← HS.out]
      refine bodyPost_ret (v := .tuple #[.agg #[.int .u32 (s.sq : Int), (.slice va s.L.length vc), .int .i64 s.sp, .int .i64 s.de, .int .i64 s.dn], .bool true]) ?_ rfl ⟨_, rfl, ownI_mono E6.out.1 hWR.out, E6.out.2⟩
      simp [results, Try.results59, go_sem, q0, q1, q2, q3, q4]
  · go_upto_region 5 with fail
    rw [← HN.out]
    go_loopw [17] (fun i wr => ∃ k : Nat, k ≤ n ∧ i = .int .i64 (k : Int) ∧ wr.heap[fb]? = some (.cells #[.int .u32 ((S (newI S k)).sq : Int), .slice (S (newI S k)).a (S (newI S k)).n (S (newI S k)).c, .int .i64 (S (newI S k)).sp, .int .i64 (S (newI S k)).de, .int .i64 (S (newI S k)).dn] 113 (0, 0)) ∧ Below w1.heap.size w1 wr) (fun i _ => n - (intOf i).toNat)
    case atStart => exact ⟨0, Nat.zero_le _, rfl, HL1.out, HB2.out⟩
    case round =>
      obtain ⟨k, hk, rfl, hlr, hbr⟩ := hrel
      have HLr := Lib.hid hlr
      have HBr := Lib.hid hbr
      clear hlr hbr HL1
      by_cases hlt : k < n
      · have t1 : decide (k < n) = true := by simpa using hlt
        have hkl : k + 1 < len := by have := HN.out; omega
        obtain ⟨⟨c0, c1, c2, c3, c4⟩, _, _⟩ := HC.out (k + 1) hkl
        rw [show off + (k + 1) * 5 = off + 5 + k * 5 by omega] at c0 c1 c2 c3 c4
        replace c0 := cell_step c0 HBr.out
        replace c1 := cell_step c1 HBr.out
        replace c2 := cell_step c2 HBr.out
        replace c3 := cell_step c3 HBr.out
        replace c4 := cell_step c4 HBr.out
        have j0 : (0 : Int) ≤ (k : Int) := by omega
        have j1 : (k : Int) < (n : Int) := by omega
        go_upto_region 7 with fail
        have ls := heap_alloc_new wr (.cells #[.int .u32 ((S (k+1)).sq : Int), .slice (S (k+1)).a (S (k+1)).n (S (k+1)).c, .int .i64 (S (k+1)).sp, .int .i64 (S (k+1)).de, .int .i64 (S (k+1)).dn] 113)
        have hba := bel_alloc (Below.refl _ wr) (.cells #[.int .u32 ((S (k+1)).sq : Int), .slice (S (k+1)).a (S (k+1)).n (S (k+1)).c, .int .i64 (S (k+1)).sp, .int .i64 (S (k+1)).de, .int .i64 (S (k+1)).dn] 113)
        have hla := (hba.block _ (Array.getElem?_eq_some_iff.1 HLr.out).1).trans HLr.out
        have hbw := bel_trans HBr.out hba
        have hfs : fb ≠ wr.heap.size := by have := (Array.getElem?_eq_some_iff.1 HLr.out).1; omega
        obtain ⟨wa, hwa⟩ : ∃ x, x = wr.alloc (.cells #[.int .u32 ((S (k+1)).sq : Int), .slice (S (k+1)).a (S (k+1)).n (S (k+1)).c, .int .i64 (S (k+1)).sp, .int .i64 (S (k+1)).de, .int .i64 (S (k+1)).dn] 113) := ⟨_, rfl⟩
        obtain ⟨sb, hsb⟩ : ∃ x, x = wr.heap.size := ⟨_, rfl⟩
        rw [← hwa, ← hsb] at ls
        rw [← hwa] at hla hbw
        rw [← hsb] at hfs
        rw [← hwa, ← hsb]
        clear hwa hsb hba c0 c1 c2 c3 c4
        have HBA := Lib.hid hbw
        have HLA := Lib.hid hla
        obtain ⟨y0, y1, y2, y3, y4⟩ := five_at ls
        obtain ⟨z0, z1, z2, z3, z4⟩ := five_at hla
        have zf := mfree_at hla
        by_cases hgt : (S (newI S k)).sq < (S (k + 1)).sq
        · have g1 : decide ((S (newI S k)).sq < (S (k + 1)).sq) = true := by simpa using hgt
          have g2 : decide (((S (newI S k)).sq : Int) < ((S (k + 1)).sq : Int)) = true := by simpa using hgt
          have e5 := five_put (.int .u32 ((S (k + 1)).sq : Int)) (.slice (S (k + 1)).a (S (k + 1)).n (S (k + 1)).c) (.int .i64 (S (k + 1)).sp) (.int .i64 (S (k + 1)).de) (.int .i64 (S (k + 1)).dn) hla
          have hnx : newI S (k + 1) = k + 1 := by conv => lhs; unfold newI
                                                  rw [if_pos hgt]
          have hle' : w1.heap.size ≤ fb := Nat.le_of_eq HFB.out.symm
          have e6 : Below w1.heap.size w1 _ := (((((hbw.setCell (p := ⟨fb, 0, none⟩) hle' (.int .u32 ((S (k + 1)).sq : Int))).setCell (p := ⟨fb, 1, none⟩) hle' (.slice (S (k + 1)).a (S (k + 1)).n (S (k + 1)).c)).setCell (p := ⟨fb, 2, none⟩) hle' (.int .i64 (S (k + 1)).sp)).setCell (p := ⟨fb, 3, none⟩) hle' (.int .i64 (S (k + 1)).de)).setCell (p := ⟨fb, 4, none⟩) hle' (.int .i64 (S (k + 1)).dn))
          have E5 := Lib.hid (And.intro e5 e6)
          have HNX := Lib.hid hnx
          clear e5 e6 hla hbw ls hle' hgt hnx
          go_wp2
          go_roundw
          case rel => exact ⟨k + 1, by omega, by go_num, by rw [HNX.out]; exact E5.out.1, E5.out.2⟩
          case measure => simp [intOf]; omega
        · have g1 : decide ((S (newI S k)).sq < (S (k + 1)).sq) = false := by simpa using hgt
          have g2 : decide (((S (newI S k)).sq : Int) < ((S (k + 1)).sq : Int)) = false := by simpa using hgt
          have hnx : newI S (k + 1) = newI S k := by conv => lhs; unfold newI
                                                     rw [if_neg hgt]
          have HNX := Lib.hid hnx
          clear hla hbw ls hgt hnx
          go_wp2
          go_roundw
          case rel => exact ⟨k + 1, by omega, by go_num, by rw [HNX.out]; exact HLA.out, HBA.out⟩
          case measure => simp [intOf]; omega
      · obtain rfl : k = n := by omega
        have t1 : decide (k < k) = false := by simp
        rw [← HS.out] at HLr
        have HRr := Lib.hid ((HBr.out.block _ HSZ.out).trans HL0.out)
        clear hlt
        have HMS := Lib.hid (HMO.out.step HBr.out)
        have HCL := Lib.hid (cloneI_big s.a s.n s.c s.L wr HMS.out.row HM8.out)
        obtain ⟨z0, z1, z2, z3, z4⟩ := five_at HLr.out
        go_wp2_with fail
        ((with_reducible refine HCL.out.mono ?_))
        rintro e wt ⟨v, rfl, ho, hbt⟩
        obtain ⟨va, vc, rfl, _, _⟩ := ownI_row ho HMS.out.row.2.2.2.2.1
        have hLt := (hbt.block _ (Array.getElem?_eq_some_iff.1 HLr.out).1).trans HLr.out
        have hRt := (hbt.block _ (Array.getElem?_eq_some_iff.1 HRr.out).1).trans HRr.out
        have hfw : fb < wr.heap.size := (Array.getElem?_eq_some_iff.1 HLr.out).1
        have hBt : Below w1.heap.size w1 wt := bel_trans HBr.out hbt
        clear z0 z1 z2 z3 z4
        obtain ⟨z0, z1, z2, z3, z4⟩ := five_at hLt
        have zf := mfree_at hLt
        have hLu : Hid ((wt.setCell ⟨fb, 1, none⟩ (.slice va s.L.length vc)).heap[fb]? = some (.cells #[.int .u32 (s.sq : Int), (.slice va s.L.length vc), .int .i64 s.sp, .int .i64 s.de, .int .i64 s.dn] 113 (0, 0))) := Lib.hid (by
          have := heap_setCell_same wt fb 1 _ _ (.slice va s.L.length vc) hLt
          simpa using this)
        have hRu : Hid ((wt.setCell ⟨fb, 1, none⟩ (.slice va s.L.length vc)).heap[rb]? = some (.cells #[.int .u32 0, .slice none 0 0, .int .i64 0, .int .i64 0, .int .i64 0] 113 (0, 0))) := Lib.hid (by
          have := heap_setCell_other wt ⟨fb, 1, none⟩ rb (.slice va s.L.length vc) (by have := HFB.out; have := HSZ.out; simp; omega)
          exact this.trans hRt)
        have hOu : Hid (OwnI wr.heap.size (wt.setCell ⟨fb, 1, none⟩ (.slice va s.L.length vc)) (.slice va s.L.length vc) s.L) := Lib.hid (ownsRow_setCell_below ho (by simpa using hfw) (.slice va s.L.length vc))
        have hBu : Hid (Below w1.heap.size w1 (wt.setCell ⟨fb, 1, none⟩ (.slice va s.L.length vc))) := Lib.hid (hBt.setCell (p := ⟨fb, 1, none⟩) (Nat.le_of_eq HFB.out.symm) (.slice va s.L.length vc))
        have hWR : Hid (w.heap.size ≤ wr.heap.size) := Lib.hid (Nat.le_trans HB1.out.size HBr.out.size)
        clear ho hbt hLt hRt hfw hBt
        go_upto_region 11 with fail
        obtain ⟨wu, hwu⟩ : ∃ x, x = wt.setCell ⟨fb, 1, none⟩ (.slice va s.L.length vc) := ⟨_, rfl⟩
        rw [← hwu] at hLu hRu hOu hBu ⊢
        clear hwu z0 z1 z2 z3 z4 zf
        obtain ⟨z0, z1, z2, z3, z4⟩ := five_at hLu.out
        obtain ⟨y0, y1, y2, y3, y4⟩ := five_at hRu.out
        have yf := mfree_at hRu.out
        have E5 := Lib.hid (five_put (.int .u32 (s.sq : Int)) (.slice va s.L.length vc) (.int .i64 s.sp) (.int .i64 s.de) (.int .i64 s.dn) hRu.out)
        have hlt : rb < wr.heap.size := (Array.getElem?_eq_some_iff.1 HRr.out).1
        have hle' : w.heap.size ≤ rb := Nat.le_of_eq HRB.out.symm
        have e6 : Below w.heap.size w _ := ((((((HB1.out.trans (hBu.out.mono HB1.out.size)).setCell (p := ⟨rb, 0, none⟩) hle' (.int .u32 (s.sq : Int))).setCell (p := ⟨rb, 1, none⟩) hle' (.slice va s.L.length vc)).setCell (p := ⟨rb, 2, none⟩) hle' (.int .i64 s.sp)).setCell (p := ⟨rb, 3, none⟩) hle' (.int .i64 s.de)).setCell (p := ⟨rb, 4, none⟩) hle' (.int .i64 s.dn))
        have e7 : OwnI wr.heap.size _ (.slice va s.L.length vc) s.L := ownsRow_setCell_below (a := ⟨rb, 4, none⟩) (ownsRow_setCell_below (a := ⟨rb, 3, none⟩) (ownsRow_setCell_below (a := ⟨rb, 2, none⟩) (ownsRow_setCell_below (a := ⟨rb, 1, none⟩) (ownsRow_setCell_below (a := ⟨rb, 0, none⟩) hOu.out hlt (.int .u32 (s.sq : Int))) hlt (.slice va s.L.length vc)) hlt (.int .i64 s.sp)) hlt (.int .i64 s.de)) hlt (.int .i64 s.dn)
        have E6 := Lib.hid (And.intro e7 e6)
        clear hlt hle' e6 e7
        go_wp2
        obtain ⟨q0, q1, q2, q3, q4⟩ := five_at E5.out
        rw [← HS.out]
        refine bodyPost_ret (v := .tuple #[.agg #[.int .u32 (s.sq : Int), (.slice va s.L.length vc), .int .i64 s.sp, .int .i64 s.de, .int .i64 s.dn], .bool true]) ?_ rfl ⟨_, rfl, ownI_mono E6.out.1 hWR.out, E6.out.2⟩
        simp [results, Try.results59, go_sem, q0, q1, q2, q3, q4]
end Go.Proofs.Ytallambldbhibaa
