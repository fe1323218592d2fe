/- gabionlaw04.done, kind 3: both erase, in whichever order. -/
import Derived.Test.YtbfmpcomjmcfjaaQDoneA
import Derived.Test.YtbfmpcomjmcfjaaInv

namespace Go.Proofs.Ytbfmpcomjmcfjaa
open Go.RowKit Go.Deep
theorem act_put_same (a : Act) (d : Nat) (v : Value) (h : d < a.tmps.size) : (a.put (some d) v).tmps.getD d undef = v := by
  simp [Act.put, h]
theorem act_put_ne (a : Act) (d k : Nat) (v : Value) (h : k ≠ d) : (a.put (some d) v).tmps.getD k undef = a.tmps.getD k undef := by
  simp [Act.put, Array.getElem?_setIfInBounds_ne (Ne.symm h)]
theorem act_put_size (a : Act) (d : Nat) (v : Value) : (a.put (some d) v).tmps.size = a.tmps.size := by simp [Act.put]
theorem act_put_defers (a : Act) (d : Nat) (v : Value) : (a.put (some d) v).defers = a.defers := rfl
/-- What holds whichever operations have come up: n slots from lo on, and slot 6 at the end. -/
structure DI (lo n : Nat) (E : Nat → Value → Prop) (M : (Nat → Prop) → World → Prop) (a0 : Act) (Lp : Nat → Prop) (a : Act) (w : World) : Prop where
  sz : a.tmps.size = 146
  df : a.defers = []
  old : ∀ s, s < lo → s ≠ 6 → a.tmps.getD s undef = a0.tmps.getD s undef
  mem : M Lp w
  val : ∀ i, i < n → Lp i → E i (a.tmps.getD (lo + i) undef)
  last : Lp n → ∃ b, a.tmps.getD 6 undef = .bool b
section
variable {lo n : Nat} {E : Nat → Value → Prop} {M : (Nat → Prop) → World → Prop} {a0 : Act} {Lp : Nat → Prop} {a : Act} {w w' : World}
theorem DI.put (hI : DI lo n E M a0 Lp a w) (hlo : 6 < lo ∧ lo + n ≤ 146) (i : Nat) (hi : i < n) {v : Value} (hE : E i v) (hM : M (fun k => Lp k ∨ k = i) w') : DI lo n E M a0 (fun k => Lp k ∨ k = i) (a.put (some (lo + i)) v) w' := by
  refine ⟨(act_put_size _ _ _).trans hI.sz, (act_put_defers _ _ _).trans hI.df, fun s h1 h2 => ?_, hM, fun j hj hL => ?_, fun hL => ?_⟩
  · rw [act_put_ne _ _ _ _ (by omega)]; exact hI.old s h1 h2
  · by_cases e : j = i
    · subst e; rw [act_put_same _ _ _ (by have := hI.sz; omega)]; exact hE
    · rw [act_put_ne _ _ _ _ (by omega)]; exact hI.val j hj (hL.resolve_right e)
  · obtain ⟨b, hb⟩ := hI.last (hL.resolve_right (by omega))
    exact ⟨b, by rw [act_put_ne _ _ _ _ (by omega)]; exact hb⟩
theorem DI.end (hI : DI lo n E M a0 Lp a w) (hlo : 6 < lo ∧ lo + n ≤ 146) (b : Bool) (hM : M (fun k => Lp k ∨ k = n) w) : DI lo n E M a0 (fun k => Lp k ∨ k = n) (a.put (some 6) (.bool b)) w := by
  refine ⟨(act_put_size _ _ _).trans hI.sz, (act_put_defers _ _ _).trans hI.df, fun s h1 h2 => ?_, hM, fun j hj hL => ?_, fun hL => ?_⟩
  · rw [act_put_ne _ _ _ _ (by omega)]; exact hI.old s h1 h2
  · rw [act_put_ne _ _ _ _ (by omega)]; exact hI.val j hj (hL.resolve_right (by omega))
  · exact ⟨b, by rw [act_put_same _ _ _ (by have := hI.sz; omega)]⟩
end
/-- The two calls' count. -/
def TwoJ (w0 : World) (pa pq k ci cj : Nat) (bs : List Nat) (sd : Nat → Option Obj) (i1 i2 : Nat) (Lp : Nat → Prop) (w : World) : Prop :=
  ∃ c, J w0 pa pq (k + c) ci cj bs sd w ∧ c ≤ 4 ∧ (¬ Lp i1 → c ≤ 2) ∧ (¬ Lp i2 → c ≤ 2) ∧ (¬ Lp i1 → ¬ Lp i2 → c = 0)
section
variable {w0 w w' : World} {pa pq k ci cj : Nat} {bs : List Nat} {sd : Nat → Option Obj} {i1 i2 : Nat} {Lp : Nat → Prop}
theorem TwoJ.same (h : TwoJ w0 pa pq k ci cj bs sd i1 i2 Lp w) (i : Nat) : TwoJ w0 pa pq k ci cj bs sd i1 i2 (fun k => Lp k ∨ k = i) w := by
  obtain ⟨c, h1, h2, h3, h4, h5⟩ := h
  exact ⟨c, h1, h2, fun q => h3 fun x => q (.inl x), fun q => h4 fun x => q (.inl x), fun q r => h5 (fun x => q (.inl x)) fun x => r (.inl x)⟩
theorem TwoJ.begin (h : TwoJ w0 pa pq k ci cj bs sd i1 i2 Lp w) {i : Nat} (hi : i = i1 ∨ i = i2) (hn : ¬ Lp i) (hii : i1 ≠ i2) : ∃ c, J w0 pa pq (k + c) ci cj bs sd w ∧ c ≤ 2 ∧ ∀ w', J w0 pa pq (k + c + 2) ci cj bs sd w' → TwoJ w0 pa pq k ci cj bs sd i1 i2 (fun k => Lp k ∨ k = i) w' := by
  obtain ⟨c, h1, h2, h3, h4, h5⟩ := h
  rcases hi with rfl | rfl
  · refine ⟨c, h1, h3 hn, fun w' hj => ⟨c + 2, hj, by have := h3 hn; omega, fun q => absurd (.inr rfl) q, fun q => ?_, fun q => absurd (.inr rfl) q⟩⟩
    have := h5 hn (fun x => q (.inl x)); omega
  · refine ⟨c, h1, h4 hn, fun w' hj => ⟨c + 2, hj, by have := h4 hn; omega, fun q => ?_, fun q => absurd (.inr rfl) q, fun _ q => absurd (.inr rfl) q⟩⟩
    have := h5 (fun x => q (.inl x)) hn; omega
end
section
variable {w0 w : World} {pa pq k ci cj : Nat} {bs : List Nat} {sd : Nat → Option Obj}
def E17 (pa pq bx : Nat) (ch bl : Int) (i : Nat) (v : Value) : Prop := match i with
  | 0 => v = .pointer (some ⟨pa, 0, none⟩)
  | 1 => v = .pointer (some ⟨bx, 1, none⟩)
  | 2 => v = .int .i64 ch
  | 3 => v = .pointer (some ⟨bx, 2, none⟩)
  | 4 => v = .int .i64 bl
  | 5 => ∃ n : Int, v = .int .i64 n
  | 6 => v = .pointer (some ⟨pq, 0, none⟩)
  | 7 => v = .pointer (some ⟨bx, 1, none⟩)
  | 8 => v = .int .i64 ch
  | 9 => v = .pointer (some ⟨bx, 2, none⟩)
  | 10 => v = .int .i64 bl
  | 11 => ∃ n : Int, v = .int .i64 n
  | 12 => ∃ b, v = .bool b
  | _ => True
set_option maxRecDepth 100000 in
set_option maxHeartbeats 3200000 in
theorem done_erase (h : J w0 pa pq k ci cj bs sd w) (hk : k ≤ 900) (ch bl pg : Int) (dt : Int) (sh : Bool) (hne : ¬ ((ci : Int) = ch ∧ (cj : Int) = bl)) :
    Calls Try.prog 22 #[.pointer (some ⟨pa, 0, none⟩), .pointer (some ⟨pq, 0, none⟩), .agg #[.int .i64 3, .int .i64 ch, .int .i64 bl, .int .i64 pg, .int .u8 dt, .bool sh]] w (DRet w0 pa pq (k + 4) ci cj bs sd) := by
  have HSD : Hid (sd w.heap.size = none) := Lib.hid h.fresh
  obtain ⟨o, ho⟩ : ∃ o, o = Obj.cells #[.int .i64 3, .int .i64 ch, .int .i64 bl, .int .i64 pg, .int .u8 dt, .bool sh] 43 := ⟨_, rfl⟩
  have HW : Hid (J w0 pa pq k ci cj bs (sideWith sd w.heap.size o) (w.alloc o)) := Lib.hid (h.alloc o)
  have HB : Hid (∀ Lp w', TwoJ w0 pa pq k ci cj bs (sideWith sd w.heap.size o) 5 11 Lp w' → w'.cell? ⟨w.heap.size, 1, none⟩ = some (.int .i64 ch) ∧ w'.cell? ⟨w.heap.size, 2, none⟩ = some (.int .i64 bl) ∧ w'.cell? ⟨w.heap.size, 3, none⟩ = some (.int .i64 pg)) := Lib.hid fun Lp w' h2 => by
    obtain ⟨c, hj, _⟩ := h2
    have h3 := (hj.at (x := w.heap.size) (o := o) (by unfold sideWith; rw [if_pos rfl])).1
    rw [ho] at h3
    obtain ⟨k0, k1, k2, k3, k4, k5⟩ := six_cells h3
    exact ⟨k1, k2, k3⟩
  have HO := Lib.hid ho
  clear h ho
  go_enter Try.func22, Try.ntmps22
  go_wp2_with fail
  rw [← HO.out]
  refine wp_region_inv0 (fun a0 => DI 101 13 (E17 pa pq w.heap.size ch bl) (TwoJ w0 pa pq k ci cj bs (sideWith sd w.heap.size o) 5 11) a0) (by kernel_rfl) (by kernel_rfl) ?start ?step ?done
  case start =>
    exact ⟨rfl, rfl, fun _ _ _ => rfl, ⟨0, HW.out.below ((Below.refl _ _).drew), by omega, fun _ => by omega, fun _ => by omega, fun _ _ => rfl⟩, fun _ _ q => q.elim, fun q => q.elim⟩
  case step =>
    intro Lp a' w' i o' hI ho hL hpre
    match i, ho, hL, hpre with
    | 0, ho, hL, hpre =>
      clear hL
      cases ho
      have q0 : a'.tmps.getD 0 undef = .pointer (some ⟨pa, 0, none⟩) := hI.old 0 (by omega) (by omega)
      refine wpOp_step rfl fun K hK => ?_
      have hK' := hK _ _ (hI.put (by omega) 0 (by omega) (v := .pointer (some ⟨pa, 0, none⟩)) (rfl) (hI.mem.same 0))
      simpa [go_sem, Act.eval, q0] using hK'
    | 1, ho, hL, hpre =>
      clear hL
      cases ho
      have q5 : a'.tmps.getD 5 undef = .pointer (some ⟨w.heap.size, 0, none⟩) := hI.old 5 (by omega) (by omega)
      refine wpOp_step rfl fun K hK => ?_
      have hK' := hK _ _ (hI.put (by omega) 1 (by omega) (v := .pointer (some ⟨w.heap.size, 1, none⟩)) (rfl) (hI.mem.same 1))
      simpa [go_sem, Act.eval, q5] using hK'
    | 2, ho, hL, hpre =>
      clear hL
      cases ho
      have q102 : a'.tmps.getD 102 undef = .pointer (some ⟨w.heap.size, 1, none⟩) := hI.val 1 (by omega) (hpre ⟨1, .data⟩ (by simp) rfl)
      have hc : w'.cell? ⟨w.heap.size, 1, none⟩ = some (.int .i64 ch) := (HB.out _ _ hI.mem).1
      refine wpOp_step rfl fun K hK => ?_
      have hK' := hK _ _ (hI.put (by omega) 2 (by omega) (v := .int .i64 ch) (rfl) (hI.mem.same 2))
      simpa [go_sem, Act.eval, q102, hc] using hK'
    | 3, ho, hL, hpre =>
      clear hL
      cases ho
      have q5 : a'.tmps.getD 5 undef = .pointer (some ⟨w.heap.size, 0, none⟩) := hI.old 5 (by omega) (by omega)
      refine wpOp_step rfl fun K hK => ?_
      have hK' := hK _ _ (hI.put (by omega) 3 (by omega) (v := .pointer (some ⟨w.heap.size, 2, none⟩)) (rfl) (hI.mem.same 3))
      simpa [go_sem, Act.eval, q5] using hK'
    | 4, ho, hL, hpre =>
      clear hL
      cases ho
      have q104 : a'.tmps.getD 104 undef = .pointer (some ⟨w.heap.size, 2, none⟩) := hI.val 3 (by omega) (hpre ⟨3, .data⟩ (by simp) rfl)
      have hc : w'.cell? ⟨w.heap.size, 2, none⟩ = some (.int .i64 bl) := (HB.out _ _ hI.mem).2.1
      refine wpOp_step rfl fun K hK => ?_
      have hK' := hK _ _ (hI.put (by omega) 4 (by omega) (v := .int .i64 bl) (rfl) (hI.mem.same 4))
      simpa [go_sem, Act.eval, q104, hc] using hK'
    | 5, ho, hL, hpre =>
      cases ho
      have q101 : a'.tmps.getD 101 undef = .pointer (some ⟨pa, 0, none⟩) := hI.val 0 (by omega) (hpre ⟨0, .data⟩ (by simp) rfl)
      have q103 : a'.tmps.getD 103 undef = .int .i64 ch := hI.val 2 (by omega) (hpre ⟨2, .data⟩ (by simp) rfl)
      have q105 : a'.tmps.getD 105 undef = .int .i64 bl := hI.val 4 (by omega) (hpre ⟨4, .data⟩ (by simp) rfl)
      obtain ⟨c, hj, hc2, hnx⟩ := hI.mem.begin (i := 5) (by omega) hL (by omega)
      refine wpOp_step rfl fun K hK => ?_
      have hcc := hj.erase (by omega) ch bl hne
      simp [go_sem, Act.eval, q101, q103, q105]
      refine hcc.mono ?_
      rintro e w2 ⟨⟨n, rfl⟩, h2⟩
      exact hK _ _ (hI.put (by omega) 5 (by omega) (v := .int .i64 n) ⟨n, rfl⟩ (hnx w2 h2))
    | 6, ho, hL, hpre =>
      clear hL
      cases ho
      have q1 : a'.tmps.getD 1 undef = .pointer (some ⟨pq, 0, none⟩) := hI.old 1 (by omega) (by omega)
      refine wpOp_step rfl fun K hK => ?_
      have hK' := hK _ _ (hI.put (by omega) 6 (by omega) (v := .pointer (some ⟨pq, 0, none⟩)) (rfl) (hI.mem.same 6))
      simpa [go_sem, Act.eval, q1] using hK'
    | 7, ho, hL, hpre =>
      clear hL
      cases ho
      have q5 : a'.tmps.getD 5 undef = .pointer (some ⟨w.heap.size, 0, none⟩) := hI.old 5 (by omega) (by omega)
      refine wpOp_step rfl fun K hK => ?_
      have hK' := hK _ _ (hI.put (by omega) 7 (by omega) (v := .pointer (some ⟨w.heap.size, 1, none⟩)) (rfl) (hI.mem.same 7))
      simpa [go_sem, Act.eval, q5] using hK'
    | 8, ho, hL, hpre =>
      clear hL
      cases ho
      have q108 : a'.tmps.getD 108 undef = .pointer (some ⟨w.heap.size, 1, none⟩) := hI.val 7 (by omega) (hpre ⟨7, .data⟩ (by simp) rfl)
      have hc : w'.cell? ⟨w.heap.size, 1, none⟩ = some (.int .i64 ch) := (HB.out _ _ hI.mem).1
      refine wpOp_step rfl fun K hK => ?_
      have hK' := hK _ _ (hI.put (by omega) 8 (by omega) (v := .int .i64 ch) (rfl) (hI.mem.same 8))
      simpa [go_sem, Act.eval, q108, hc] using hK'
    | 9, ho, hL, hpre =>
      clear hL
      cases ho
      have q5 : a'.tmps.getD 5 undef = .pointer (some ⟨w.heap.size, 0, none⟩) := hI.old 5 (by omega) (by omega)
      refine wpOp_step rfl fun K hK => ?_
      have hK' := hK _ _ (hI.put (by omega) 9 (by omega) (v := .pointer (some ⟨w.heap.size, 2, none⟩)) (rfl) (hI.mem.same 9))
      simpa [go_sem, Act.eval, q5] using hK'
    | 10, ho, hL, hpre =>
      clear hL
      cases ho
      have q110 : a'.tmps.getD 110 undef = .pointer (some ⟨w.heap.size, 2, none⟩) := hI.val 9 (by omega) (hpre ⟨9, .data⟩ (by simp) rfl)
      have hc : w'.cell? ⟨w.heap.size, 2, none⟩ = some (.int .i64 bl) := (HB.out _ _ hI.mem).2.1
      refine wpOp_step rfl fun K hK => ?_
      have hK' := hK _ _ (hI.put (by omega) 10 (by omega) (v := .int .i64 bl) (rfl) (hI.mem.same 10))
      simpa [go_sem, Act.eval, q110, hc] using hK'
    | 11, ho, hL, hpre =>
      cases ho
      have q107 : a'.tmps.getD 107 undef = .pointer (some ⟨pq, 0, none⟩) := hI.val 6 (by omega) (hpre ⟨6, .data⟩ (by simp) rfl)
      have q109 : a'.tmps.getD 109 undef = .int .i64 ch := hI.val 8 (by omega) (hpre ⟨8, .data⟩ (by simp) rfl)
      have q111 : a'.tmps.getD 111 undef = .int .i64 bl := hI.val 10 (by omega) (hpre ⟨10, .data⟩ (by simp) rfl)
      obtain ⟨c, hj, hc2, hnx⟩ := hI.mem.begin (i := 11) (by omega) hL (by omega)
      refine wpOp_step rfl fun K hK => ?_
      have hcc := hj.qerase (by omega) ch bl
      simp [go_sem, Act.eval, q107, q109, q111]
      refine hcc.mono ?_
      rintro e w2 ⟨⟨n, rfl⟩, h2⟩
      exact hK _ _ (hI.put (by omega) 11 (by omega) (v := .int .i64 n) ⟨n, rfl⟩ (hnx w2 h2))
    | 12, ho, hL, hpre =>
      clear hL
      cases ho
      obtain ⟨x1, q106⟩ : ∃ n : Int, a'.tmps.getD 106 undef = .int .i64 n := hI.val 5 (by omega) (hpre ⟨5, .data⟩ (by simp) rfl)
      obtain ⟨x2, q112⟩ : ∃ n : Int, a'.tmps.getD 112 undef = .int .i64 n := hI.val 11 (by omega) (hpre ⟨11, .data⟩ (by simp) rfl)
      refine wpOp_step rfl fun K hK => ?_
      have hK' := hK _ _ (hI.put (by omega) 12 (by omega) (v := .bool (x1 == x2)) (⟨_, rfl⟩) (hI.mem.same 12))
      simpa [go_sem, Act.eval, q106, q112] using hK'
    | 13, ho, hL, hpre =>
      clear hL
      cases ho
      obtain ⟨x1, q113⟩ : ∃ b, a'.tmps.getD 113 undef = .bool b := hI.val 12 (by omega) (hpre ⟨12, .data⟩ (by simp) rfl)
      refine wpOp_step rfl fun K hK => ?_
      have hK' := hK _ _ (hI.end (by omega) x1 (hI.mem.same 13))
      simpa [go_sem, Act.eval, q113] using hK'
    | i + 14, ho, hL, hpre => simp at ho
  case done =>
    intro Lp a' w' hI hL
    obtain ⟨b, hb⟩ := hI.last (hL 13 (by decide))
    obtain ⟨c, hj, hc, _⟩ := hI.mem
    have hd := hI.df
    have HJ := Lib.hid ((hj.mono (show k + c ≤ k + 4 by omega)).drop (fun x o q => sideWith_up HSD.out q))
    clear hI hL hj hc HB HW
    go_wp2
    refine bodyPost_ret (v := .bool b) ?_ hd ⟨⟨b, rfl⟩, HJ.out⟩
    have hb' : a'.tmps[6]?.getD undef = .bool b := by simpa using hb
    simp [results, Try.results22, go_sem, hb']
end
end Go.Proofs.Ytbfmpcomjmcfjaa
