/- gabionlaw04.done, kinds 1 and 4, and none. -/
import Derived.Test.YtbfmpcomjmcfjaaQDone
namespace Go.Proofs.Ytbfmpcomjmcfjaa
open Go.RowKit Go.Deep
/-- What done leaves. -/
def DRet (w0 : World) (pa pq k ci cj : Nat) (bs : List Nat) (sd : Nat → Option Obj) (e : Ending) (w' : World) : Prop := (∃ b, e = .returned (.bool b)) ∧ J w0 pa pq k ci cj bs sd w'
theorem six_cells {W : World} {b : Nat} {v0 v1 v2 v3 v4 v5 : Value} {t : TypeId} (h : W.heap[b]? = some (.cells #[v0, v1, v2, v3, v4, v5] t (0, 0))) :
    W.cell? ⟨b, 0, none⟩ = some v0 ∧ W.cell? ⟨b, 1, none⟩ = some v1 ∧ W.cell? ⟨b, 2, none⟩ = some v2 ∧ W.cell? ⟨b, 3, none⟩ = some v3 ∧ W.cell? ⟨b, 4, none⟩ = some v4 ∧ W.cell? ⟨b, 5, none⟩ = some v5 := by
  simp [World.cell?, h]
theorem strOf_size (bs : List Nat) : (strOf bs).size = bs.length := by simp [strOf, ByteArray.size]
theorem J.fresh {w0 w : World} {pa pq k ci cj : Nat} {bs : List Nat} {sd : Nat → Option Obj} (h : J w0 pa pq k ci cj bs sd w) : sd w.heap.size = none := by
  obtain ⟨_, _, _, _, _, _, _, _, _, _, h1⟩ := h
  cases hs : sd w.heap.size with
  | none => rfl
  | some o => have := h1.lt hs; omega
theorem sideWith_up {sd : Nat → Option Obj} {b x : Nat} {o o' : Obj} (hb : sd b = .none) (h : sd x = some o') : sideWith sd b o x = some o' := by
  unfold sideWith
  rw [if_neg (fun e => by subst e; rw [hb] at h; cases h)]; exact h
theorem JR.j {w0 w : World} {pa pq k ci cj : Nat} {bs : List Nat} {sd : Nat → Option Obj} {a1 : Option Addr} {n1 : Nat} {b1 : List Nat} {a2 : Option Addr} {n2 : Nat} {b2 : List Nat} (h : JR w0 pa pq k ci cj bs sd a1 n1 b1 a2 n2 b2 w) : J w0 pa pq k ci cj bs sd w := by
  obtain ⟨_, _, _, _, _, _, _, _, e1, e2, h1, _⟩ := h
  exact ⟨_, _, _, _, _, _, _, _, e1, e2, h1⟩
theorem J.drop {w0 w : World} {pa pq k ci cj : Nat} {bs : List Nat} {sd sd' : Nat → Option Obj} (h : J w0 pa pq k ci cj bs sd w) (hs : ∀ x o, sd' x = some o → sd x = some o) : J w0 pa pq k ci cj bs sd' w := by
  obtain ⟨_, _, _, _, _, _, _, _, e1, e2, h1⟩ := h
  exact ⟨_, _, _, _, _, _, _, _, e1, e2, h1.na, h1.qa, h1.ev, h1.dis, h1.ki, h1.kq, h1.pg, h1.dd, h1.b1, h1.b2, h1.bel, fun x o hx => h1.side x o (hs x o hx)⟩
section
variable {w0 w : World} {pa pq k ci cj : Nat} {bs : List Nat} {sd : Nat → Option Obj}
theorem J.boot (h : J w0 pa pq k ci cj bs sd w) :
    Calls Try.prog 34 #[.pointer (some ⟨pa, 0, none⟩)] w fun e w' => e = .returned (.tuple #[]) ∧ J w0 pa pq k ci cj bs sd w' := by
  obtain ⟨B, tag, L, S, B2, tag2, L2, S2, rfl, rfl, h1⟩ := h
  refine (boot_any h1.na).mono ?_
  rintro e w' ⟨rfl, h2, hk⟩
  exact ⟨rfl, B, tag, L, S.setOff false, B2, tag2, L2, S2, rfl, rfl, ⟨h2, h1.qa.aside hk (fun x o t => h1.dis x t o), h1.ev, h1.dis, ⟨h1.ki.quiet, rfl, h1.ki.ops, h1.ki.bad, h1.ki.er, h1.ki.g⟩, h1.kq, h1.pg, h1.dd, h1.b1, h1.b2, h1.na.behind hk h1.bel h1.b1, fun x o hx => ⟨(hk.block x (h1.lt hx) (h1.side x o hx).2.1).trans (h1.side x o hx).1, (h1.side x o hx).2⟩⟩⟩
/-- The reference's power comes again. -/
theorem J.on (h : J w0 pa pq k ci cj bs sd w) : w.cell? ⟨pq, 8, none⟩ = some (.bool false) ∧ w.frozen? ⟨pq, 8, none⟩ = false ∧ pq < w.heap.size ∧ J w0 pa pq k ci cj bs sd (w.setCell ⟨pq, 8, none⟩ (.bool false)) := by
  obtain ⟨B, tag, L, S, B2, tag2, L2, S2, rfl, rfl, h1⟩ := h
  have c8 := h1.qa.c .off
  rw [h1.kq.off] at c8
  have hk : Kept (ownQ tag2) w (w.setCell ⟨L2.pa, 8, none⟩ (.bool false)) := keptQ_set h1.qa.tpa _
  exact ⟨c8, h1.qa.f .off, h1.qa.lt .off, B, tag, L, S, B2, tag2, L2, S2.setOff false, rfl, rfl, ⟨h1.na.aside hk (fun x o t => h1.dis x o t), h1.qa.setOff false, h1.ev, h1.dis, h1.ki, ⟨h1.kq.quiet, rfl, h1.kq.ops, h1.kq.bad, h1.kq.er, h1.kq.g⟩, h1.pg, h1.dd, h1.b1, h1.b2, h1.qa.behind hk h1.bel h1.b2, fun x o hx => ⟨(hk.block x (h1.lt hx) (h1.side x o hx).2.2).trans (h1.side x o hx).1, (h1.side x o hx).2⟩⟩⟩
set_option maxRecDepth 100000 in
set_option maxHeartbeats 1600000 in
theorem done_else (h : J w0 pa pq k ci cj bs sd w) (ki ch bl pg : Int) (dt : Int) (sh : Bool) (hki : ki ≠ 1 ∧ ki ≠ 2 ∧ ki ≠ 3 ∧ ki ≠ 4 ∧ ki ≠ 5) :
    Calls Try.prog 22 #[.pointer (some ⟨pa, 0, none⟩), .pointer (some ⟨pq, 0, none⟩), .agg #[.int .i64 ki, .int .i64 ch, .int .i64 bl, .int .i64 pg, .int .u8 dt, .bool sh]] w (DRet w0 pa pq k ci cj bs sd) := by
  obtain ⟨k1, k2, k3, k4, k5⟩ := hki
  have q1 : (ki == 1) = false := by simpa using k1
  have q2 : (ki == 2) = false := by simpa using k2
  have q3 : (ki == 3) = false := by simpa using k3
  have q4 : (ki == 4) = false := by simpa using k4
  have q5 : (ki == 5) = false := by simpa using k5
  have HJ := Lib.hid (h.below (bel_alloc (Below.refl _ w) (.cells #[.int .i64 ki, .int .i64 ch, .int .i64 bl, .int .i64 pg, .int .u8 dt, .bool sh] 43)))
  clear h k1 k2 k3 k4 k5
  go_enter Try.func22, Try.ntmps22
  go_wp2
  go_ret
  exact ⟨⟨_, rfl⟩, HJ.out⟩
set_option maxRecDepth 100000 in
set_option maxHeartbeats 1600000 in
theorem done_boot (h : J w0 pa pq k ci cj bs sd w) (ch bl pg : Int) (dt : Int) (sh : Bool) :
    Calls Try.prog 22 #[.pointer (some ⟨pa, 0, none⟩), .pointer (some ⟨pq, 0, none⟩), .agg #[.int .i64 4, .int .i64 ch, .int .i64 bl, .int .i64 pg, .int .u8 dt, .bool sh]] w (DRet w0 pa pq k ci cj bs sd) := by
  have HJ := Lib.hid (h.below (bel_alloc (Below.refl _ w) (.cells #[.int .i64 4, .int .i64 ch, .int .i64 bl, .int .i64 pg, .int .u8 dt, .bool sh] 43)))
  clear h
  go_enter Try.func22, Try.ntmps22
  go_wp2_with fail
  ((with_reducible refine HJ.out.boot.mono ?_))
  rintro e w1 ⟨rfl, h1⟩
  obtain ⟨c8, f8, l8, h2⟩ := h1.on
  have H2 := Lib.hid h2
  clear h1 h2
  go_wp2
  go_ret
  exact ⟨⟨_, rfl⟩, H2.out⟩
set_option maxRecDepth 100000 in
set_option maxHeartbeats 3200000 in
theorem done_read (h : J w0 pa pq k ci cj bs sd w) (hk : k ≤ 900) (ch bl pg : Int) (dt : Int) (sh : Bool) (hne : ¬ ((ci : Int) = ch ∧ (cj : Int) = bl)) :
    Calls Try.prog 22 #[.pointer (some ⟨pa, 0, none⟩), .pointer (some ⟨pq, 0, none⟩), .agg #[.int .i64 1, .int .i64 ch, .int .i64 bl, .int .i64 pg, .int .u8 dt, .bool sh]] w (DRet w0 pa pq (k + 2) ci cj bs sd) := by
  have HSD : Hid (sd w.heap.size = none) := Lib.hid h.fresh
  have HW := Lib.hid (h.alloc ((.cells #[.int .i64 1, .int .i64 ch, .int .i64 bl, .int .i64 pg, .int .u8 dt, .bool sh] 43)))
  clear h
  go_enter Try.func22, Try.ntmps22
  go_wp2_with fail
  ((with_reducible refine (HW.out.read (by omega) ch bl pg hne).mono ?_))
  rintro e w1 ⟨a1, n1, c1, b1, a2, n2, c2, b2, n, rfl, l1, l2, h1⟩
  obtain ⟨k0, k1, k2, k3, k4, k5⟩ := six_cells (h1.j.at (x := w.heap.size) (by unfold sideWith; rw [if_pos rfl])).1
  have lb := (h1.j.at (x := w.heap.size) (by unfold sideWith; rw [if_pos rfl])).2
  have H1 := Lib.hid h1
  clear h1
  go_wp2_with fail
  ((with_reducible refine (H1.out.qread (by omega) ch bl pg).mono ?_))
  rintro e w2 ⟨a3, n3, c3, b3, f, rfl, r3, l3, r1, r2, h2⟩
  have H2 := Lib.hid h2
  clear h2
  by_cases hef : n = f
  · have q : (n == f) = true := by simpa using hef
    clear hef
    have g1 := conv_str w2 a1 n1 c1 b1 r1
    have g2 := conv_str w2 a2 n2 c2 b2 r2
    have g3 := conv_str w2 a3 n3 c3 b3 r3
    have z1 : (strOf b1).size ≤ 1024 := by rw [strOf_size, r1.1]; exact l1
    have z2 : (strOf b2).size ≤ 1024 := by rw [strOf_size, r2.1]; exact l2
    obtain ⟨s1, hs1⟩ : ∃ s, strOf b1 = s := ⟨_, rfl⟩
    obtain ⟨s2, hs2⟩ : ∃ s, strOf b2 = s := ⟨_, rfl⟩
    obtain ⟨s3, hs3⟩ : ∃ s, strOf b3 = s := ⟨_, rfl⟩
    rw [hs1] at g1 z1
    rw [hs2] at g2 z2
    rw [hs3] at g3
    have z4 : (Op.stringOp .add s1 s2).run Try.prog w2 = .ok (.string (s1 ++ s2)) w2 := run_string_add_sum w2 s1 s2 (by omega)
    clear r1 r2 r3 hs1 hs2 hs3
    go_wp2
    go_ret
    exact ⟨⟨_, rfl⟩, H2.out.drop (fun x o q => sideWith_up HSD.out q)⟩
  · have q : (n == f) = false := by simpa using hef
    clear hef
    go_wp2
    go_ret
    exact ⟨⟨_, rfl⟩, H2.out.drop (fun x o q => sideWith_up HSD.out q)⟩
end
end Go.Proofs.Ytbfmpcomjmcfjaa
