/- bmap.Find; the law's small example. -/
import Derived.Test.YtgfchjchanfcgaaBmWay
namespace Go.Proofs.Ytgfchjchanfcgaa
open Go.RowKit

theorem quo4 {s k : Int} (h0 : 0 ≤ s) (hk : s / 4 = k) (h1 : s ≤ 100000) : IntKind.i64.wrap (s.tdiv 4) = k := by
  rw [IntWalk.i64_quo _ _ ⟨h0, by omega, by omega⟩]; exact hk
set_option maxRecDepth 100000 in
set_option maxHeartbeats 800000 in
theorem find_ok (n s k d a b : Int) (w : World) (hn : 0 ≤ n) (hs0 : 256 ≤ s) (hs1 : s ≤ 1024) (hk : s / 4 = k) (hd : 0 ≤ d) (hd1 : d ≤ 2) (ha : (Lit.int .i64 a).wf = true) (hb : (Lit.int .i64 b).wf = true)
    (hw : ∀ x : World, Calls Try.prog 26 #[.int .i64 n, .int .i64 k] x fun e w' => e = .returned (wayV d a b) ∧ Below x.heap.size x w') :
    Calls Try.prog 18 #[.int .i64 n, .int .i64 s] w fun e w' => e = .returned (.tuple #[wayV d a b, .int .i64 0]) ∧ Below w.heap.size w w' := by
  have HW := Lib.hid hw
  have t1 : decide (n < 0) = false := by simp; omega
  have t2 : decide (s < 256) = false := by simp; omega
  have t3 : decide (1024 < s) = false := by simp; omega
  have u1 := quo4 (by omega) hk (by omega)
  have HQ : ∀ x : World, (binOp .eql 45 (.agg #[.int .i64 d, .int .i64 a, .int .i64 b]) (.agg #[.int .i64 (-1), .int .i64 0, .int .i64 0])).run Try.prog x = .ok (.bool false) x := fun x => by
    have h := eql_way d a b (-1) 0 0 x (lit_wf64 (by omega) (by omega)) ha hb (by decide) (by decide) (by decide)
    have e : eqW d a b (-1) 0 0 = false := by rw [← Bool.not_eq_true, eqW_iff]; omega
    rw [e] at h
    exact h
  clear hw hk ha hb
  go_enter Try.func18, Try.ntmps18
  go_wp2_with fail
  ((with_reducible refine (HW.out _).mono ?_))
  rintro e w1 ⟨rfl, hb1⟩
  obtain ⟨b0, hb0⟩ : ∃ x, x = w.heap.size := ⟨_, rfl⟩
  have hh : w1.heap[b0]? = some (.cells #[.int .i64 0, .int .i64 0, .int .i64 0] 45 (0, 0)) := by
    rw [hb1.block b0 (by rw [hb0]; simp), hb0]; exact heap_alloc_new _ _
  have HB := Lib.hid (bel_trans (bel_alloc (Below.refl _ w) _) hb1)
  have hlt : b0 < w1.heap.size := (Array.getElem?_eq_some_iff.1 hh).1
  have hh2 : (w1.alloc (.cells #[.int .i64 d, .int .i64 a, .int .i64 b] 45)).heap[b0]? = some (.cells #[.int .i64 0, .int .i64 0, .int .i64 0] 45 (0, 0)) := by
    rw [(bel_alloc (Below.refl _ w1) _).block b0 hlt]; exact hh
  obtain ⟨z0, z1, z2, zf⟩ := three_cells hh2
  have f0 := zf 0
  have f1 := zf 1
  have f2 := zf 2
  have HBE := Lib.hid hb0
  rw [← hb0]
  unfold wayV
  clear hb0 hh hh2 zf hb1 hlt
  go_wp2_with fail
  have hle : w.heap.size ≤ b0 := by rw [HBE.out]; exact Nat.le_refl _
  refine bodyPost_ret (v := .tuple #[wayV d a b, .int .i64 0]) (by simp [results, Try.results18, go_sem, wayV, z0, z1, z2]) rfl ⟨rfl, ?_⟩
  exact (((bel_alloc HB.out _).setCell (p := ⟨b0, 0, none⟩) hle _).setCell (p := ⟨b0, 1, none⟩) hle _).setCell (p := ⟨b0, 2, none⟩) hle _
set_option maxRecDepth 100000 in
set_option maxHeartbeats 800000 in
theorem find_big (n s k : Int) (w : World) (hn : 0 ≤ n) (hs0 : 256 ≤ s) (hs1 : s ≤ 1024) (hk : s / 4 = k)
    (hw : ∀ x : World, Calls Try.prog 26 #[.int .i64 n, .int .i64 k] x fun e w' => e = .returned (wayV (-1) 0 0) ∧ Below x.heap.size x w') :
    Calls Try.prog 18 #[.int .i64 n, .int .i64 s] w fun e w' => e = .returned (.tuple #[wayV 0 0 0, .int .i64 27]) ∧ Below w.heap.size w w' := by
  have HW := Lib.hid hw
  have t1 : decide (n < 0) = false := by simp; omega
  have t2 : decide (s < 256) = false := by simp; omega
  have t3 : decide (1024 < s) = false := by simp; omega
  have u1 := quo4 (by omega) hk (by omega)
  have HQ : ∀ x : World, (binOp .eql 45 (.agg #[.int .i64 (-1), .int .i64 0, .int .i64 0]) (.agg #[.int .i64 (-1), .int .i64 0, .int .i64 0])).run Try.prog x = .ok (.bool true) x := fun x => by
    have h := eql_way (-1) 0 0 (-1) 0 0 x (by decide) (by decide) (by decide) (by decide) (by decide) (by decide)
    have e : eqW (-1) 0 0 (-1) 0 0 = true := by decide
    rw [e] at h
    exact h
  clear hw hk
  go_enter Try.func18, Try.ntmps18
  go_wp2_with fail
  ((with_reducible refine (HW.out _).mono ?_))
  rintro e w1 ⟨rfl, hb1⟩
  obtain ⟨b0, hb0⟩ : ∃ x, x = w.heap.size := ⟨_, rfl⟩
  have hh : w1.heap[b0]? = some (.cells #[.int .i64 0, .int .i64 0, .int .i64 0] 45 (0, 0)) := by
    rw [hb1.block b0 (by rw [hb0]; simp), hb0]; exact heap_alloc_new _ _
  have HB := Lib.hid (bel_trans (bel_alloc (Below.refl _ w) _) hb1)
  have hlt : b0 < w1.heap.size := (Array.getElem?_eq_some_iff.1 hh).1
  have hh2 : (w1.alloc (.cells #[.int .i64 (-1), .int .i64 0, .int .i64 0] 45)).heap[b0]? = some (.cells #[.int .i64 0, .int .i64 0, .int .i64 0] 45 (0, 0)) := by
    rw [(bel_alloc (Below.refl _ w1) _).block b0 hlt]; exact hh
  obtain ⟨z0, z1, z2, zf⟩ := three_cells hh2
  have f0 := zf 0
  have f1 := zf 1
  have f2 := zf 2
  have HBE := Lib.hid hb0
  rw [← hb0]
  unfold wayV
  clear hb0 hh hh2 zf hb1 hlt
  go_wp2_with fail
  have hle : w.heap.size ≤ b0 := by rw [HBE.out]; exact Nat.le_refl _
  refine bodyPost_ret (v := .tuple #[wayV 0 0 0, .int .i64 27]) (by simp [results, Try.results18, go_sem, wayV, z0, z1, z2]) rfl ⟨rfl, ?_⟩
  exact (((bel_alloc HB.out _).setCell (p := ⟨b0, 0, none⟩) hle _).setCell (p := ⟨b0, 1, none⟩) hle _).setCell (p := ⟨b0, 2, none⟩) hle _

theorem find8_any (w : World) : Calls Try.prog 18 #[.int .i64 8, .int .i64 256] w fun e w' => e = .returned (.tuple #[wayV 1 0 0, .int .i64 0]) ∧ Below w.heap.size w w' :=
  find_ok 8 256 64 1 0 0 w (by omega) (by omega) (by omega) (by decide) (by omega) (by omega) (by decide) (by decide) (fun x => way1_any 8 64 x (by omega) (by omega) (by omega))
theorem find72_any (w : World) : Calls Try.prog 18 #[.int .i64 72, .int .i64 256] w fun e w' => e = .returned (.tuple #[wayV 2 0 0, .int .i64 0]) ∧ Below w.heap.size w w' :=
  find_ok 72 256 64 2 0 0 w (by omega) (by omega) (by omega) (by decide) (by omega) (by omega) (by decide) (by decide) (fun x => way2_any 72 64 0 0 0 x (by omega) (by omega) (by omega) (by omega) (by omega) (by omega) (by decide) (by decide))
theorem eq_way_lit (d a b d' a' b' : Int) (r : Bool) (w : World) (hd : (Lit.int .i64 d).wf = true) (ha : (Lit.int .i64 a).wf = true) (hb : (Lit.int .i64 b).wf = true) (hd' : (Lit.int .i64 d').wf = true) (ha' : (Lit.int .i64 a').wf = true) (hb' : (Lit.int .i64 b').wf = true) (hr : eqW d a b d' a' b' = r) :
    (binOp .eql 45 (.agg #[.int .i64 d, .int .i64 a, .int .i64 b]) (.agg #[.int .i64 d', .int .i64 a', .int .i64 b'])).run Try.prog w = .ok (.bool r) w := by
  have h := eql_way d a b d' a' b' w hd ha hb hd' ha' hb'
  rw [hr] at h
  exact h
set_option maxRecDepth 100000 in
set_option maxHeartbeats 800000 in
theorem found_any (w : World) : Calls Try.prog 8 #[] w fun e w' => e = .returned (.bool true) ∧ Below w.heap.size w w' := by
  have H8 := Lib.hid find8_any
  have H72 := Lib.hid find72_any
  have q1 := fun x : World => eq_way_lit 1 0 0 1 0 0 true x (by decide) (by decide) (by decide) (by decide) (by decide) (by decide) (by decide)
  have q2 := fun x : World => eq_way_lit 2 0 0 2 0 0 true x (by decide) (by decide) (by decide) (by decide) (by decide) (by decide) (by decide)
  go_enter Try.func8, Try.ntmps8
  go_wp2_with fail
  ((with_reducible refine (H8.out _).mono ?_))
  rintro e w1 ⟨rfl, hb1⟩
  unfold wayV
  have HB1 := Lib.hid hb1
  clear hb1
  obtain ⟨W, hW⟩ : ∃ x, x = w1.alloc (.cells #[.int .i64 1, .int .i64 0, .int .i64 0] 45) := ⟨_, rfl⟩
  obtain ⟨p1, hp1⟩ : ∃ x, x = w1.heap.size := ⟨_, rfl⟩
  have HH : Hid (W.heap[p1]? = some (.cells #[.int .i64 1, .int .i64 0, .int .i64 0] 45 (0, 0))) := Lib.hid (by rw [hW, hp1]; exact heap_alloc_new _ _)
  have HB2 : Hid (Below w.heap.size w W) := Lib.hid (by rw [hW]; exact bel_alloc HB1.out _)
  go_wp2_with fail
  rw [← hW, ← hp1]
  clear hW hp1
  ((with_reducible refine (H72.out _).mono ?_))
  rintro e w2 ⟨rfl, hb2⟩
  have h2 : w2.heap[p1]? = some (.cells #[.int .i64 1, .int .i64 0, .int .i64 0] 45 (0, 0)) := (hb2.block p1 (Array.getElem?_eq_some_iff.1 HH.out).1).trans HH.out
  have hlt : p1 < w2.heap.size := (Array.getElem?_eq_some_iff.1 h2).1
  have h3 : (w2.alloc (.cells #[.int .i64 2, .int .i64 0, .int .i64 0] 45)).heap[p1]? = some (.cells #[.int .i64 1, .int .i64 0, .int .i64 0] 45 (0, 0)) := by
    rw [(bel_alloc (Below.refl _ w2) _).block p1 hlt]; exact h2
  have HB3 := Lib.hid (bel_trans HB2.out hb2)
  obtain ⟨z0, z1, z2, zf⟩ := three_cells h3
  clear hb2 h2 hlt h3 zf
  unfold wayV
  go_wp2_with fail
  go_ret
  exact ⟨rfl, bel_alloc HB3.out _⟩
end Go.Proofs.Ytgfchjchanfcgaa
