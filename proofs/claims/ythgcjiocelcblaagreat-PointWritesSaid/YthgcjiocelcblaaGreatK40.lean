/- point.rows, walked. -/
import Derived.Test.YthgcjiocelcblaaGreatK38
import Derived.Test.YthgcjiocelcblaaGreatK39
import Derived.Maps.OwnIn
namespace Go.Proofs.YthgcjiocelcblaaGreat
open Go.RowKit Go.Deep

/-- The pages that came of some rows: C's, one row behind the other. -/
structure RowL (B : Nat) (W : World) (sv : Value) (sz wd : Nat) (C : Nat → RH × List Nat) (rs : List Nat) (L : List SP) : Prop where
  len : L.length = rs.length * wd
  ok : ∀ i, i < rs.length → ∀ q, q < wd → (L.getD (i * wd + q) SP.nil).h = (C (rs.getD i 0 * wd + q)).1 ∧ (L.getD (i * wd + q) SP.nil).d.l = (C (rs.getD i 0 * wd + q)).2
  part : ∀ p ∈ L, PartOk W p.d ∧ p.d.n = sz ∧ Far B p.d ∧ ∀ x, p.d.a = some x → x.block < W.heap.size ∧ some x.block ≠ sv.ownBlock
/-- The four boxes with which point.rows begins. -/
def rw4 (w : World) (dv : Value) (seg : Int) : World := (((w.alloc (.cells #[dv] 99)).alloc (.cells #[.int .i64 seg] 3)).alloc (.cells #[.slice none 0 0] 84)).alloc (.cells #[.int .i64 0] 30)
structure Rw4 (A : Nat) (dv : Value) (seg : Int) (x : World) : Prop where
  d : x.heap[A]? = some (.cells #[dv] 99 (0, 0))
  g : x.heap[A + 1]? = some (.cells #[.int .i64 seg] 3 (0, 0))
  l : x.heap[A + 2]? = some (.cells #[.slice none 0 0] 84 (0, 0))
  e : x.heap[A + 3]? = some (.cells #[.int .i64 0] 30 (0, 0))
theorem rw4_of (w : World) (dv : Value) (seg : Int) : Rw4 w.heap.size dv seg (rw4 w dv seg) := by
  have h1 := heap_alloc_new w (.cells #[dv] 99)
  have h2 := heap_alloc_new (w.alloc (.cells #[dv] 99)) (.cells #[.int .i64 seg] 3)
  have h3 := heap_alloc_new ((w.alloc (.cells #[dv] 99)).alloc (.cells #[.int .i64 seg] 3)) (.cells #[.slice none 0 0] 84)
  have h4 := heap_alloc_new (((w.alloc (.cells #[dv] 99)).alloc (.cells #[.int .i64 seg] 3)).alloc (.cells #[.slice none 0 0] 84)) (.cells #[.int .i64 0] 30)
  rw [World.size_alloc] at h2
  rw [World.size_alloc, World.size_alloc] at h3
  rw [World.size_alloc, World.size_alloc, World.size_alloc] at h4
  have k1 := (heap_alloc_old' (w := w.alloc (.cells #[dv] 99)) (k := w.heap.size) (by simp) (.cells #[.int .i64 seg] 3)).trans h1
  have k2 := (heap_alloc_old' (w := (w.alloc (.cells #[dv] 99)).alloc (.cells #[.int .i64 seg] 3)) (k := w.heap.size) (by simp; omega) (.cells #[.slice none 0 0] 84)).trans k1
  have l2 := (heap_alloc_old' (w := (w.alloc (.cells #[dv] 99)).alloc (.cells #[.int .i64 seg] 3)) (k := w.heap.size + 1) (by simp) (.cells #[.slice none 0 0] 84)).trans h2
  exact ⟨(heap_alloc_old' (by simp <;> omega) _).trans k2, (heap_alloc_old' (by simp <;> omega) _).trans l2, (heap_alloc_old' (by simp) _).trans h3, h4⟩
theorem Rw4.at_ {A : Nat} {dv : Value} {seg : Int} {x y : World} (h : Rw4 A dv seg x) (hk : ∀ k, A ≤ k → k < A + 4 → y.heap[k]? = x.heap[k]?) : Rw4 A dv seg y :=
  ⟨(hk _ (by omega) (by omega)).trans h.d, (hk _ (by omega) (by omega)).trans h.g, (hk _ (by omega) (by omega)).trans h.l, (hk _ (by omega) (by omega)).trans h.e⟩
theorem Rw4.lt {A : Nat} {dv : Value} {seg : Int} {x : World} (h : Rw4 A dv seg x) : A + 3 < x.heap.size := (Array.getElem?_eq_some_iff.1 h.e).1
theorem Rw4.c {A : Nat} {dv : Value} {seg : Int} {x : World} (h : Rw4 A dv seg x) : x.cell? ⟨A, 0, none⟩ = some dv ∧ x.cell? ⟨A + 1, 0, none⟩ = some (.int .i64 seg) ∧ x.cell? ⟨A + 2, 0, none⟩ = some (.slice none 0 0) ∧ x.cell? ⟨A + 3, 0, none⟩ = some (.int .i64 0) ∧ x.frozen? ⟨A + 2, 0, none⟩ = false ∧ x.frozen? ⟨A + 3, 0, none⟩ = false := by
  obtain ⟨h1, h2, h3, h4⟩ := h
  refine ⟨?_, ?_, ?_, ?_, ?_, ?_⟩ <;> simp [World.cell?, World.frozen?, h1, h2, h3, h4]
/-- What holds between two rows. -/
structure RowI (lb : Nat) (w4 : World) (a b c d seg : Int) (pg bm bg bs sz wd R : Nat) (C : Nat → RH × List Nat) (rs : List Nat) (v : Value) (L : List SP) (W : World) : Prop where
  box : Go.Boxed W lb 84 v
  own : OwnSP lb W v L
  rl : RowL lb W v sz wd C rs L
  mem : RwMem a b c d seg pg bm bg bs W
  bel : Below lb w4 W
theorem RowI.grown {lb : Nat} {w4 : World} {a b c d seg : Int} {pg bm bg bs sz wd R : Nat} {C : Nat → RH × List Nat} {rs : List Nat} {v : Value} {L : List SP} {W W2 : World} {K : Nat} {row : Option Nat} (h : RowI lb w4 a b c d seg pg bm bg bs sz wd R C rs v L W) (hK : lb ≤ K) (hl : lb ≤ w4.heap.size) (hg : W.grownBy W2 row) (hr : ∀ r, row = some r → K ≤ r ∧ ∃ o : Obj, W.heap[r]? = some o ∧ o.isCells = false) : RowI lb w4 a b c d seg pg bm bg bs sz wd R C rs v L W2 := by
  have key := grown_same hg hr
  obtain ⟨m1, m2, m3⟩ := h.mem.lt
  refine ⟨(key lb h.box.lt (.inr ⟨_, h.box, rfl⟩)).trans h.box, ?_, ⟨h.rl.len, h.rl.ok, fun p hp => ?_⟩, ⟨(key bm m1 (.inr ⟨_, h.mem.1, rfl⟩)).trans h.mem.1, (key bg m2 (.inr ⟨_, h.mem.2.1, rfl⟩)).trans h.mem.2.1, (key bs m3 (.inr ⟨_, h.mem.2.2, rfl⟩)).trans h.mem.2.2⟩, ?_⟩
  · refine ownsRow_at h.own fun k hk => ?_
    rcases h.own.2 with ⟨q, _⟩ | ⟨g, cap, cur, q, _, hgb, _⟩
    · rw [q] at hk; simp [Value.ownBlock] at hk
    · rw [q] at hk; simp [Value.ownBlock] at hk
      subst hk
      exact key g (Array.getElem?_eq_some_iff.1 hgb).1 (.inr ⟨_, hgb, rfl⟩)
  · obtain ⟨p1, p2, p3, p4⟩ := h.rl.part p hp
    refine ⟨p1.at_ fun hn x hx => ?_, p2, p3, fun x hx => ⟨Nat.lt_of_lt_of_le (p4 x hx).1 hg.size, (p4 x hx).2⟩⟩
    obtain ⟨b', off, e, hc⟩ := p1.1.2.2 hn
    rw [e] at hx
    cases hx
    exact key b' (World.block_lt_of_cell? W _ (hc 0 hn)) (.inr (isCells_of_cell (hc 0 hn)))
  · exact h.bel.grown hg (Nat.le_trans hl h.bel.size) fun k e => Nat.le_trans hK (hr k e).1
theorem RowI.step {lb : Nat} {w4 : World} {a b c d seg : Int} {pg bm bg bs sz wd R : Nat} {C : Nat → RH × List Nat} {rs : List Nat} {v : Value} {L : List SP} {W W2 : World} (h : RowI lb w4 a b c d seg pg bm bg bs sz wd R C rs v L W) (hl : lb ≤ w4.heap.size) (hb : Below W.heap.size W W2) : RowI lb w4 a b c d seg pg bm bg bs sz wd R C rs v L W2 :=
  ⟨(hb.block lb h.box.lt).trans h.box, h.own.below hb, ⟨h.rl.len, h.rl.ok, fun p hp => ⟨(h.rl.part p hp).1.step hb, (h.rl.part p hp).2.1, (h.rl.part p hp).2.2.1, fun x hx => ⟨Nat.lt_of_lt_of_le ((h.rl.part p hp).2.2.2 x hx).1 hb.size, ((h.rl.part p hp).2.2.2 x hx).2⟩⟩⟩, h.mem.keep (threeKept_below hb h.mem.lt.1 h.mem.lt.2.1 h.mem.lt.2.2), h.bel.trans (hb.mono (Nat.le_trans hl h.bel.size))⟩
theorem own_addr {B : Nat} {W : World} {v : Value} {L : List SP} (h : OwnSP B W v L) (h0 : 0 < L.length) : ∃ g c, v = .slice (some ⟨g, 0, none⟩) L.length c ∧ CellsSP W (some ⟨g, 0, none⟩) L := by
  obtain ⟨a, c, e, hc⟩ := cellsSP_own h
  rcases h.2 with ⟨q, q0⟩ | ⟨g, cap, cur, q, _⟩
  · omega
  · rw [e] at q
    simp only [Value.slice.injEq] at q
    rw [q.1] at hc e
    exact ⟨g, c, e, hc⟩
theorem not_own {B j : Nat} {W : World} {v : Value} {L : List SP} {cs : Array Value} {te : TypeId} (h : W.heap[j]? = some (.cells cs te (0, 0))) (hne : te ≠ 95) (ho : OwnSP B W v L) : some j ≠ v.ownBlock := by
  rcases ho.2 with ⟨q, _⟩ | ⟨g, cap, cur, q, _, hgb, _⟩
  · rw [q]; simp [Value.ownBlock]
  · rw [q]
    intro e
    simp [Value.ownBlock] at e
    subst e
    rw [h] at hgb
    simp at hgb
    exact hne hgb.2
theorem RowI.more {lb : Nat} {w4 : World} {a b c d seg : Int} {pg bm bg bs sz wd R : Nat} {C : Nat → RH × List Nat} {rs : List Nat} {v v' sv : Value} {L Lr : List SP} {W W3 W4 : World} {k : Nat} (h : RowI lb w4 a b c d seg pg bm bg bs sz wd R C rs v L W) (hl : lb ≤ w4.heap.size) (hsz : 0 < sz) (hm : bm ≠ lb ∧ bg ≠ lb ∧ bs ≠ lb)
    (hb : Below W.heap.size W W3) (hGt : GotP sz (fun j => ((C (k * wd + j)).2, (C (k * wd + j)).1)) W.heap.size wd sv Lr W3) (ho : W4.ownsRow lb 95 8 v' (L.length + wd) (L.flatMap SP.cl ++ Lr.flatMap SP.cl)) (hg : W3.grownBy W4 v.ownBlock) (hw : v'.ownBlock = v.ownBlock ∨ v'.ownBlock = some W3.heap.size) :
    RowI lb w4 a b c d seg pg bm bg bs sz wd R C (rs ++ [k]) v' (L ++ Lr) (W4.setCell ⟨lb, 0, none⟩ v') ∧ Below lb W (W4.setCell ⟨lb, 0, none⟩ v') := by
  have h3 := h.step hl hb
  have hbox4 : Go.Boxed W4 lb 84 v := (hg.block lb h3.box.lt (not_own h3.box (by decide) h3.own)).trans h3.box
  have key : ∀ j, j ≠ lb → (W4.setCell ⟨lb, 0, none⟩ v').heap[j]? = W4.heap[j]? := fun j hj => heap_setCell_other W4 _ j _ hj
  have hLl : Lr.length = wd := hGt.2.1
  have hown4 : OwnSP lb W4 v' (L ++ Lr) := by
    unfold OwnSP
    rw [List.flatMap_append, List.length_append, hLl]
    exact ho
  have hb34 : Below lb W3 W4 := (Below.refl lb W3).grown hg (Nat.le_trans hl h3.bel.size) fun q hq => (h3.own.lt q hq).1
  have hbW : Below lb W (W4.setCell ⟨lb, 0, none⟩ v') := ((hb.mono (Nat.le_trans hl h.bel.size)).trans hb34).setCell (p := ⟨lb, 0, none⟩) (Nat.le_refl _) _
  have hpn : ∀ p : PS, PartOk W4 p → 0 < p.n → ∀ x, p.a = some x → x.block ≠ lb := by
    intro p hp hn x hx e
    obtain ⟨b', off, e1, hc⟩ := hp.1.2.2 hn
    rw [e1] at hx
    cases hx
    have h1 := hc 0 hn
    have e2 : b' = lb := e
    subst e2
    rw [cell_of_row W4 b' (off + 0) _ _ _ hbox4] at h1
    obtain ⟨va, vn, vc, rfl⟩ := ownsI_shape h.own
    match off with
    | 0 => simp at h1
    | off + 1 => simp at h1
  refine ⟨⟨hbox4.set v', ownsRow_at hown4 fun j hj => key j ?_, ⟨?_, fun i hi q hq => ?_, fun p hp => ?_⟩, ⟨?_, ?_, ?_⟩, h.bel.trans hbW⟩, hbW⟩
  · have := not_own (j := lb) hbox4 (by decide) hown4
    intro e
    rw [e] at hj
    exact this hj.symm
  · rw [List.length_append, h.rl.len, hLl, List.length_append, List.length_singleton, Nat.succ_mul]
  · rw [List.length_append, List.length_singleton] at hi
    by_cases ci : i < rs.length
    · have hat := chunk_at (sz := wd) ci
      have e1 : (L ++ Lr).getD (i * wd + q) SP.nil = L.getD (i * wd + q) SP.nil := gp_left L Lr SP.nil _ (by rw [h.rl.len]; omega)
      rw [e1, show (rs ++ [k]).getD i 0 = rs.getD i 0 by simp [List.getD, List.getElem?_append_left ci]]
      exact h.rl.ok i ci q hq
    · obtain rfl : i = rs.length := by omega
      have e1 : (L ++ Lr).getD (rs.length * wd + q) SP.nil = Lr.getD q SP.nil := by
        rw [← h.rl.len]
        simp [List.getD, List.getElem?_append_right]
      rw [e1, show (rs ++ [k]).getD rs.length 0 = k by simp [List.getD]]
      exact ⟨(hGt.2.2 q hq).1, (hGt.2.2 q hq).2.1⟩
  · have h4 : PartOk W4 p.d ∧ p.d.n = sz ∧ Far lb p.d ∧ ∀ x, p.d.a = some x → x.block < W4.heap.size ∧ some x.block ≠ v'.ownBlock := by
      rcases List.mem_append.1 hp with hp | hp
      · obtain ⟨p1, p2, p3, p4⟩ := h3.rl.part p hp
        refine ⟨p1.at_ fun _ x hx => hg.block _ (p4 x hx).1 (p4 x hx).2, p2, p3, fun x hx => ⟨Nat.lt_of_lt_of_le (p4 x hx).1 hg.size, ?_⟩⟩
        rcases hw with e | e
        · rw [e]; exact (p4 x hx).2
        · rw [e]; intro cc; have := (p4 x hx).1; simp only [Option.some.injEq] at cc; omega
      · obtain ⟨j, hj, rfl⟩ := mem_getD hp
        obtain ⟨_, _, p3, p4, p5, _⟩ := hGt.2.2 j (by omega)
        have hlt : ∀ x, (Lr.getD j SP.nil).d.a = some x → x.block < W3.heap.size := p3.lt (by rw [p4]; exact hsz)
        have hne : ∀ x, (Lr.getD j SP.nil).d.a = some x → some x.block ≠ v.ownBlock := fun x hx e => by have h1 := (h.own.lt x.block e.symm).2; have h2 := p5 x hx; omega
        refine ⟨p3.at_ fun _ x hx => hg.block _ (hlt x hx) (hne x hx), p4, far_mono (Nat.le_trans hl h.bel.size) p5, fun x hx => ⟨Nat.lt_of_lt_of_le (hlt x hx) hg.size, ?_⟩⟩
        rcases hw with e | e
        · rw [e]; exact hne x hx
        · rw [e]; intro cc; have := hlt x hx; simp only [Option.some.injEq] at cc; omega
    obtain ⟨p1, p2, p3, p4⟩ := h4
    exact ⟨p1.at_ fun hn x hx => key _ (hpn p.d p1 hn x hx), p2, p3, fun x hx => ⟨by simpa using (p4 x hx).1, (p4 x hx).2⟩⟩
  · exact (key bm hm.1).trans ((hg.block bm h3.mem.lt.1 (not_own h3.mem.1 (by decide) h3.own)).trans h3.mem.1)
  · exact (key bg hm.2.1).trans ((hg.block bg h3.mem.lt.2.1 (not_own h3.mem.2.1 (by decide) h3.own)).trans h3.mem.2.1)
  · exact (key bs hm.2.2).trans ((hg.block bs h3.mem.lt.2.2 (not_own h3.mem.2.2 (by decide) h3.own)).trans h3.mem.2.2)
theorem rows_fin {lb : Nat} {w4 : World} {a b c d seg : Int} {pg bm bg bs sz wd R : Nat} {C : Nat → RH × List Nat} {v : Value} {L : List SP} {W : World} (h : RowI lb w4 a b c d seg pg bm bg bs sz wd R C ((upto (fun j => j) R).map fun x => min x (pg - 1)) v L W) (hR : R ≤ pg) (hwd : 0 < wd) :
    L.length = R * wd ∧ ∀ i, i < L.length → (L.getD i SP.nil).h = (C i).1 ∧ (L.getD i SP.nil).d.l = (C i).2 := by
  have hl := h.rl.len
  rw [List.length_map, upto_length] at hl
  refine ⟨hl, fun i hi => ?_⟩
  have h1 := Nat.div_add_mod i wd
  have h2 := Nat.mod_lt i hwd
  rw [Nat.mul_comm] at h1
  have h3 : i / wd < R := by
    rcases Nat.lt_or_ge (i / wd) R with c | c
    · exact c
    · have := Nat.mul_le_mul_right wd c
      omega
  have h4 := h.rl.ok (i / wd) (by rw [List.length_map, upto_length]; exact h3) (i % wd) h2
  have e : (((upto (fun j => j) R).map fun x => min x (pg - 1)).getD (i / wd) 0) = i / wd := by
    simp [upto, List.getD, h3]
    omega
  rw [e, h1] at h4
  exact h4
/-- What is left when point.rows ends. -/
theorem rows_out {A lb D C0 : Nat} {w w4 W : World} {a b c d seg : Int} {pg bm bg bs sz wd R : Nat} {C : Nat → RH × List Nat} {rs : List Nat} {v : Value} {L : List SP} {dv : Value} {o : Obj} (hI : RowI lb w4 a b c d seg pg bm bg bs sz wd R C rs v L W) (_hX : Rw4 A dv seg W) (hA : A = w.heap.size) (hAl : A + 4 ≤ lb) (hb4 : Below A w w4) (_hl : lb ≤ w4.heap.size) (hC0 : lb ≤ C0) (hD : C0 ≤ D) (hK : W.heap[D]? = some o) (ho : o.isCells = false) (_hw : o.isWalk = false) (o' : Obj) :
    OwnSP w.heap.size (((W.setCell ⟨A + 2, 0, none⟩ v).setCell ⟨A + 3, 0, none⟩ (.int .i64 0)).putObj D o') v L ∧ Below w.heap.size w (((W.setCell ⟨A + 2, 0, none⟩ v).setCell ⟨A + 3, 0, none⟩ (.int .i64 0)).putObj D o') ∧ ∀ p ∈ L, PartOk (((W.setCell ⟨A + 2, 0, none⟩ v).setCell ⟨A + 3, 0, none⟩ (.int .i64 0)).putObj D o') p.d := by
  have key : ∀ j, lb ≤ j → j ≠ D → (((W.setCell ⟨A + 2, 0, none⟩ v).setCell ⟨A + 3, 0, none⟩ (.int .i64 0)).putObj D o').heap[j]? = W.heap[j]? := fun j h1 h2 => by
    rw [World.putObj_heap_other h2]
    exact (heap_setCell_other _ ⟨A + 3, 0, none⟩ j _ (show j ≠ A + 3 by omega)).trans (heap_setCell_other W ⟨A + 2, 0, none⟩ j _ (show j ≠ A + 2 by omega))
  have hcD : ∀ j (o2 : Obj), W.heap[j]? = some o2 → o2.isCells = true → j ≠ D := fun j o2 h1 h2 e => by
    rw [e, hK] at h1
    cases h1
    rw [ho] at h2
    cases h2
  refine ⟨?_, ?_, fun p hp => ?_⟩
  · refine ownsRow_base (B := lb) (ownsRow_at hI.own fun j hj => ?_) (by omega)
    rcases hI.own.2 with ⟨q, _⟩ | ⟨g, cap, cur, q, hge, hgb, _⟩
    · rw [q] at hj; simp [Value.ownBlock] at hj
    · rw [q] at hj; simp [Value.ownBlock] at hj
      subst hj
      exact key g hge (hcD g _ hgb rfl)
  · rw [← hA]
    have h1 : Below A w W := hb4.trans (hI.bel.mono (by omega))
    have h2 := (h1.setCell (p := ⟨A + 2, 0, none⟩) (show A ≤ A + 2 by omega) v).setCell (p := ⟨A + 3, 0, none⟩) (show A ≤ A + 3 by omega) (.int .i64 0)
    exact h2.grown (grownBy_putObj' _ D o') (Nat.le_trans (Nat.le_of_eq hA) h2.size) (fun k e => by cases e; omega)
  · obtain ⟨p1, _, p3, _⟩ := hI.rl.part p hp
    refine p1.at_ fun hn x hx => key _ (p3 x hx) ?_
    obtain ⟨b', off, e, hc⟩ := p1.1.2.2 hn
    rw [e] at hx
    cases hx
    obtain ⟨o2, q1, q2⟩ := isCells_of_cell (hc 0 hn)
    exact hcD b' o2 q1 q2
def RowsGot (s : RS) (R : Nat) (C : Nat → RH × List Nat) (w : World) (e : Ending) (w' : World) : Prop :=
  ∃ sv L, e = .returned (.tuple #[sv, .int .i64 0]) ∧ OwnSP w.heap.size w' sv L ∧ L.length = R * (s.n - 1) ∧ Below w.heap.size w w' ∧ ∀ i, i < L.length → (L.getD i SP.nil).h = (C i).1 ∧ (L.getD i SP.nil).d.l = (C i).2 ∧ (L.getD i SP.nil).d.n = s.sz ∧ PartOk w' (L.getD i SP.nil).d
section
variable {B : Nat} {s : RS} {w : World}
attribute [local go_sem] Oper.semAt_some
set_option maxRecDepth 100000 in
set_option maxHeartbeats 4000000 in
theorem ptRows_any (h : Ram B s w) (seg R : Nat) (C : Nat → RH × List Nat) (hseg : seg + 5 < s.bl) (hR : R ≤ s.pg) (hs1000 : s.sz ≤ 1000) (hS : SegIs s seg R C) (hlive : ∀ m, s.gone m = 0) :
    Calls Tryz.prog 42 #[.iface 51 (.pointer (some ⟨s.rb, 0, none⟩)), .int .i64 (seg : Int)] w (RowsGot s R C w) := by
  refine (callsIn_wide (n := 3)).1 ?_
  have hg := h.geo
  have HG := Lib.hid hg
  have tm := fun k => m_geo k ⟨s.rb, 0, none⟩
  have HGE := Lib.hid fun (x : World) (hx : Below w.heap.size w x) => ramGeo (h.step hx)
  have HCK := Lib.hid fun (x : World) => check_good (s.n : Int) (s.bl : Int) (s.pg : Int) (s.sz : Int) x hg
  have HRW := Lib.hid fun (x : World) => geomRows_any (s.n : Int) (s.bl : Int) (s.sz : Int) (seg : Int) s.pg x (by have := hg.2.2.2.2.2.1; omega)
  have HR := Lib.hid h
  have HN := Lib.hid (And.intro hseg (And.intro hR (And.intro hs1000 (And.intro hS hlive))))
  clear h hg hseg hR hs1000 hS hlive
  refine callsIn_of_wp_marks Tryz.func42 rfl trivial ?_ rfl
  simp only [Tryz.ntmps42, List.size_toArray, List.length_cons, List.length_nil, Nat.reduceAdd, Nat.reduceSub, Array.replicate_succ, Array.replicate_zero, List.push_toArray, List.append_toArray, List.nil_append, List.cons_append]
  refine wpIn_wide.2 ?_
  go_upto_region 1 with fail
  obtain ⟨w1, hw1⟩ : ∃ x, x = rw4 w (.iface 51 (.pointer (some ⟨s.rb, 0, none⟩))) (seg : Int) := ⟨_, rfl⟩
  have hX1 := rw4_of w (.iface 51 (.pointer (some ⟨s.rb, 0, none⟩))) (seg : Int)
  have hb1 : Below w.heap.size w w1 := by rw [hw1]; exact bel_alloc (bel_alloc (bel_alloc (bel_alloc (Below.refl _ _) _) _) _) _
  have hz1 : w1.heap.size = w.heap.size + 4 := by rw [hw1]; simp [rw4]
  rw [← hw1] at hX1
  unfold rw4 at hw1
  rw [← hw1]
  obtain ⟨A, hA⟩ : ∃ A, A = w.heap.size := ⟨_, rfl⟩
  rw [← hA] at hX1 hb1 hz1 HGE ⊢
  have HX1 := Lib.hid hX1
  have HB1 := Lib.hid (And.intro hb1 hz1)
  have HA := Lib.hid hA
  clear hX1 hb1 hz1 hw1 hA
  obtain ⟨c0, c1, _, _, _, _⟩ := HX1.out.c
  go_wp2_with fail
  ((with_reducible refine (HGE.out _ HB1.out.1).mono ?_))
  rintro e w2 ⟨rfl, hb2⟩
  have HX2 := Lib.hid (HX1.out.at_ (y := w2) fun k h1 h2 => hb2.block k (by have := HB1.out.2; omega))
  have HB2 := Lib.hid (HB1.out.1.trans (hb2.mono (by have := HB1.out.2; omega)))
  clear hb2 c0 c1
  go_upto_region 2 with fail
  have hgx := heap_alloc_new w2 (.cells #[.int .i64 (s.n : Int), .int .i64 (s.bl : Int), .int .i64 (s.pg : Int), .int .i64 (s.sz : Int)] 49)
  have hb3 := bel_alloc (Below.refl w2.heap.size w2) (.cells #[.int .i64 (s.n : Int), .int .i64 (s.bl : Int), .int .i64 (s.pg : Int), .int .i64 (s.sz : Int)] 49)
  obtain ⟨gb, hgb⟩ : ∃ x, x = w2.heap.size := ⟨_, rfl⟩
  obtain ⟨w3, hw3⟩ : ∃ x, x = w2.alloc (.cells #[.int .i64 (s.n : Int), .int .i64 (s.bl : Int), .int .i64 (s.pg : Int), .int .i64 (s.sz : Int)] 49) := ⟨_, rfl⟩
  rw [← hw3, ← hgb] at hgx
  rw [← hw3] at hb3
  rw [← hw3, ← hgb]
  have HX3 := Lib.hid (HX2.out.at_ (y := w3) fun k h1 h2 => hb3.block k (by have := HX2.out.lt; omega))
  have HB3 := Lib.hid (And.intro (HB2.out.trans (hb3.mono (by have := HX2.out.lt; omega))) (show A + 4 ≤ gb by have := HX2.out.lt; omega))
  have HG3 := Lib.hid hgx
  obtain ⟨g0, g1, g2, g3⟩ := four_at hgx
  clear hgx hb3 hgb hw3 HX2 HB2
  go_wp2_with fail
  ((with_reducible refine (HCK.out _).mono ?_))
  rintro e w4 ⟨rfl, hb4⟩
  have hgl := (Array.getElem?_eq_some_iff.1 HG3.out).1
  have HX4 := Lib.hid (HX3.out.at_ (y := w4) fun k h1 h2 => hb4.block k (by have := HX3.out.lt; omega))
  have HB4 := Lib.hid (And.intro (HB3.out.1.trans (hb4.mono (by have := HX3.out.lt; omega))) HB3.out.2)
  have HG4 := Lib.hid ((hb4.block gb hgl).trans HG3.out)
  clear hb4 g0 g1 g2 g3 hgl HX3 HB3 HG3
  go_upto_region 6 with fail
  have hlx : Go.Boxed (w4.alloc (.cells #[.slice none 0 0] 84)) w4.heap.size 84 (.slice none 0 0) := Go.Boxed.new _ _ _
  have hb5 := bel_alloc (Below.refl w4.heap.size w4) (.cells #[.slice none 0 0] 84)
  obtain ⟨lb, hlb⟩ : ∃ x, x = w4.heap.size := ⟨_, rfl⟩
  obtain ⟨w5, hw5⟩ : ∃ x, x = w4.alloc (.cells #[.slice none 0 0] 84) := ⟨_, rfl⟩
  rw [← hw5, ← hlb] at hlx
  rw [← hw5, ← hlb] at hb5
  rw [← hw5, ← hlb]
  have hgl := (Array.getElem?_eq_some_iff.1 HG4.out).1
  have HL5 : Hid (Go.Boxed w5 lb 84 (.slice none 0 0) ∧ Below lb w4 w5 ∧ lb = w4.heap.size) := Lib.hid ⟨hlx, hb5, hlb⟩
  obtain ⟨g0, g1, g2, g3⟩ := four_at ((hb5.block gb (by omega)).trans HG4.out)
  have hX5 : Rw4 A (.iface 51 (.pointer (some ⟨s.rb, 0, none⟩))) (seg : Int) w5 := HX4.out.at_ fun k h1 h2 => hb5.block k (by have := HX4.out.lt; omega)
  obtain ⟨c0, c1, _, _, _, _⟩ := hX5.c
  clear hlx hb5 hlb hw5 hX5 hgl
  go_wp2_with fail
  ((with_reducible refine (HRW.out _).mono ?_))
  rintro e w6 ⟨bm, bg, bs, rfl, hrm, q1, q2, q3, hb6⟩
  have HK6 := Lib.hid (And.intro hrm (And.intro q1 (And.intro q2 (And.intro q3 hb6))))
  clear hrm q1 q2 q3 hb6 c0 c1 g0 g1 g2 g3
  go_wp2
  -- the loop
  have hgg := HG.out
  have hpg : 4 ≤ s.pg ∧ s.pg ≤ 32 := by have h1 := hgg.2.2.2.2.1; have h2 := hgg.2.2.2.2.2.1; omega
  have hbl : s.bl ≤ 64 := by have := hgg.2.2.2.1; omega
  have hn3 : 3 ≤ s.n ∧ s.n ≤ 16 := by have h1 := hgg.1; have h2 := hgg.2.1; omega
  have hsz0 : 256 ≤ s.sz := by have := hgg.2.2.2.2.2.2.1; omega
  have HZ := Lib.hid (And.intro hpg (And.intro hbl (And.intro hn3 hsz0)))
  have hl : lb ≤ w4.heap.size := Nat.le_of_eq HL5.out.2.2
  have hlb5 : lb < w5.heap.size := HL5.out.1.lt
  have hlb6 : lb ≤ w6.heap.size := Nat.le_trans (Nat.le_of_lt hlb5) HK6.out.2.2.2.2.size
  have hm3 : bm ≠ lb ∧ bg ≠ lb ∧ bs ≠ lb := by have h1 := HK6.out.2.1; have h2 := HK6.out.2.2.1; have h3 := HK6.out.2.2.2.1; omega
  have HLB := Lib.hid (And.intro hl (And.intro hlb6 hm3))
  have hst := rows_stops 2 (by omega) bm bg bs s.pg (s.n : Int) (s.bl : Int) (s.pg : Int) (s.sz : Int) (seg : Int) hgg (by omega) (by have := HN.out.1; omega) (by omega) w6 HK6.out.1
  obtain ⟨k1, k2, k3⟩ := HK6.out.1.lt
  have hI0 : RowI lb w4 (s.n : Int) (s.bl : Int) (s.pg : Int) (s.sz : Int) (seg : Int) s.pg bm bg bs s.sz (s.n - 1) R C [] (.slice none 0 0) [] w6 := ⟨(HK6.out.2.2.2.2.block lb hlb5).trans HL5.out.1, ownSP_nil _ _, ⟨by simp, fun i hi => absurd hi (Nat.not_lt_zero i), fun p hp => by cases hp⟩, HK6.out.1, HL5.out.2.1.trans (HK6.out.2.2.2.2.mono (Nat.le_of_lt hlb5))⟩
  have HI0 := Lib.hid hI0
  -- stripe.Row, whole and blank
  have HRW1 : Hid (∀ (W : World) (k : Nat), Below w.heap.size w W → k < R → Calls Tryz.prog 62 #[.iface 51 (.pointer (some ⟨s.rb, 0, none⟩)), .int .i64 (seg : Int), .int .i64 (k : Int)] W fun e y => ∃ sv Lr, e = .returned (.tuple #[sv, .int .i64 2, .int .i64 0]) ∧ GotP s.sz (fun j => ((C (k * (s.n - 1) + j)).2, (C (k * (s.n - 1) + j)).1)) W.heap.size (s.n - 1) sv Lr y ∧ Below W.heap.size W y) := Lib.hid fun W k hW hk => by
    obtain ⟨p, Lk, Gk, Pk, r1, r2, r3, r4, r5, r6, r7⟩ := HN.out.2.2.2.1.1 k hk
    have h := row_whole (HR.out.step hW) HN.out.2.2.1 (by have := HZ.out.2.2.2; omega) seg k p HN.out.1 (by have := HN.out.2.1; omega) r1 r2 r3 r4 r5 fun m hm => ⟨HN.out.2.2.2.2 m, r7 m hm (HN.out.2.2.2.2 m)⟩
    refine h.mono ?_
    rintro e y ⟨sv, Lr, rfl, hG, hb⟩
    exact ⟨sv, Lr, rfl, hG.congr fun j hj => by rw [(r6 j (by omega)).1, (r6 j (by omega)).2], hb⟩
  have HRW2 : Hid (∀ (W : World) (k : Nat), Below w.heap.size w W → R ≤ k → k < s.pg → Calls Tryz.prog 62 #[.iface 51 (.pointer (some ⟨s.rb, 0, none⟩)), .int .i64 (seg : Int), .int .i64 (k : Int)] W fun e y => e = .returned (.tuple #[.slice none 0 0, .int .i64 0, .int .i64 0]) ∧ Below W.heap.size W y) := Lib.hid fun W k hW hk hkp =>
    row_blank (HR.out.step hW) HN.out.2.2.1 seg k HN.out.1 hkp fun m hm => ⟨HN.out.2.2.2.2 m, HN.out.2.2.2.1.2 k hk hkp m hm⟩
  clear hgg hpg hbl hn3 hsz0 hl hlb5 hm3 hI0
  refine (wpIn_wide (n := 3)).1 ?_
  refine wpIn_rangeFunc_ownG (n := 3) rfl (by omega) (gf := 78) (lb := #[.pointer (some ⟨bm, 0, none⟩), .pointer (some ⟨bg, 0, none⟩), .pointer (some ⟨bs, 0, none⟩)]) rfl trivial (enters_of Tryz.func78 (by kernel_rfl) rfl)
    hst threeKept_t (threeKept_b k1 k2 k3) (Below.refl _ _) (fun _ => rfl)
    (fun pre W => (∃ v L, RowI lb w4 (s.n : Int) (s.bl : Int) (s.pg : Int) (s.sz : Int) (seg : Int) s.pg bm bg bs s.sz (s.n - 1) R C (pre.map fun x => min x (s.pg - 1)) v L W) ∧ ∀ x ∈ pre, min x (s.pg - 1) < R)
    (fun c pre W => c = .exit 0 ∧ ∃ ini last, pre = ini ++ [last] ∧ R ≤ min last (s.pg - 1) ∧ (∃ v L, RowI lb w4 (s.n : Int) (s.bl : Int) (s.pg : Int) (s.sz : Int) (seg : Int) s.pg bm bg bs s.sz (s.n - 1) R C (ini.map fun x => min x (s.pg - 1)) v L W) ∧ ∀ x ∈ ini, min x (s.pg - 1) < R)
    (fun pre W W2 row hs hg hr => by
      obtain ⟨⟨v, L, q1⟩, q2⟩ := hs
      exact ⟨⟨v, L, q1.grown HLB.out.2.1 HLB.out.1 hg hr⟩, q2⟩)
    (fun c pre W W2 row hs hg hr => by
      obtain ⟨e, ini, last, p1, p2, ⟨v, L, q1⟩, q2⟩ := hs
      exact ⟨e, ini, last, p1, p2, ⟨v, L, q1.grown HLB.out.2.1 HLB.out.1 hg hr⟩, q2⟩)
    ⟨⟨_, _, HI0.out⟩, fun x hx => by cases hx⟩
    (fun x => { tmps := #[.iface 51 (.pointer (some ⟨s.rb, 0, none⟩)), .int .i64 (seg : Int), .pointer (some ⟨A, 0, none⟩), .pointer (some ⟨A + 1, 0, none⟩), .pointer (some ⟨A + 1 + 1, 0, none⟩), .pointer (some ⟨A + 1 + 1 + 1, 0, none⟩), .pointer (some ⟨gb, 0, none⟩), .int .i64 0, .pointer (some ⟨lb, 0, none⟩), .int .i64 ((min x (s.pg - 1) : Nat) : Int), undef, undef, undef, .iface 51 (.pointer (some ⟨s.rb, 0, none⟩)), .agg #[.int .i64 (s.n : Int), .int .i64 (s.bl : Int), .int .i64 (s.pg : Int), .int .i64 (s.sz : Int)], .agg #[.int .i64 (s.n : Int), .int .i64 (s.bl : Int), .int .i64 (s.pg : Int), .int .i64 (s.sz : Int)], .int .i64 0, .int .i64 0, .bool false, undef, .agg #[.int .i64 (s.n : Int), .int .i64 (s.bl : Int), .int .i64 (s.pg : Int), .int .i64 (s.sz : Int)], .int .i64 (seg : Int), .func (.func 78) #[] #[.pointer (some ⟨bm, 0, none⟩), .pointer (some ⟨bg, 0, none⟩), .pointer (some ⟨bs, 0, none⟩)], .int .i64 ((min x (s.pg - 1) : Nat) : Int), .int .i64 (ParOf (s.n : Int) (s.pg : Int) (seg : Int) ((min x (s.pg - 1) : Nat) : Int)), undef, undef, undef, undef, undef, undef, undef, undef, undef, undef, undef, undef, undef, undef, undef, undef, undef], defers := [] }) ?assign ?body ?done ?stop
  case assign =>
    intro l x W K hK
    obtain ⟨xx, hxx⟩ : ∃ y, y = min x (s.pg - 1) := ⟨_, rfl⟩
    unfold rwEnc
    rw [← hxx]
    dsimp only at hK
    rw [← hxx] at hK
    clear hxx
    gi_wp2
    exact hK
  case body =>
    rintro l pre x W ⟨⟨v, L, hI⟩, hlt⟩ hlen
    obtain ⟨xx, hxx⟩ : ∃ y, y = min x (s.pg - 1) := ⟨_, rfl⟩
    have hxp : xx < s.pg := by have := HZ.out.1; omega
    dsimp only
    rw [← hxx]
    have hB4 : Below A w w4 := HB4.out.1
    have hlA : A ≤ lb := by have h1 := HX4.out.lt; have h2 := HL5.out.2.2; omega
    have hbW : Below w.heap.size w W := by have h1 := hB4.trans (hI.bel.mono hlA); rw [HA.out] at h1; exact h1
    have hX : Rw4 A (.iface 51 (.pointer (some ⟨s.rb, 0, none⟩))) (seg : Int) W := HX4.out.at_ fun k h1 h2 => hI.bel.block k (by have h3 := HX4.out.lt; have h4 := HL5.out.2.2; omega)
    obtain ⟨c0, c1, _, _, _, _⟩ := hX.c
    have hv := hI.box.cell
    have hvf := hI.box.frozen
    have hvl := hI.box.lt
    obtain ⟨va, vc, rfl, _⟩ := cellsSP_own hI.own
    have HI := Lib.hid (And.intro hI (And.intro hlt (And.intro hxx hlen)))
    have hrl := hI.rl.len
    rw [List.length_map] at hrl
    have HRL := Lib.hid hrl
    clear hrl
    have HBD : Hid (pre.length * (s.n - 1) ≤ 480 ∧ s.n ≤ 16) := Lib.hid ⟨by
      have h1 := HZ.out.1.2
      have h2 := HZ.out.2.2.1
      have := Nat.mul_le_mul (show pre.length ≤ 32 by omega) (show s.n - 1 ≤ 15 by omega)
      omega, HZ.out.2.2.1.2⟩
    by_cases hc : xx < R
    · have HC1 := Lib.hid (HRW1.out W xx hbW hc)
      have HXR := Lib.hid hc
      clear hI hlt hxx hlen hbW hX hc hst k1 k2 k3 hlb6 hB4 hlA hxp
      obtain ⟨i0, hi0, hz0, hz1, hz2⟩ := info_parts info_sp
      gi_wp2_with (first | (gi_at_builtin; refine wpListIn_append_own_at _ rfl _ _ 84 rfl lb 95 i0 _ 8 48 Tryz.underlying84 hi0 hz0 hz1 hz2 rfl (by decide) _ _ _ rfl (HI.out.1.step HLB.out.1 HGT.out.2.2).own ⟨rk, 0, none⟩ Lr.length rc (Lr.flatMap SP.cl) rfl (flatSP_len Lr) (cellsSP_flat HGT.out.2.1) (fun u hu => by obtain ⟨p, _, hp⟩ := List.mem_flatMap.1 hu; exact sp_one p u hp) (by have h1 := HRL.out; have h2 := HLR.out; have h3 := HBD.out; unfold maxLen; omega) (by have h1 := HRL.out; have h2 := HLR.out; have h3 := HBD.out; omega) (Nat.le_trans HLB.out.1 (HI.out.1.step HLB.out.1 HGT.out.2.2).bel.size) ?_) | (refine ⟨trivial, ?_⟩; gi_at_call 62; refine (CallsIn.inRound l (callsIn_wide.2 HC1.out)).mono ?_; rintro e y3 ⟨sv, Lr, rfl, hGt, hb3⟩; obtain ⟨rk, rc, rfl, hrc⟩ := own_addr hGt.1 (by have h1 := hGt.2.1; have h2 := HZ.out.2.2.1; omega); have HGT := Lib.hid (And.intro hGt (And.intro hrc hb3)); have HLR := Lib.hid hGt.2.1; have hv3 := (HI.out.1.step HLB.out.1 hb3).box.cell; have hvl3 := (HI.out.1.step HLB.out.1 hb3).box.lt; have hvf3 := (HI.out.1.step HLB.out.1 hb3).box.frozen; clear hGt hrc hb3 hv hvl hvf c0 c1))
      intro v' w4' ho4 hg4 _ hw4
      rw [HLR.out] at ho4
      obtain ⟨hnew, hbn⟩ := HI.out.1.more (k := xx) HLB.out.1 (by have := HZ.out.2.2.2; omega) HLB.out.2.2 HGT.out.2.2 HGT.out.1 ho4 hg4 hw4
      have hbx4 : Go.Boxed w4' lb 84 (.slice va L.length vc) := (hg4.block lb hvl3 (not_own (HI.out.1.step HLB.out.1 HGT.out.2.2).box (by decide) (HI.out.1.step HLB.out.1 HGT.out.2.2).own)).trans (HI.out.1.step HLB.out.1 HGT.out.2.2).box
      obtain ⟨g', cap', rfl⟩ : ∃ g' cap', v' = .slice g' (L.length + (s.n - 1)) cap' := by
        obtain ⟨a', c', e⟩ := ownsI_shape ho4
        exact ⟨a', c', e⟩
      have hc4 := hbx4.cell
      have hf4 := hbx4.frozen
      have HNEW := Lib.hid (And.intro hnew (And.intro hbn hg4))
      clear hnew hbn hbx4 ho4 hg4 hw4 hv3 hvl3 hvf3
      gi_wp2
      obtain ⟨hnew, hbn, hg4⟩ := HNEW.out
      have hI := HI.out.1
      have hI3 := hI.step HLB.out.1 HGT.out.2.2
      refine ⟨⟨hbn.size, fun j o hj ho hc => ?_⟩, ⟨hbn.size, hnew.mem.1.trans hI.mem.1.symm, hnew.mem.2.1.trans hI.mem.2.1.symm, hnew.mem.2.2.trans hI.mem.2.2.symm⟩, ⟨_, _, by rw [List.map_append, List.map_singleton, ← HI.out.2.2.1]; exact hnew⟩, fun z hz => ?_⟩
      · have h1 : y3.heap[j]? = some o := (HGT.out.2.2.block j (Array.getElem?_eq_some_iff.1 ho).1).trans ho
        have h2 : w4'.heap[j]? = some o := (hg4.block j (Array.getElem?_eq_some_iff.1 h1).1 (fun e => by
          rcases hI3.own.2 with ⟨q, _⟩ | ⟨g, cap, cur, q, _, hgb, _⟩
          · rw [q] at e; simp [Value.ownBlock] at e
          · rw [q] at e
            simp [Value.ownBlock] at e
            rw [e, hgb] at h1
            cases h1
            cases hc)).trans h1
        refine (heap_setCell_other w4' ⟨lb, 0, none⟩ j _ (fun e => ?_)).trans h2
        have e' : j = lb := e
        rw [e', hI.box] at ho
        cases ho
        cases hc
      · rcases List.mem_append.1 hz with hz | hz
        · exact HI.out.2.1 z hz
        · rw [List.mem_singleton.1 hz, ← HI.out.2.2.1]; exact HXR.out
    · have HC2 := Lib.hid (HRW2.out W xx hbW (by omega) hxp)
      have HXR := Lib.hid hc
      clear hI hlt hxx hlen hbW hX hc hst k1 k2 k3 hlb6 hB4 hlA hxp
      gi_wp2_with (refine ⟨trivial, ?_⟩; gi_at_call 62; refine (CallsIn.inRound l (callsIn_wide.2 HC2.out)).mono ?_; rintro e y3 ⟨rfl, hb3⟩; have HB3 := Lib.hid hb3; clear hb3 hv hvl hvf c0 c1)
      have hI := HI.out.1
      refine ⟨⟨HB3.out.size, fun j o hj ho hc => (HB3.out.block j (Array.getElem?_eq_some_iff.1 ho).1).trans ho⟩, rfl, pre, x, rfl, by rw [← HI.out.2.2.1]; exact Nat.not_lt.1 HXR.out, ⟨_, _, hI.step HLB.out.1 HB3.out⟩, HI.out.2.1⟩
  case done =>
    rintro D ys W hD rfl ⟨⟨v, L, hI⟩, hlt⟩ hK
    obtain rfl : R = s.pg := by
      have h1 := hlt (s.pg - 1) (by simp only [upto, List.mem_map, List.mem_range]; exact ⟨s.pg - 1, by have := HZ.out.1; omega, rfl⟩)
      have h2 := HN.out.2.1
      have := HZ.out.1
      omega
    clear hlt
    have hX : Rw4 A (.iface 51 (.pointer (some ⟨s.rb, 0, none⟩))) (seg : Int) W := HX4.out.at_ fun k h1 h2 => hI.bel.block k (by have h3 := HX4.out.lt; have h4 := HL5.out.2.2; omega)
    have hRn : s.pg ≤ s.pg := Nat.le_refl _
    obtain ⟨f1, f2⟩ := rows_fin hI hRn (by have := HZ.out.2.2.1; omega)
    obtain ⟨o1, o2, o3⟩ := rows_out hI hX HA.out (by have h3 := HX4.out.lt; have h4 := HL5.out.2.2; omega) HB4.out.1 HLB.out.1 HLB.out.2.1 hD hK rfl rfl (.deferred none)
    have HF := Lib.hid (And.intro f1 (And.intro f2 (And.intro o1 (And.intro o2 (And.intro o3 hI.rl.part)))))
    obtain ⟨_, _, c2, c3, f2', f3'⟩ := hX.c
    have hv := hI.box.cell
    have hb2 : A + 2 < W.heap.size := by have := hX.lt; omega
    have hb3 : A + 3 < W.heap.size := hX.lt
    have hK2 : ((W.setCell ⟨A + 2, 0, none⟩ v).setCell ⟨A + 3, 0, none⟩ (.int .i64 0)).heap[D]? = some (.deferred (some [])) := ((KeepsOthers.setCell W ⟨A + 2, 0, none⟩ v).trans (KeepsOthers.setCell _ ⟨A + 3, 0, none⟩ (.int .i64 0))).same D _ hK rfl
    have hr2 : ((W.setCell ⟨A + 2, 0, none⟩ v).setCell ⟨A + 3, 0, none⟩ (.int .i64 0)).cell? ⟨A + 2, 0, none⟩ = some v := cell_other (World.cell?_setCell_same' _ _ _ (by rw [c2]; rfl)) (by omega)
    have hr3 : ((W.setCell ⟨A + 2, 0, none⟩ v).setCell ⟨A + 3, 0, none⟩ (.int .i64 0)).cell? ⟨A + 3, 0, none⟩ = some (.int .i64 0) := World.cell?_setCell_same' _ _ _ (by rw [cell_other c3 (by omega)]; rfl)
    obtain ⟨va, vc, rfl, _⟩ := cellsSP_own hI.own
    have HRR := Lib.hid (And.intro hr2 (And.intro hr3 hK2))
    clear hst k1 k2 k3 hlb6 hI hX hRn f1 f2 o1 o2 o3 hK hD hK2 hr2 hr3
    gi_wp2
    refine (wpIn_wide (n := 3)).1 ?_
    gi_wp2
    rw [show A + 1 + 1 + 1 = A + 3 from rfl, show A + 1 + 1 = A + 2 from rfl]
    obtain ⟨hr2, hr3, hK2⟩ := HRR.out
    obtain ⟨f1, f2, o1, o2, o3, rp⟩ := HF.out
    refine ⟨by simp, .inl ⟨_, _, rfl, run_takeDeferred hK2, ?_⟩⟩
    have r2 := cell_kept hr2 (grownBy_putObj' _ D (.deferred none)) (fun r e => by cases e; exact ⟨_, hK2, rfl⟩)
    have r3 := cell_kept hr3 (grownBy_putObj' _ D (.deferred none)) (fun r e => by cases e; exact ⟨_, hK2, rfl⟩)
    refine ⟨.tuple #[.slice va L.length vc, .int .i64 0], ?_, _, L, rfl, o1, f1, o2, fun i hi => ⟨(f2 i hi).1, (f2 i hi).2, (rp _ (sp_mem L i hi)).2.1, o3 _ (sp_mem L i hi)⟩⟩
    simp [results, Tryz.results42, go_sem, r2, r3]
  case stop =>
    rintro D c pre W hD ⟨k, hk, rfl⟩ ⟨rfl, ini, last, e1, e2, ⟨v, L, hI⟩, hlt⟩ hK
    obtain ⟨k', rfl⟩ : ∃ k', k = k' + 1 := by
      cases k with
      | zero => simp [upto] at e1
      | succ k' => exact ⟨k', rfl⟩
    rw [upto_succ] at e1
    obtain ⟨rfl, e5⟩ := List.append_inj' e1 rfl
    obtain rfl : k' = last := by simpa using e5
    obtain rfl : R = k' := by
      have h3 : R ≤ k' := by omega
      rcases Nat.eq_zero_or_pos k' with c | c
      · omega
      · have h1 := hlt (k' - 1) (by simp only [upto, List.mem_map, List.mem_range]; exact ⟨k' - 1, by omega, rfl⟩)
        omega
    clear hlt e1 e2 e5
    have hX : Rw4 A (.iface 51 (.pointer (some ⟨s.rb, 0, none⟩))) (seg : Int) W := HX4.out.at_ fun k h1 h2 => hI.bel.block k (by have h3 := HX4.out.lt; have h4 := HL5.out.2.2; omega)
    have hRn : R ≤ s.pg := HN.out.2.1
    obtain ⟨f1, f2⟩ := rows_fin hI hRn (by have := HZ.out.2.2.1; omega)
    obtain ⟨o1, o2, o3⟩ := rows_out hI hX HA.out (by have h3 := HX4.out.lt; have h4 := HL5.out.2.2; omega) HB4.out.1 HLB.out.1 HLB.out.2.1 hD hK rfl rfl (.deferred none)
    have HF := Lib.hid (And.intro f1 (And.intro f2 (And.intro o1 (And.intro o2 (And.intro o3 hI.rl.part)))))
    obtain ⟨_, _, c2, c3, f2', f3'⟩ := hX.c
    have hv := hI.box.cell
    have hb2 : A + 2 < W.heap.size := by have := hX.lt; omega
    have hb3 : A + 3 < W.heap.size := hX.lt
    have hK2 : ((W.setCell ⟨A + 2, 0, none⟩ v).setCell ⟨A + 3, 0, none⟩ (.int .i64 0)).heap[D]? = some (.deferred (some [])) := ((KeepsOthers.setCell W ⟨A + 2, 0, none⟩ v).trans (KeepsOthers.setCell _ ⟨A + 3, 0, none⟩ (.int .i64 0))).same D _ hK rfl
    have hr2 : ((W.setCell ⟨A + 2, 0, none⟩ v).setCell ⟨A + 3, 0, none⟩ (.int .i64 0)).cell? ⟨A + 2, 0, none⟩ = some v := cell_other (World.cell?_setCell_same' _ _ _ (by rw [c2]; rfl)) (by omega)
    have hr3 : ((W.setCell ⟨A + 2, 0, none⟩ v).setCell ⟨A + 3, 0, none⟩ (.int .i64 0)).cell? ⟨A + 3, 0, none⟩ = some (.int .i64 0) := World.cell?_setCell_same' _ _ _ (by rw [cell_other c3 (by omega)]; rfl)
    obtain ⟨va, vc, rfl, _⟩ := cellsSP_own hI.own
    have HRR := Lib.hid (And.intro hr2 (And.intro hr3 hK2))
    clear hst k1 k2 k3 hlb6 hI hX hRn f1 f2 o1 o2 o3 hK hD hK2 hr2 hr3
    gi_wp2
    refine (wpIn_wide (n := 3)).1 ?_
    gi_wp2
    rw [show A + 1 + 1 + 1 = A + 3 from rfl, show A + 1 + 1 = A + 2 from rfl]
    obtain ⟨hr2, hr3, hK2⟩ := HRR.out
    obtain ⟨f1, f2, o1, o2, o3, rp⟩ := HF.out
    refine ⟨by simp, .inl ⟨_, _, rfl, run_takeDeferred hK2, ?_⟩⟩
    have r2 := cell_kept hr2 (grownBy_putObj' _ D (.deferred none)) (fun r e => by cases e; exact ⟨_, hK2, rfl⟩)
    have r3 := cell_kept hr3 (grownBy_putObj' _ D (.deferred none)) (fun r e => by cases e; exact ⟨_, hK2, rfl⟩)
    refine ⟨.tuple #[.slice va L.length vc, .int .i64 0], ?_, _, L, rfl, o1, f1, o2, fun i hi => ⟨(f2 i hi).1, (f2 i hi).2, (rp _ (sp_mem L i hi)).2.1, o3 _ (sp_mem L i hi)⟩⟩
    simp [results, Tryz.results42, go_sem, r2, r3]
end
end Go.Proofs.YthgcjiocelcblaaGreat
