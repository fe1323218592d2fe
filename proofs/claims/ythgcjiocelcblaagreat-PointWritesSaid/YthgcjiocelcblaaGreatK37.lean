/- Parts of the proof: InRound, PtWI, PtWS, PtWT. -/
import Derived.Test.YthgcjiocelcblaaGreatK14
import Derived.Test.YthgcjiocelcblaaGreatK12
import Derived.OrdersIn
import Derived.Deep.RegionHeld3
import Derived.Test.YthgcjiocelcblaaGreatK34
import Derived.Test.YthgcjiocelcblaaGreatK36
namespace Go.Proofs.YthgcjiocelcblaaGreat
open Go.RowKit

theorem upon_in (l n : Nat) {P : Program} {o : Oper} {a : Act} {next : Act → World → Prop} {Q : Exit → Act → World → Prop} : ∀ {r : Result Next}, Oper.upon P o a next Q r → Oper.uponIn (Fence.wide.inRound l) n P o a next Q r
  | .ok (.value _) _, h => h
  | .ok .skip _, h => h
  | .ok (.defer _) _, h => h
  | .ok (.enter _ _) _, h => ⟨(fun hd => by cases hd), CallsIn.inRound l (callsIn_wide.2 h)⟩
  | .ok (.row _ _) _, h => ⟨(fun hd => by cases hd), fun c cs _ => let ⟨v, w', r, s⟩ := h c cs; ⟨v, w', r, stepsIn_wide.2 s⟩⟩
  | .ok (.round ..) _, h => h.elim
  | .halt (.panic _) _, h => h
  | .halt (.fatal ..) _, h => h.elim
/-- No operation is a defer statement. -/
def NoDefer (ops : Array Oper) : Prop := ∀ (i : Nat) (o : Oper), ops[i]? = some o → ∀ c, o.op ≠ .defer c
theorem wpOp_in (l n : Nat) {P : Program} {ops : Array Oper} {Q : Exit → Act → World → Prop} {i : Nat} {K K' : Act → World → Prop} {a : Act} {w : World} (hd : NoDefer ops) (hQ : ¬ LetsOut Q) (hK : ∀ a w, K a w → K' a w) (h : wpOp P ops Q i K a w) : wpOpIn (Fence.wide.inRound l) n P ops Q i K' a w := by
  unfold wpOp at h
  unfold wpOpIn
  cases ho : ops[i]? with
  | none => rw [ho] at h; exact hK _ _ h
  | some o =>
    rw [ho] at h
    simp only at h ⊢
    split
    · rename_i hw
      rw [if_pos hw] at h
      rcases h with h | h
      · refine ⟨fun _ _ => trivial, ?_⟩
        rw [Oper.semAt_plain _ _ _ (hd i o ho)]
        exact upon_in l n (Oper.wp_mono hK h)
      · exact absurd h.2 hQ
    · rename_i hw
      rw [if_neg hw] at h
      exact ⟨fun _ _ => trivial, hK _ _ h⟩
theorem wpAny_in (l n : Nat) {P : Program} {md : Region.Mode} {ops : Array Oper} {Q : Exit → Act → World → Prop} (hd : NoDefer ops) (hQ : ¬ LetsOut Q) : ∀ (fuel : Nat) (listed : Array Bool) (a : Act) (w : World), wpAny P md ops Q fuel listed a w → wpAnyIn (Fence.wide.inRound l) n P md ops Q fuel listed a w
  | 0, _, _, _, h => h
  | fuel + 1, listed, _, _, h => ⟨h.1, fun i hi => wpOp_in l n hd hQ (wpAny_in l n hd hQ fuel (listed.setIfInBounds i true)) (h.2 i hi)⟩
theorem wpIn_region_round (l n : Nat) {P : Program} {ops : Array Oper} {Q : Exit → Act → World → Prop} {id : Nat} {a : Act} {w : World} (hm : P.follows .mixedOrders = true) (hd : NoDefer ops) (hQ : ¬ LetsOut Q)
    (h : wpAny P .any ops Q ops.size (Array.replicate ops.size false) a w.drew) : (Code.region id ops true).wpIn (Fence.wide.inRound l) n P Q a w :=
  wpIn_region_any hm (wpAny_in l n hd hQ _ _ _ _ h)
/-- It goes on, and does nothing else. -/
def OnlyN (K : Act → World → Prop) : Exit → Act → World → Prop
  | .normal, a, w => K a w
  | _, _, _ => False
theorem OnlyN.imp {Q : Exit → Act → World → Prop} : ∀ (e : Exit) (a : Act) (w : World), OnlyN (Q .normal) e a w → Q e a w := fun e a w h => by
  cases e <;> first | exact h | exact (h : False).elim
/-- The beginning of a walk by one condition on the world (OrdersHeld), in a round. -/
theorem wpIn_region_held_round (l n : Nat) (S : World → Prop) {P : Program} {ops : Array Oper} {Q : Exit → Act → World → Prop} {id : Nat} {a : Act} {w : World} (hm : P.follows .mixedOrders = true) (hd : NoDefer ops)
    (h : wpAnyH P .any ops (OnlyN (Q .normal)) S ops.size (Array.replicate ops.size false) a w.drew) : (Code.region id ops true).wpIn (Fence.wide.inRound l) n P Q a w :=
  wpIn_mono (wpIn_region_round l n hm hd (by rintro ⟨_, _, h⟩; exact h) (wpAny_of_held _ _ _ _ h)) OnlyN.imp
/-- No defer statement, by looking. -/
theorem noDefer_of {ops : Array Oper} (h : (ops.toList.all fun o => match o.op with | .defer _ => false | _ => true) = true) : NoDefer ops := by
  intro i o ho c hc
  have h1 : o ∈ ops.toList := by
    have := Array.mem_of_getElem? ho
    simpa using this
  have h2 := List.all_eq_true.1 h o h1
  rw [hc] at h2
  cases h2
end Go.Proofs.YthgcjiocelcblaaGreat

namespace Go.Proofs.YthgcjiocelcblaaGreat
open Go.RowKit Go.Deep

/-- The three boxes with which point.Write begins. -/
def wr3 (w : World) (dv v0 v1 v2 v3 : Value) : World := ((w.alloc (.cells #[dv] 81)).alloc (.cells #[v0, v1, v2, v3] 25)).alloc (.cells #[.int .i64 0] 30)
structure Wr3 (A : Nat) (dv v0 v1 v2 v3 : Value) (x : World) : Prop where
  d : x.heap[A]? = some (.cells #[dv] 81 (0, 0))
  p : x.heap[A + 1]? = some (.cells #[v0, v1, v2, v3] 25 (0, 0))
  r : x.heap[A + 2]? = some (.cells #[.int .i64 0] 30 (0, 0))
theorem wr3_of (w : World) (dv v0 v1 v2 v3 : Value) : Wr3 w.heap.size dv v0 v1 v2 v3 (wr3 w dv v0 v1 v2 v3) := by
  have h1 := heap_alloc_new w (.cells #[dv] 81)
  have h2 := heap_alloc_new (w.alloc (.cells #[dv] 81)) (.cells #[v0, v1, v2, v3] 25)
  have h3 := heap_alloc_new ((w.alloc (.cells #[dv] 81)).alloc (.cells #[v0, v1, v2, v3] 25)) (.cells #[.int .i64 0] 30)
  rw [World.size_alloc] at h2
  rw [World.size_alloc, World.size_alloc] at h3
  exact ⟨(heap_alloc_old' (by simp; omega) _).trans ((heap_alloc_old' (by simp) _).trans h1), (heap_alloc_old' (by simp) _).trans h2, h3⟩
theorem Wr3.at_ {A : Nat} {dv v0 v1 v2 v3 : Value} {x y : World} (h : Wr3 A dv v0 v1 v2 v3 x) (hk : ∀ k, A ≤ k → k < A + 3 → y.heap[k]? = x.heap[k]?) : Wr3 A dv v0 v1 v2 v3 y :=
  ⟨(hk _ (by omega) (by omega)).trans h.d, (hk _ (by omega) (by omega)).trans h.p, (hk _ (by omega) (by omega)).trans h.r⟩
theorem Wr3.c {A : Nat} {dv v0 v1 v2 v3 : Value} {x : World} (h : Wr3 A dv v0 v1 v2 v3 x) : x.cell? ⟨A, 0, none⟩ = some dv ∧ x.cell? ⟨A + 1, 0, none⟩ = some v0 ∧ x.cell? ⟨A + 1, 1, none⟩ = some v1 ∧ x.cell? ⟨A + 1, 2, none⟩ = some v2 ∧ x.cell? ⟨A + 1, 3, none⟩ = some v3 ∧ x.cell? ⟨A + 2, 0, none⟩ = some (.int .i64 0) ∧ x.frozen? ⟨A + 2, 0, none⟩ = false ∧ A + 2 < x.heap.size := by
  obtain ⟨h1, h2, h3⟩ := h
  refine ⟨?_, ?_, ?_, ?_, ?_, ?_, ?_, (Array.getElem?_eq_some_iff.1 h3).1⟩ <;> simp [World.cell?, World.frozen?, h1, h2, h3]
theorem Wr3.lt {A : Nat} {dv v0 v1 v2 v3 : Value} {x : World} (h : Wr3 A dv v0 v1 v2 v3 x) : A + 2 < x.heap.size := (Array.getElem?_eq_some_iff.1 h.r).1
/-- One stripe holds these pages. -/
def RowX (s : RS) (seg r : Nat) (D : Nat → RH × List Nat) : Prop :=
  ∃ p L G P, ((p : Nat) : Int) = ParOf s.n s.pg seg r ∧ p < s.n ∧ StripeB s.n p s.sz seg r L G P ∧ LOk L s.sz ∧ L.length + 1 = s.n ∧ (∀ q, q + 1 < s.n → (L.getD q SP.nil).h = (D q).1 ∧ (L.getD q SP.nil).d.l = (D q).2) ∧ ∀ m, m < s.n → s.gone m = 0 → s.page (m, seg, r) = onB p G P m
/-- The boxes of point.Write. -/
def NB (A gb sb rb bs bn j : Nat) : Prop := (A ≤ j ∧ j < A + 3) ∨ j = gb ∨ j = sb ∨ j = rb ∨ j = bs ∨ j = bn
structure WrS (B : Nat) (s : RS) (w : World) (A gb sb rb bs bn : Nat) (dv v0 v1 v2 v3 sv : Value) (seg : Nat) (a : Option Addr) (L : List SP) (k kr : Nat) (s' : RS) (W : World) : Prop where
  ram : Ram B s' W
  st : RStep s w s' W
  gone : s'.gone = s.gone
  ol : s'.ol.length = s.ol.length + k * s.n
  oth : ∀ q, q.2.1 ≠ seg → s'.F q = s.F q
  pgs : Pgs s' W a L
  box : Wr3 A dv v0 v1 v2 v3 W
  g : W.heap[gb]? = some (.cells #[.int .i64 (s.n : Int), .int .i64 (s.bl : Int), .int .i64 (s.pg : Int), .int .i64 (s.sz : Int)] 49 (0, 0))
  sg : W.heap[sb]? = some (.cells #[.int .i64 (seg : Int)] 3 (0, 0))
  row : W.heap[rb]? = some (.cells #[.int .i64 (kr : Int)] 3 (0, 0))
  ck : CkMemP sv (s.n - 1) bs bn W
  nob : ∀ j, NB A gb sb rb bs bn j → ¬ s'.ob j
section
variable {B : Nat} {s : RS} {w : World} {A gb sb rb bs bn : Nat} {dv v0 v1 v2 v3 sv : Value} {seg : Nat} {a : Option Addr} {L : List SP} {k kr : Nat} {s' : RS} {W : World}
/-- The boxes' blocks are there. -/
theorem WrS.ltNB (h : WrS B s w A gb sb rb bs bn dv v0 v1 v2 v3 sv seg a L k kr s' W) : ∀ j, NB A gb sb rb bs bn j → j < W.heap.size := by
  rintro j (⟨h1, h2⟩ | rfl | rfl | rfl | rfl | rfl)
  · have := h.box.lt; omega
  · exact (Array.getElem?_eq_some_iff.1 h.g).1
  · exact (Array.getElem?_eq_some_iff.1 h.sg).1
  · exact (Array.getElem?_eq_some_iff.1 h.row).1
  · exact (ckP_lt h.ck).1
  · exact (ckP_lt h.ck).2
/-- A step that leaves the boxes, and hands on all else. -/
theorem WrS.move {s2 : RS} {W2 : World} {k2 : Nat} (h : WrS B s w A gb sb rb bs bn dv v0 v1 v2 v3 sv seg a L k kr s' W) (hr : Ram B s2 W2) (hst : RStep s w s2 W2) (hg : s2.gone = s.gone) (hol : s2.ol.length = s.ol.length + k2 * s.n) (hoth : ∀ q, q.2.1 ≠ seg → s2.F q = s.F q) (hp : Pgs s2 W2 a L)
    (hb : ∀ j, NB A gb sb rb bs bn j → ¬ s2.ob j ∧ W2.heap[j]? = W.heap[j]?) : WrS B s w A gb sb rb bs bn dv v0 v1 v2 v3 sv seg a L k2 kr s2 W2 :=
  ⟨hr, hst, hg, hol, hoth, hp, h.box.at_ fun j h1 h2 => (hb j (.inl ⟨h1, h2⟩)).2, (hb gb (.inr (.inl rfl))).2.trans h.g, (hb sb (.inr (.inr (.inl rfl)))).2.trans h.sg, (hb rb (.inr (.inr (.inr (.inl rfl))))).2.trans h.row, ⟨(hb bs (.inr (.inr (.inr (.inr (.inl rfl)))))).2.trans h.ck.1, (hb bn (.inr (.inr (.inr (.inr (.inr rfl)))))).2.trans h.ck.2⟩, fun j hj => (hb j hj).1⟩
theorem WrS.step {W2 : World} (h : WrS B s w A gb sb rb bs bn dv v0 v1 v2 v3 sv seg a L k kr s' W) (hb : Below W.heap.size W W2) : WrS B s w A gb sb rb bs bn dv v0 v1 v2 v3 sv seg a L k kr s' W2 :=
  h.move (h.ram.step hb) (h.st.trans (RStep.of_below hb)) h.gone h.ol h.oth (h.pgs.step hb) fun j hj => ⟨h.nob j hj, hb.block j (h.ltNB j hj)⟩
theorem WrS.rstep {s2 : RS} {W2 : World} {k2 : Nat} (h : WrS B s w A gb sb rb bs bn dv v0 v1 v2 v3 sv seg a L k kr s' W) (hr : Ram B s2 W2) (hst : RStep s' W s2 W2) (hg : s2.gone = s'.gone) (hol : s2.ol.length = s.ol.length + k2 * s.n) (hoth : ∀ q, q.2.1 ≠ seg → s2.F q = s'.F q) :
    WrS B s w A gb sb rb bs bn dv v0 v1 v2 v3 sv seg a L k2 kr s2 W2 :=
  h.move hr (h.st.trans hst) (hg.trans h.gone) hol (fun q hq => (hoth q hq).trans (h.oth q hq)) (h.pgs.rstep hst) fun j hj => hst.block j (h.ltNB j hj) (h.nob j hj)
theorem isCells_of_cell {x : World} {q : Addr} {v : Value} (h : x.cell? q = some v) : ∃ o : Obj, x.heap[q.block]? = some o ∧ o.isCells = true := by
  unfold World.cell? at h
  split at h
  · rename_i e; exact ⟨_, e, rfl⟩
  · cases h
/-- What the loop's own book-keeping does. -/
theorem grown_same {C : Nat} {W2 : World} {row : Option Nat} (hg : W.grownBy W2 row) (hr : ∀ r, row = some r → C ≤ r ∧ ∃ o : Obj, W.heap[r]? = some o ∧ o.isCells = false) (j : Nat) (hj : j < W.heap.size) (hc : j < C ∨ ∃ o : Obj, W.heap[j]? = some o ∧ o.isCells = true) : W2.heap[j]? = W.heap[j]? := by
  refine hg.block j hj fun e => ?_
  obtain ⟨h1, o, ho, hoc⟩ := hr j e.symm
  rcases hc with h | ⟨o2, ho2, hc2⟩
  · omega
  · rw [ho] at ho2
    cases ho2
    rw [hoc] at hc2
    cases hc2
theorem WrS.grown {C : Nat} {W2 : World} {row : Option Nat} (h : WrS B s w A gb sb rb bs bn dv v0 v1 v2 v3 sv seg a L k kr s' W) (h0 : Ram B s w) (hC : w.heap.size ≤ C) (hg : W.grownBy W2 row) (hr : ∀ r, row = some r → C ≤ r ∧ ∃ o : Obj, W.heap[r]? = some o ∧ o.isCells = false) : WrS B s w A gb sb rb bs bn dv v0 v1 v2 v3 sv seg a L k kr s' W2 := by
  have key := grown_same hg hr
  have hcell : ∀ (q : Addr) (v : Value), W.cell? q = some v → W2.heap[q.block]? = W.heap[q.block]? := fun q v hq => key _ (World.block_lt_of_cell? W q hq) (.inr (isCells_of_cell hq))
  obtain ⟨e1, e2, e3, _⟩ := h.st.same
  have hob : ∀ j, j < W.heap.size → s'.ob j → W2.heap[j]? = W.heap[j]? := by
    rintro j hj (e | e | e | e)
    · exact key j hj (.inl (by rw [e, e1]; have := h0.rlt; omega))
    · exact key j hj (.inl (by rw [e, e2]; have := h0.pages.lt; omega))
    · exact key j hj (.inl (by rw [e, e3]; have := h0.goneF.lt; omega))
    · refine key j hj (.inr ?_)
      rcases h.ram.ordF.2 with ⟨q, _⟩ | ⟨g, cap, cur, q, _, hgb, _⟩
      · rw [q] at e; simp [Value.ownBlock] at e
      · rw [q] at e; simp [Value.ownBlock] at e
        rw [e]
        exact ⟨_, hgb, rfl⟩
  have hpart : ∀ (p : PS), PartOk W p → 0 < p.n → ∀ x, p.a = some x → W2.heap[x.block]? = W.heap[x.block]? := by
    intro p hp hn x hx
    obtain ⟨b', off, e, hc⟩ := hp.1.2.2 hn
    rw [e] at hx
    cases hx
    exact hcell ⟨b', off + 0, none⟩ _ (hc 0 hn)
  have hram : Ram B s' W2 := h.ram.keep hob fun q p hq hF x hx => by
    obtain ⟨p1, p2, _, _⟩ := h.ram.parts q p hq hF
    exact hpart p p1 (by rw [p2]; omega) x hx
  refine h.move hram ⟨hg.os.trans h.st.os, hg.tape.trans h.st.tape, hg.output.trans h.st.output, Nat.le_trans h.st.size hg.size, fun j hj hn => ?_, h.st.same⟩ h.gone h.ol h.oth ?_ fun j hj => ⟨h.nob j hj, key j (h.ltNB j hj) (.inr ?_)⟩
  · obtain ⟨q1, q2⟩ := h.st.block j hj hn
    exact ⟨q1, (key j (Nat.lt_of_lt_of_le hj h.st.size) (.inl (by omega))).trans q2⟩
  · obtain ⟨b', off, e, hc⟩ := h.pgs.pg.1 h.pgs.len.1
    have hb' : W2.heap[b']? = W.heap[b']? := hcell ⟨b', off + 0 * 8, none⟩ _ (hc 0 h.pgs.len.1).1
    refine ⟨⟨fun _ => ⟨b', off, e, fun i hi => spat_at (hc i hi) hb'⟩, fun q hq => ⟨(h.pgs.pg.2 q hq).1.at_ fun h0 x hx => hpart q.d (h.pgs.pg.2 q hq).1 h0 x hx, (h.pgs.pg.2 q hq).2⟩⟩, h.pgs.len, h.pgs.at_, h.pgs.parts⟩
  · rcases hj with ⟨q1, q2⟩ | rfl | rfl | rfl | rfl | rfl
    · rcases (by omega : j = A ∨ j = A + 1 ∨ j = A + 2) with rfl | rfl | rfl
      · exact ⟨_, h.box.d, rfl⟩
      · exact ⟨_, h.box.p, rfl⟩
      · exact ⟨_, h.box.r, rfl⟩
    · exact ⟨_, h.g, rfl⟩
    · exact ⟨_, h.sg, rfl⟩
    · exact ⟨_, h.row, rfl⟩
    · exact ⟨_, h.ck.1, rfl⟩
    · exact ⟨_, h.ck.2, rfl⟩
end
end Go.Proofs.YthgcjiocelcblaaGreat

namespace Go.Proofs.YthgcjiocelcblaaGreat
open Go.RowKit Go.Deep

theorem par_any (n c seg row : Nat) (hn : 0 < n) : ∃ p : Nat, ((p : Nat) : Int) = ParOf (n : Nat) (c : Nat) (seg : Nat) (row : Nat) ∧ p < n := by
  refine ⟨(seg * c + row) % n, ?_, Nat.mod_lt _ hn⟩
  unfold ParOf
  rw [Int.natCast_emod, Int.natCast_add, Int.natCast_mul]
theorem getD_part (L : List SP) (i c q : Nat) (hq : q < c) : ((L.drop i).take c).getD q SP.nil = L.getD (i + q) SP.nil := by
  simp [List.getD, hq, List.getElem?_drop]
theorem cellsSP_part {w : World} {b : Nat} {L : List SP} (h : CellsSP w (some ⟨b, 0, none⟩) L) (i c : Nat) (hc : i + c ≤ L.length) : CellsSP w (some ⟨b, 0 + i * 8, none⟩) ((L.drop i).take c) := by
  intro h0
  have hl : ((L.drop i).take c).length = c := by rw [List.length_take, List.length_drop]; omega
  refine ⟨b, 0 + i * 8, rfl, fun q hq => ?_⟩
  rw [hl] at hq
  obtain ⟨b', off, e, hcl⟩ := h (by omega)
  obtain ⟨rfl, rfl⟩ : b = b' ∧ 0 = off := by simpa using e
  have := hcl (i + q) (by omega)
  rw [getD_part L i c q hq]
  rwa [show 0 + i * 8 + q * 8 = 0 + (i + q) * 8 by omega]
/-- What a full stripe's pages are. -/
structure L5Ok (n sz : Nat) (D : Nat → RH × List Nat) (a : Option Addr) (L5 : List SP) (W : World) : Prop where
  len : L5.length + 1 = n
  cl : CellsSP W a L5
  ok : ∀ q, q + 1 < n → (L5.getD q SP.nil).h = (D q).1 ∧ (L5.getD q SP.nil).d.l = (D q).2 ∧ (L5.getD q SP.nil).d.n = sz ∧ PartOk W (L5.getD q SP.nil).d
  fit : ∀ q, q + 1 < n → (D q).1.Fits ∧ 1 ≤ (D q).1.ki ∧ (D q).1.ki ≤ 6 ∧ (D q).2.length = sz
theorem mem_getD {L : List SP} {p : SP} (h : p ∈ L) : ∃ q, q < L.length ∧ L.getD q SP.nil = p := by
  obtain ⟨q, hq, e⟩ := List.mem_iff_getElem.1 h
  exact ⟨q, hq, by simp [List.getD, hq, e]⟩
section
variable {B : Nat} {s : RS} {w : World} {A gb sb rb bs bn : Nat} {dv v0 v1 v2 v3 sv : Value} {seg : Nat} {a : Option Addr} {L : List SP} {k : Nat} {s' : RS} {W : World}
theorem wr_write (h : WrS B s w A gb sb rb bs bn dv v0 v1 v2 v3 sv seg a L k k s' W) (hB : B ≤ w.heap.size) (hn3 : 3 ≤ s.n) (hseg : seg + 5 < s.bl) (hk : k < s.pg) (hsz : s.sz ≤ 1000) (hol : s.ol.length + s.n * s.pg ≤ 1000) (hone : deads s (ordL 0 s.n s.first) ≤ 1)
    (a5 : Option Addr) (c5 : Nat) (L5 : List SP) (D : Nat → RH × List Nat) (h5 : L5Ok s.n s.sz D a5 L5 W) :
    Calls Tryz.prog 40 #[.iface 51 (.pointer (some ⟨s.rb, 0, none⟩)), .int .i64 (seg : Int), .int .i64 (k : Int), .slice a5 (s.n - 1) c5] W fun e y =>
      e = .returned (.int .i64 0) ∧ ∃ s2, WrS B s w A gb sb rb bs bn dv v0 v1 v2 v3 sv seg a L (k + 1) k s2 y ∧ RowX s2 seg k D ∧ (∀ q, ¬ (q.2.1 = seg ∧ q.2.2 = k) → s2.F q = s'.F q) ∧ RStep s' W s2 y ∧ s2.gone = s'.gone := by
  obtain ⟨e1, e2, e3, e4, e5, e6, e7, e8⟩ := h.st.same
  obtain ⟨p, hp, hpn⟩ := par_any s.n s.pg seg k (by omega)
  have hmem : ∀ q ∈ L5, ∃ i, i + 1 < s.n ∧ L5.getD i SP.nil = q := fun q hq => by
    obtain ⟨i, hi, e⟩ := mem_getD hq
    exact ⟨i, by have := h5.len; omega, e⟩
  have hPG : PagesSP W a5 L5 := ⟨h5.cl, fun q hq => by
    obtain ⟨i, hi, rfl⟩ := hmem q hq
    exact ⟨(h5.ok i hi).2.2.2, by rw [(h5.ok i hi).1]; exact (h5.fit i hi).1⟩⟩
  have hd : ∀ q ∈ L5, q.d.n = s.sz := fun q hq => by
    obtain ⟨i, hi, rfl⟩ := hmem q hq
    exact (h5.ok i hi).2.2.1
  have hLO : LOk L5 s.sz := ⟨fun q hq => by
    obtain ⟨i, hi, rfl⟩ := hmem q hq
    rw [(h5.ok i hi).2.1]; exact (h5.fit i hi).2.2.2, fun q hq => by
    obtain ⟨i, hi, rfl⟩ := hmem q hq
    rw [(h5.ok i hi).1]; exact ⟨(h5.fit i hi).1, (h5.fit i hi).2.1, (h5.fit i hi).2.2.1⟩⟩
  have hkn : k * s.n ≤ s.n * s.pg := by rw [Nat.mul_comm]; exact Nat.mul_le_mul_left _ (Nat.le_of_lt hk)
  have hw := write_any h.ram (Nat.le_trans hB h.st.size) seg k p a5 (s.n - 1) c5 L5 (by rw [e5]; exact hseg) (by rw [e6]; exact hk) (by rw [e7]; exact hsz) (by rw [e4, e6]; exact hp) (by rw [e4]; exact hpn) (by have := h5.len; omega) (by rw [e4]; omega) hPG (by rw [e7]; exact hd) (by rw [h.ol]; omega) (by
    have : deads s' (ordL 0 s'.n s'.first) = deads s (ordL 0 s.n s.first) := by unfold deads; rw [h.gone, e4, e8]
    rw [this]; exact hone)
  rw [e1] at hw
  refine hw.mono ?_
  rintro e y ⟨s2, G, P, rfl, hr, hs, ho, hgo, hwr, hst⟩
  have hne : ∀ q, ¬ (q.2.1 = seg ∧ q.2.2 = k) → s2.F q = s'.F q := fun q hq => hwr.2 q fun m _ _ e => hq (by rw [e]; exact ⟨rfl, rfl⟩)
  refine ⟨rfl, s2, h.rstep hr hs hgo (by rw [ho, List.length_append, ordL_len, h.ol, e4, Nat.succ_mul]; omega) (fun q hq => hne q fun c => hq c.1), ?_, hne, hs, hgo⟩
  obtain ⟨d1, d2, d3, d4, d5, d6, d7, d8⟩ := hs.same
  rw [e4, e7] at hst
  refine ⟨p, L5, G, P, by rw [d4, e4, d6, e6]; exact hp, by rw [d4, e4]; exact hpn, by rw [d4, e4, d7, e7]; exact hst, by rw [d7, e7]; exact hLO, by rw [d4, e4]; exact h5.len, fun q hq => ?_, fun m hm hg0 => ?_⟩
  · rw [d4, e4] at hq
    exact ⟨(h5.ok q hq).1, (h5.ok q hq).2.1⟩
  · rw [d4] at hm
    exact has_wrote hwr hm (by rw [← hgo]; exact hg0)
end
/-- slices.Chunk of pages hands its function back. -/
def ChunkRetP (sv : Value) (sz : Nat) (w : World) (e : Ending) (w' : World) : Prop :=
  ∃ bs bn, e = .returned (.func (.func 54) #[] #[.pointer (some ⟨bs, 0, none⟩), .pointer (some ⟨bn, 0, none⟩)]) ∧ CkMemP sv sz bs bn w' ∧ w.heap.size ≤ bs ∧ w.heap.size ≤ bn ∧ Below w.heap.size w w'
set_option maxRecDepth 100000 in
theorem chunkP_any (sv : Value) (hsv : ∃ a n c, sv = .slice a n c) (sz : Nat) (h0 : 0 < sz) (hs : sz ≤ 100000) (w : World) :
    Calls Tryz.prog 38 #[sv, .int .i64 (sz : Int)] w (ChunkRetP sv sz w) := by
  obtain ⟨a, n, c, rfl⟩ := hsv
  have q1 : decide ((sz : Int) < 1) = false := by simp; omega
  have q1' : decide (sz < 1) = false := by simp; omega
  have h1 := heap_alloc_new w (.cells #[.slice a n c] 84)
  have h2 := heap_alloc_new (w.alloc (.cells #[.slice a n c] 84)) (.cells #[.int .i64 (sz : Int)] 3)
  have hb := bel_alloc (bel_alloc (Below.refl _ w) (.cells #[.slice a n c] 84)) (.cells #[.int .i64 (sz : Int)] 3)
  have H : Hid (CkMemP (.slice a n c) sz w.heap.size (w.heap.size + 1) ((w.alloc (.cells #[.slice a n c] 84)).alloc (.cells #[.int .i64 (sz : Int)] 3))) := Lib.hid ⟨(heap_alloc_old' (by simp) _).trans h1, by rw [show w.heap.size + 1 = (w.alloc (.cells #[.slice a n c] 84)).heap.size by simp]; exact h2⟩
  have HB := Lib.hid hb
  obtain ⟨c0, c1⟩ := ckP_cells H.out
  clear h1 h2 hb
  go_enter Tryz.func38, Tryz.ntmps38
  go_wp2
  go_ret
  exact ⟨_, _, rfl, H.out, Nat.le_refl _, by simp, HB.out⟩
def rowsOf (n many : Nat) : Nat := (many + (n - 1) - 1) / (n - 1)
theorem rows_iff {n many : Nat} (hn : 3 ≤ n) (r : Nat) : r < rowsOf n many ↔ r * (n - 1) < many := by
  unfold rowsOf
  obtain ⟨d, hd⟩ : ∃ d, d = n - 1 := ⟨_, rfl⟩
  rw [← hd]
  have h0 : 0 < d := by omega
  rw [Nat.lt_iff_add_one_le, Nat.le_div_iff_mul_le h0, Nat.succ_mul]
  omega
theorem ptHdr_fits {sq many i : Nat} (hsq : sq < 4294967296) (hi : i < 65536) (hm : many < 65536) : (ptHdr sq many i).Fits ∧ 1 ≤ (ptHdr sq many i).ki ∧ (ptHdr sq many i).ki ≤ 6 :=
  ⟨⟨show 3 < 256 by decide, hsq, show 0 < 4294967296 by decide, hi, hm, show 0 < 4294967296 by decide, show 0 < 4294967296 by decide⟩, show 1 ≤ 3 by decide, show 3 ≤ 6 by decide⟩
theorem fillHdr_fits {sq : Nat} (hsq : sq < 4294967296) : (fillHdr sq).Fits ∧ 1 ≤ (fillHdr sq).ki ∧ (fillHdr sq).ki ≤ 6 :=
  ⟨⟨show 6 < 256 by decide, hsq, show 0 < 4294967296 by decide, show 0 < 65536 by decide, show 0 < 65536 by decide, show 0 < 4294967296 by decide, show 0 < 4294967296 by decide⟩, show 1 ≤ 6 by decide, show 6 ≤ 6 by decide⟩
/-- The pages that point.pages made. -/
def PgL (sz sq : Nat) (X : List Nat) (L : List SP) (W : World) : Prop := ∀ i, i < L.length → (L.getD i SP.nil).h = ptHdr sq L.length i ∧ (L.getD i SP.nil).d.l = chunkL sz X i ∧ (L.getD i SP.nil).d.n = sz ∧ PartOk W (L.getD i SP.nil).d
theorem l5_ok {n sz sq b c : Nat} {X : List Nat} {L L5 : List SP} {W W5 : World} {a5 : Option Addr} {r : Nat} (hn : 3 ≤ n) (hr : r * (n - 1) < L.length) (hX : X.length = L.length * sz) (hsq : sq < 4294967296) (hL : L.length ≤ 1000) (hp : PgL sz sq X L W) (hb : Below W.heap.size W W5)
    (hl : L5.length = n - 1) (hcl : CellsSP W5 a5 L5) (hc : c = ckN L.length (n - 1) r) (hF : FullL sz sq c b W5 (.slice a5 (n - 1) 0) ((L.drop (r * (n - 1))).take c) L5 ∨ ∃ sv, FullL sz sq c b W5 sv ((L.drop (r * (n - 1))).take c) L5) :
    L5Ok n sz (fun q => ptC sz sq L.length X (r * (n - 1) + q)) a5 L5 W5 := by
  obtain ⟨sv, hF⟩ : ∃ sv, FullL sz sq c b W5 sv ((L.drop (r * (n - 1))).take c) L5 := hF.elim (fun h => ⟨_, h⟩) id
  have hcq : c = min (n - 1) (L.length - r * (n - 1)) := by rw [hc]; rfl
  refine ⟨by omega, hcl, fun q hq => ?_, fun q hq => ?_⟩
  · by_cases hqc : q < c
    · have e := hF.old q hqc
      rw [getD_part L _ c q hqc] at e
      have hi : r * (n - 1) + q < L.length := by omega
      obtain ⟨p1, p2, p3, p4⟩ := hp _ hi
      rw [e]
      simp only [ptC]
      rw [if_pos hi]
      exact ⟨p1, p2, p3, p4.step hb⟩
    · obtain ⟨p1, p2, p3, p4, _⟩ := hF.new q (by omega) (by omega)
      simp only [ptC]
      rw [if_neg (by omega)]
      exact ⟨p1, p2, p3, p4⟩
  · simp only [ptC]
    by_cases hi : r * (n - 1) + q < L.length
    · rw [if_pos hi]
      obtain ⟨f1, f2, f3⟩ := ptHdr_fits (many := L.length) (i := r * (n - 1) + q) hsq (by omega) (by omega)
      exact ⟨f1, f2, f3, chunk_len hX hi⟩
    · rw [if_neg hi]
      obtain ⟨f1, f2, f3⟩ := fillHdr_fits hsq
      exact ⟨f1, f2, f3, by simp⟩
end Go.Proofs.YthgcjiocelcblaaGreat

namespace Go.Proofs.YthgcjiocelcblaaGreat
open Go.RowKit Go.Deep
section
variable {B : Nat} {s : RS} {w : World} {A gb sb rb bs bn : Nat} {dv v0 v1 v2 v3 sv : Value} {seg : Nat} {a : Option Addr} {L : List SP} {k kr : Nat} {s' : RS} {W : World}
theorem WrS.cells (h : WrS B s w A gb sb rb bs bn dv v0 v1 v2 v3 sv seg a L k kr s' W) : W.cell? ⟨A, 0, none⟩ = some dv ∧ W.cell? ⟨A + 1, 0, none⟩ = some v0 ∧ W.cell? ⟨A + 1, 1, none⟩ = some v1 ∧ W.cell? ⟨A + 1, 2, none⟩ = some v2 ∧ W.cell? ⟨A + 1, 3, none⟩ = some v3 ∧ W.cell? ⟨gb, 0, none⟩ = some (.int .i64 (s.n : Int)) ∧ W.cell? ⟨gb, 1, none⟩ = some (.int .i64 (s.bl : Int)) ∧ W.cell? ⟨gb, 2, none⟩ = some (.int .i64 (s.pg : Int)) ∧ W.cell? ⟨gb, 3, none⟩ = some (.int .i64 (s.sz : Int)) ∧ W.cell? ⟨sb, 0, none⟩ = some (.int .i64 (seg : Int)) ∧ W.cell? ⟨rb, 0, none⟩ = some (.int .i64 (kr : Int)) := by
  obtain ⟨c0, c1, c2, c3, c4, _⟩ := h.box.c
  obtain ⟨g0, g1, g2, g3⟩ := four_at h.g
  exact ⟨c0, c1, c2, c3, c4, g0, g1, g2, g3, by simp [World.cell?, h.sg], by simp [World.cell?, h.row]⟩
/-- What is no cells, and lies behind, isn't the members'. -/
theorem WrS.nob_other {C : Nat} (h : WrS B s w A gb sb rb bs bn dv v0 v1 v2 v3 sv seg a L k kr s' W) (h0 : Ram B s w) (hC : w.heap.size ≤ C) (j : Nat) (o : Obj) (hj : C ≤ j) (ho : W.heap[j]? = some o) (hc : o.isCells = false) : ¬ s'.ob j := by
  obtain ⟨e1, e2, e3, _⟩ := h.st.same
  rintro (e | e | e | e)
  · rw [e1] at e; have := h0.rlt; omega
  · rw [e2] at e; have := h0.pages.lt; omega
  · rw [e3] at e; have := h0.goneF.lt; omega
  · rcases h.ram.ordF.2 with ⟨q, _⟩ | ⟨g, cap, cur, q, _, hgb, _⟩
    · rw [q] at e; simp [Value.ownBlock] at e
    · rw [q] at e; simp [Value.ownBlock] at e
      rw [e, hgb] at ho
      cases ho
      cases hc
/-- The row is counted on. -/
theorem WrS.bump (h : WrS B s w A gb sb rb bs bn dv v0 v1 v2 v3 sv seg a L k kr s' W) (h0 : w.heap.size ≤ rb) (hne : ∀ j, (A ≤ j ∧ j < A + 3) ∨ j = gb ∨ j = sb ∨ j = bs ∨ j = bn → j ≠ rb) (k2 : Nat) : WrS B s w A gb sb rb bs bn dv v0 v1 v2 v3 sv seg a L k k2 s' (W.setCell ⟨rb, 0, none⟩ (.int .i64 (k2 : Int))) := by
  have hob : ¬ s'.ob rb := h.nob rb (.inr (.inr (.inr (.inl rfl))))
  have key : ∀ j, j ≠ rb → (W.setCell ⟨rb, 0, none⟩ (.int .i64 (k2 : Int))).heap[j]? = W.heap[j]? := fun j hj => heap_setCell_other W _ j _ hj
  have hpart : ∀ (p : PS), PartOk W p → 0 < p.n → ∀ x, p.a = some x → x.block ≠ rb := by
    intro p hp hn x hx c
    obtain ⟨b', off, e, hc⟩ := hp.1.2.2 hn
    rw [e] at hx
    cases hx
    have h1 := hc 0 hn
    have e2 : b' = rb := c
    subst e2
    rw [cell_of_row W b' (off + 0) _ _ _ h.row] at h1
    match off with
    | 0 => simp at h1
    | off + 1 => simp at h1
  have hram : Ram B s' (W.setCell ⟨rb, 0, none⟩ (.int .i64 (k2 : Int))) := h.ram.keep (fun j _ hj => key j fun e => hob (e ▸ hj)) fun q p hq hF x hx => by
    obtain ⟨p1, p2, _, _⟩ := h.ram.parts q p hq hF
    exact key _ (hpart p p1 (by rw [p2]; omega) x hx)
  refine ⟨hram, ⟨h.st.os, h.st.tape, h.st.output, by simpa using h.st.size, fun j hj hn => ?_, h.st.same⟩, h.gone, h.ol, h.oth, ?_, h.box.at_ fun j h1 h2 => key j (hne j (.inl ⟨h1, h2⟩)), (key gb (hne gb (.inr (.inl rfl)))).trans h.g, (key sb (hne sb (.inr (.inr (.inl rfl))))).trans h.sg, ?_, ⟨(key bs (hne bs (.inr (.inr (.inr (.inl rfl)))))).trans h.ck.1, (key bn (hne bn (.inr (.inr (.inr (.inr rfl)))))).trans h.ck.2⟩, h.nob⟩
  · obtain ⟨q1, q2⟩ := h.st.block j hj hn
    exact ⟨q1, (key j (by omega)).trans q2⟩
  · obtain ⟨b', off, e, hc⟩ := h.pgs.pg.1 h.pgs.len.1
    have hb' : b' ≠ rb := fun c => by
      have h1 := (hc 0 h.pgs.len.1).2.1
      rw [c, cell_of_row W rb _ _ _ _ h.row] at h1
      match off with
      | 0 => simp at h1
      | off + 1 => simp at h1
    exact ⟨⟨fun _ => ⟨b', off, e, fun i hi => spat_at (hc i hi) (key b' hb')⟩, fun q hq => ⟨(h.pgs.pg.2 q hq).1.at_ fun h0 x hx => key _ (hpart q.d (h.pgs.pg.2 q hq).1 h0 x hx), (h.pgs.pg.2 q hq).2⟩⟩, h.pgs.len, h.pgs.at_, h.pgs.parts⟩
  · have := heap_setCell_same W rb 0 #[.int .i64 (kr : Int)] 3 (.int .i64 (k2 : Int)) h.row
    simpa using this
end
theorem RowX.cong {s s2 : RS} {seg r : Nat} {D : Nat → RH × List Nat} (h : RowX s seg r D) (e1 : s2.n = s.n) (e2 : s2.pg = s.pg) (e3 : s2.sz = s.sz) (e4 : s2.gone = s.gone) (hF : ∀ m, s2.F (m, seg, r) = s.F (m, seg, r)) : RowX s2 seg r D := by
  obtain ⟨p, L, G, P, h1, h2, h3, h4, h5, h6, h7⟩ := h
  refine ⟨p, L, G, P, by rw [e1, e2]; exact h1, by rw [e1]; exact h2, by rw [e1, e3]; exact h3, by rw [e3]; exact h4, by rw [e1]; exact h5, fun q hq => h6 q (by rw [← e1]; exact hq), fun m hm hg => ?_⟩
  rw [page_same (hF m) e3]
  exact h7 m (by rw [← e1]; exact hm) (by rw [← e4]; exact hg)
theorem setCell_self {W : World} {b : Nat} {v : Value} {t : TypeId} (h : W.heap[b]? = some (.cells #[v] t (0, 0))) : W.setCell ⟨b, 0, none⟩ v = W := by
  have h1 : (W.setCell ⟨b, 0, none⟩ v).heap = W.heap := by
    apply Array.ext_getElem?
    intro k
    by_cases e : k = b
    · subst e
      have := heap_setCell_same W k 0 #[v] t v h
      rw [this, h]
      simp
    · exact heap_setCell_other W ⟨b, 0, none⟩ k v e
  obtain ⟨hp, tp, dr, os, out⟩ := W
  simp only [World.setCell] at h1 ⊢
  rw [h1]
end Go.Proofs.YthgcjiocelcblaaGreat
