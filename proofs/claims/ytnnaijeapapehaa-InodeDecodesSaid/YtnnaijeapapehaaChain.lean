/- A writer's calls, one behind the other, in a region that draws its order: what holds whichever operations have come up. -/
import Derived.Test.YtnnaijeapapehaaInv
import Derived.Test.YtnnaijeapapehaaReaderMore
import Derived.Test.YtnnaijeapapehaaWriterText
namespace Go.Proofs.Ytnnaijeapapehaa
open Go.RowKit

theorem putC_same (a : Act) (d : Nat) (v : Value) (h : d < a.tmps.size) : (a.put (some d) v).tmps.getD d undef = v := by
  simp [Act.put, h]
theorem putC_ne (a : Act) (d k : Nat) (v : Value) (h : k ≠ d) : (a.put (some d) v).tmps.getD k undef = a.tmps.getD k undef := by
  simp [Act.put, Array.getElem?_setIfInBounds_ne (Ne.symm h)]
theorem putC_size (a : Act) (d : Nat) (v : Value) : (a.put (some d) v).tmps.size = a.tmps.size := by simp [Act.put]
theorem rowC_bel {K : IntKind} {M : Nat} {w w' : World} {a : Option Addr} {len : Nat} {ns : List Nat} (h : RowK K M w a len ns) (hb : Below w.heap.size w w') : RowK K M w' a len ns := by
  obtain ⟨h1, h2, h3⟩ := h
  refine ⟨h1, h2, fun h0 => ?_⟩
  obtain ⟨b, off, h4, h5⟩ := h3 h0
  exact ⟨b, off, h4, fun i hi => cell_bel hb (h5 i hi)⟩
/-- A slice of numbers in a block apart of the writer. -/
def SlC (K : IntKind) (M pw : Nat) (w : World) (sv v : Value) (ns : List Nat) : Prop :=
  ∃ b o, v = .slice (some ⟨b, o, none⟩) ns.length ns.length ∧ RowK K M w (some ⟨b, o, none⟩) ns.length ns ∧ b ≠ pw ∧ some b ≠ sv.ownBlock ∧ b < w.heap.size
theorem SlC.below {K : IntKind} {M pw : Nat} {w w' : World} {sv v : Value} {ns : List Nat} (h : SlC K M pw w sv v ns) (hb : Below w.heap.size w w') : SlC K M pw w' sv v ns := by
  obtain ⟨b, o, h1, h2, h3, h4, h5⟩ := h
  exact ⟨b, o, h1, rowC_bel h2 hb, h3, h4, Nat.lt_of_lt_of_le h5 hb.size⟩
theorem SlC.moved {K : IntKind} {M pw : Nat} {w w' : World} {sv sv' v : Value} {ns : List Nat} (h : SlC K M pw w sv v ns) (hm : Moved w pw sv sv' w') : SlC K M pw w' sv' v ns := by
  obtain ⟨b, o, h1, h2, h3, h4, h5⟩ := h
  refine ⟨b, o, h1, rowK_moved h2 hm (fun _ x hx => by cases hx; exact ⟨h3, h4⟩), h3, ?_, Nat.lt_of_lt_of_le h5 hm.size⟩
  rcases hm.where_ with e | e | ⟨k, e, hk⟩
  · rw [e]; exact h4
  · rw [e]; simp
  · rw [e]; simp; omega
theorem SlC.new1 {K : IntKind} {M pw : Nat} {w : World} {sv : Value} {n : Nat} {t : TypeId} (hn : n < M) (hpw : pw < w.heap.size) (ho : ∀ k, sv.ownBlock = some k → k < w.heap.size) : SlC K M pw (w.alloc (.cells #[.int K (n : Int)] t)) sv (.slice (some ⟨w.heap.size, 0, none⟩) 1 1) [n] := by
  refine ⟨_, 0, rfl, ⟨rfl, fun x hx => ?_, fun _ => ⟨_, 0, rfl, fun i hi => ?_⟩⟩, by omega, fun e => ?_, by simp⟩
  · simp at hx; omega
  · obtain rfl : i = 0 := by simp at hi; omega
    exact cell_new1 _ _ _
  · have := ho _ e.symm; omega
theorem SlC.new2 {K : IntKind} {M pw : Nat} {w : World} {sv : Value} {n m : Nat} {t : TypeId} (hn : n < M) (hm : m < M) (hpw : pw < w.heap.size) (ho : ∀ k, sv.ownBlock = some k → k < w.heap.size) : SlC K M pw (w.alloc (.cells #[.int K (n : Int), .int K (m : Int)] t)) sv (.slice (some ⟨w.heap.size, 0, none⟩) 2 2) [n, m] := by
  obtain ⟨c0, c1⟩ := cell_new2 w (.int K (n : Int)) (.int K (m : Int)) t
  refine ⟨_, 0, rfl, ⟨rfl, fun x hx => ?_, fun _ => ⟨_, 0, rfl, fun i hi => ?_⟩⟩, by omega, fun e => ?_, by simp⟩
  · simp at hx; omega
  · simp at hi
    rcases (by omega : i = 0 ∨ i = 1) with rfl | rfl
    · exact c0
    · exact c1
  · have := ho _ e.symm; omega
/-- What an operation yields: a value, or a slice of numbers. -/
inductive VS where
  | val (v : Value)
  | sl (K : IntKind) (M : Nat) (l : List Nat)
def VS.ok (pw : Nat) (w : World) (sv : Value) (s : VS) (v : Value) : Prop :=
  match s with
  | .val u => v = u
  | .sl K M l => SlC K M pw w sv v l
theorem VS.ok.below {pw : Nat} {w w' : World} {sv v : Value} {s : VS} (h : s.ok pw w sv v) (hb : Below w.heap.size w w') : s.ok pw w' sv v := by
  cases s with
  | val u => exact h
  | sl K M l => exact SlC.below h hb
theorem VS.ok.moved {pw : Nat} {w w' : World} {sv sv' v : Value} {s : VS} (h : s.ok pw w sv v) (hm : Moved w pw sv sv' w') : s.ok pw w' sv' v := by
  cases s with
  | val u => exact h
  | sl K M l => exact SlC.moved h hm
/-- What holds whichever operations have come up: cs are the writer's calls in order, X what is laid behind so many of them. -/
structure ChI (pw base n sz : Nat) (cs : List Nat) (X : Nat → List Nat) (V : Nat → VS) (a0 : Act) (W1 : World) (L : Nat → Prop) (a : Act) (w : World) : Prop where
  sz : a.tmps.size = sz
  df : a.defers = []
  old : ∀ k, (k < base ∨ base + n ≤ k) → a.tmps.getD k undef = a0.tmps.getD k undef
  bel : Below pw W1 w
  mem : ∃ sv c, c ≤ cs.length ∧ WR pw w pw sv (X c) ∧ (∀ j, j < cs.length → (L (cs.getD j 0) ↔ j < c)) ∧ ∀ j, j < n → L j → (V j).ok pw w sv (a.tmps.getD (base + j) undef)
section
variable {pw base n sz : Nat} {cs : List Nat} {X : Nat → List Nat} {V : Nat → VS} {a0 a : Act} {W1 w w' : World} {L : Nat → Prop}
theorem chI_start (hsz : a0.tmps.size = sz) (hdf : a0.defers = []) {sv : Value} (hb : Below pw W1 w) (hk : WR pw w pw sv (X 0)) : ChI pw base n sz cs X V a0 W1 (fun _ => False) a0 w :=
  ⟨hsz, hdf, fun _ _ => rfl, hb, sv, 0, Nat.zero_le _, hk, fun j _ => by simp, fun _ _ h => h.elim⟩
theorem ChI.lt (h : ChI pw base n sz cs X V a0 W1 L a w) : pw < w.heap.size := by
  obtain ⟨_, _, _, hw, _⟩ := h.mem; exact wr_lt hw
theorem ChI.get (h : ChI pw base n sz cs X V a0 W1 L a w) (j : Nat) (hj : j < n) (hL : L j) : ∃ sv, (V j).ok pw w sv (a.tmps.getD (base + j) undef) := by
  obtain ⟨sv, c, _, _, _, hV⟩ := h.mem
  exact ⟨sv, hV j hj hL⟩
theorem ChI.at (h : ChI pw base n sz cs X V a0 W1 L a w) (j : Nat) (hj : j < n) (hL : L j) {v : Value} (e : V j = .val v) {d : Nat} (hd : d = base + j) : a.tmps.getD d undef = v := by
  obtain ⟨sv, h1⟩ := h.get j hj hL
  rw [e] at h1
  rw [hd]; exact h1
/-- Something that makes memory alone, or none. -/
theorem ChI.plain {v : Value} (hI : ChI pw base n sz cs X V a0 W1 L a w) (i : Nat) (hi : i < n) (hn : base + n ≤ sz) (hc : i ∉ cs) (hb : Below w.heap.size w w') (hv : ∀ sv : Value, (∀ k, sv.ownBlock = some k → pw ≤ k ∧ k < w.heap.size) → (V i).ok pw w' sv v) {d : Nat} (hd : d = base + i) :
    ChI pw base n sz cs X V a0 W1 (fun k => L k ∨ k = i) (a.put (some d) v) w' := by
  subst hd
  obtain ⟨sv, c, hc5, hw, hl, hV⟩ := hI.mem
  have hz := wr_lt hw
  have hsz := hI.sz
  refine ⟨(putC_size _ _ _).trans hI.sz, hI.df, fun k hk => ?_, hI.bel.trans (hb.mono (by omega)), sv, c, hc5, wr_keep hw hb, fun j hj => ?_, fun j hj hL => ?_⟩
  · rw [putC_ne _ _ _ _ (by omega)]; exact hI.old k hk
  · rw [← hl j hj]
    refine or_iff_left fun e => hc ?_
    rw [← e, List.getD_eq_getElem?_getD, List.getElem?_eq_getElem hj]
    exact List.getElem_mem hj
  · by_cases e : j = i
    · subst e
      rw [putC_same _ _ _ (by omega)]
      exact hv sv fun k hk => own_base hw.2.2.1 k hk
    · rw [putC_ne _ _ _ _ (by omega)]
      exact (hV j hj (hL.resolve_right e)).below hb
/-- A call of the writer: what it needs, and what it leaves. -/
theorem ChI.call (hI : ChI pw base n sz cs X V a0 W1 L a w) (i c : Nat) (hi : i < n) (hn : base + n ≤ sz) (hic : cs.getD c 0 = i) (hcl : c < cs.length) (hnd : ∀ j, j < cs.length → j ≠ c → cs.getD j 0 ≠ i) (hL : ¬ L i) (hpre : c ≠ 0 → L (cs.getD (c - 1) 0)) :
    ∃ sv, WR pw w pw sv (X c) ∧ (∀ j, j < n → L j → (V j).ok pw w sv (a.tmps.getD (base + j) undef)) ∧ ∀ (sv' : Value) (w' : World) (v : Value) (d : Nat), d = base + i → Moved w pw sv sv' w' → WR pw w' pw sv' (X (c + 1)) → (V i).ok pw w' sv' v →
      ChI pw base n sz cs X V a0 W1 (fun k => L k ∨ k = i) (a.put (some d) v) w' := by
  obtain ⟨sv, c', hc5, hw, hl, hV⟩ := hI.mem
  have hsz := hI.sz
  have h1 : ¬ c < c' := fun h => hL (by rw [← hic]; exact (hl c hcl).2 h)
  have h2 : c ≤ c' := by
    rcases Nat.eq_zero_or_pos c with h | h
    · omega
    · have := (hl (c - 1) (by omega)).1 (hpre (by omega))
      omega
  obtain rfl : c' = c := by omega
  refine ⟨sv, hw, hV, fun sv' w' v d hd hm hw' hv => ?_⟩
  subst hd
  have hz := wr_lt hw
  refine ⟨(putC_size _ _ _).trans hI.sz, hI.df, fun k hk => ?_, hI.bel.trans (hm.below hw (Nat.le_of_lt hz)), sv', c' + 1, by omega, hw', fun j hj => ?_, fun j hj hL => ?_⟩
  · rw [putC_ne _ _ _ _ (by omega)]; exact hI.old k hk
  · by_cases e : j = c'
    · subst e
      exact ⟨fun _ => by omega, fun _ => .inr hic⟩
    · have := hl j hj
      constructor
      · rintro (h | h)
        · have := this.1 h; omega
        · exact absurd h (hnd j hj e)
      · intro h
        exact .inl (this.2 (by omega))
  · by_cases e : j = i
    · subst e
      rw [putC_same _ _ _ (by omega)]
      exact hv
    · rw [putC_ne _ _ _ _ (by omega)]
      exact (hV j hj (hL.resolve_right e)).moved hm
/-- Behind all operations. -/
theorem ChI.done (hI : ChI pw base n sz cs X V a0 W1 L a w) (hL : ∀ j, j < n → L j) (hcs : ∀ j, j < cs.length → cs.getD j 0 < n) : ∃ sv, WR pw w pw sv (X cs.length) := by
  obtain ⟨sv, c, hc5, hw, hl, hV⟩ := hI.mem
  have : c = cs.length := by
    rcases Nat.lt_or_ge c cs.length with h | h
    · have := (hl c h).1 (hL _ (hcs c h)); omega
    · omega
  rw [this] at hw
  exact ⟨sv, hw⟩
end
/-- A frame written out. -/
theorem act_eq {a : Act} {n : Nat} (hs : a.tmps.size = n) (hd : a.defers = []) : a = ⟨(Array.range n).map fun k => a.tmps.getD k undef, []⟩ := by
  obtain ⟨t, d⟩ := a
  simp only at hs hd
  subst hd
  congr 1
  apply Array.ext
  · simp [hs]
  · intro i h1 h2
    simp [h1]
end Go.Proofs.Ytnnaijeapapehaa
