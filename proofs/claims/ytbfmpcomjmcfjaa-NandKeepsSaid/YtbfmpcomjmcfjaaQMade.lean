/- The reference's chips that were just made, in memory. -/
import Derived.Test.YtbfmpcomjmcfjaaQNew
namespace Go.Proofs.Ytbfmpcomjmcfjaa
open Go.RowKit Go.Deep

def QR (pa lb gb : Nat) (bb : Nat → Nat) (pb : Nat → Nat → Nat) (g0 g1 k : Nat) (t : QT) : Prop :=
  (k = pa ∧ t = .arr) ∨ (k = lb ∧ t = .chips) ∨ (k = gb ∧ t = .gone) ∨ (∃ c, c ≤ g0 ∧ k = bb c ∧ t = .blocks c) ∨ (∃ c j, c ≤ g0 ∧ j < g1 ∧ k = pb c j ∧ t = .pages c j)
structure QApart (pa lb gb : Nat) (bb : Nat → Nat) (pb : Nat → Nat → Nat) (lo hi : Nat → Nat) (g0 g1 : Nat) : Prop where
  ne : pa < lb ∧ pa < gb ∧ lb ≠ gb
  rg : ∀ c, c ≤ g0 → pa < lo c ∧ (lb < lo c ∨ hi c ≤ lb) ∧ (gb < lo c ∨ hi c ≤ gb) ∧ lo c ≤ bb c ∧ bb c < hi c
  pg : ∀ c j, c ≤ g0 → j < g1 → lo c ≤ pb c j ∧ pb c j < hi c ∧ pb c j ≠ bb c
  ord : ∀ c c', c < c' → c' ≤ g0 → hi c ≤ lo c'
  ord2 : ∀ c j j', c ≤ g0 → j < j' → j' < g1 → pb c j < pb c j'
section
variable {pa lb gb : Nat} {bb : Nat → Nat} {pb : Nat → Nat → Nat} {lo hi : Nat → Nat} {g0 g1 : Nat}
theorem QApart.sep (h : QApart pa lb gb bb pb lo hi g0 g1) {c c' k : Nat} (hc : c ≤ g0) (hc' : c' ≤ g0) (h1 : lo c ≤ k) (h2 : k < hi c) (h3 : lo c' ≤ k) (h4 : k < hi c') : c = c' := by
  rcases Nat.lt_trichotomy c c' with e | e | e
  · have := h.ord c c' e hc'; omega
  · exact e
  · have := h.ord c' c e hc; omega
theorem qr_uniq (h : QApart pa lb gb bb pb lo hi g0 g1) {k : Nat} {t t' : QT} (h1 : QR pa lb gb bb pb g0 g1 k t) (h2 : QR pa lb gb bb pb g0 g1 k t') : t = t' := by
  obtain ⟨n1, n2, n3⟩ := h.ne
  rcases h1 with ⟨e1, rfl⟩ | ⟨e1, rfl⟩ | ⟨e1, rfl⟩ | ⟨c, hc1, e1, rfl⟩ | ⟨c, j, hc1, hj1, e1, rfl⟩ <;>
    rcases h2 with ⟨e2, rfl⟩ | ⟨e2, rfl⟩ | ⟨e2, rfl⟩ | ⟨c', hc2, e2, rfl⟩ | ⟨c', j', hc2, hj2, e2, rfl⟩
  all_goals first
    | rfl
    | (exfalso; omega)
    | (exfalso; have := h.rg _ hc1; have := h.pg _ _ hc1 hj1; omega)
    | (exfalso; have := h.rg _ hc2; have := h.pg _ _ hc2 hj2; omega)
    | (exfalso; have := h.rg _ hc1; omega)
    | (exfalso; have := h.rg _ hc2; omega)
    | (have a1 := h.rg _ hc1; have a2 := h.rg _ hc2; obtain rfl := h.sep hc1 hc2 (k := k) (by omega) (by omega) (by omega) (by omega); rfl)
    | (have a1 := h.rg _ hc1; have a2 := h.pg _ _ hc2 hj2; obtain rfl := h.sep hc1 hc2 (k := k) (by omega) (by omega) (by omega) (by omega); exfalso; omega)
    | (have a1 := h.pg _ _ hc1 hj1; have a2 := h.rg _ hc2; obtain rfl := h.sep hc1 hc2 (k := k) (by omega) (by omega) (by omega) (by omega); exfalso; omega)
    | (have a1 := h.pg _ _ hc1 hj1; have a2 := h.pg _ _ hc2 hj2; obtain rfl := h.sep hc1 hc2 (k := k) (by omega) (by omega) (by omega) (by omega)
       rcases Nat.lt_trichotomy j j' with q | q | q
       · exfalso; have := h.ord2 _ _ _ hc1 q hj2; omega
       · exact congrArg _ q
       · exfalso; have := h.ord2 _ _ _ hc1 q hj1; omega)
theorem qtag_of (h : QApart pa lb gb bb pb lo hi g0 g1) : ∃ tag : Nat → Option QT, ∀ k t, tag k = some t ↔ QR pa lb gb bb pb g0 g1 k t := by
  classical
  refine ⟨fun k => if hx : ∃ t, QR pa lb gb bb pb g0 g1 k t then some hx.choose else none, fun k t => ?_⟩
  by_cases hx : ∃ t, QR pa lb gb bb pb g0 g1 k t
  · simp only [dif_pos hx, Option.some.injEq]
    constructor
    · intro e; rw [← e]; exact hx.choose_spec
    · intro e; exact qr_uniq h hx.choose_spec e
  · simp only [dif_neg hx]
    constructor
    · intro e; cases e
    · intro e; exact absurd ⟨t, e⟩ hx
end
theorem owns_head {w : World} {base : Nat} {e : TypeId} {size n : Nat} {v : Value} {xs : List Value} (h : w.ownsRow base e size v n xs) (hn : 0 < n) : ∃ g cap, v = .slice (some ⟨g, 0, none⟩) n cap ∧ base ≤ g ∧ g < w.heap.size ∧ n ≤ cap ∧ cap ≤ maxLen := by
  have hlt := h.lt
  rcases h.2 with ⟨_, h2⟩ | ⟨g, cap, cur, rfl, hb, _, hc1, hc2, _⟩
  · omega
  · exact ⟨g, cap, rfl, hb, (hlt g rfl).2, hc1, hc2⟩
theorem q_made {pa g0 g1 g2 g3 B : Nat} {ev Lv Gv : Value} {lo hi bb bc : Nat → Nat} {pb : Nat → Nat → Nat} {w : World} {E : Nat → NE} (h : OutI pa (g0 + 1) (g0 + 1) g0 g1 g2 g3 ev Lv Gv lo hi bb bc pb w) (hB : B ≤ pa) (hs : Shape (NS.fresh g0 g1 g2 g3 E)) :
    ∃ tag L, L.pa = pa ∧ L.ev = ev ∧ QA B tag L (NS.fresh g0 g1 g2 g3 E) w := by
  have hpl := h.palt
  obtain ⟨lb, lc, rfl, l1, l2, l3, l4⟩ := owns_head h.rl (by omega)
  obtain ⟨gb, gc, rfl, q1, q2, q3, q4⟩ := owns_head h.rg (by omega)
  have hap : QApart pa lb gb bb pb lo hi g0 g1 := by
    refine ⟨⟨by omega, by omega, fun e => ?_⟩, fun c hc => ?_, fun c j hc hj => ?_, fun c c' h1 h2 => h.ord c c' h1 (by omega), fun c j j' hc h1 h2 => (h.ch c (by omega)).2.1.ord j j' h1 h2⟩
    · rcases h.ne with r | r
      · cases r
      · exact r (by rw [e]; rfl)
    · obtain ⟨a1, a2, _⟩ := h.ch c (by omega)
      have := h.aL c (by omega) lb rfl
      have := h.aG c (by omega) gb rfl
      have := a2.lohi
      exact ⟨by omega, by omega, by omega, by omega, by omega⟩
    · obtain ⟨a1, a2, _⟩ := h.ch c (by omega)
      obtain ⟨b1, b2, _, b4⟩ := a2.pg j hj
      exact ⟨b1, b2, b4⟩
  obtain ⟨tag, ht⟩ := qtag_of hap
  have hsh := hs
  obtain ⟨s1, s2, s3, s4, s5, s6, s7, s8⟩ := hsh
  simp only [NS.fresh] at s1 s2 s3 s4 s5 s6 s7 s8
  have cell_pa : ∀ o v, (#[.int .i64 (g0 : Int), .int .i64 (g1 : Int), .int .i64 (g2 : Int), .int .i64 (g3 : Int), .slice (some ⟨lb, 0, none⟩) (g0 + 1) lc, .slice (some ⟨gb, 0, none⟩) (g0 + 1) gc, ev, .int .i64 0, .bool false] : Array Value)[o]? = some v → w.cell? ⟨pa, o, none⟩ = some v := fun o v hv => by simp [World.cell?, h.st]; simpa using hv
  have cell_bb : ∀ i j r v, i ≤ g0 → j < g1 → r < 4 → (blkCells (pb i j) g2)[r]? = some v → w.cell? ⟨bb i, j * 4 + r, none⟩ = some v := fun i j r v hi hj hr hv => by
    have := (h.ch i (by omega)).2.1.row.cellAt (j * 4 + r) (by omega)
    rw [this, blkRow_at hj hr]; exact hv
  refine ⟨tag, ⟨pa, lb, gb, lc, gc, bb, fun i => if i ≤ g0 then bc i else g1, pb, ev⟩, rfl, rfl, fun k t hk => ?_, (ht _ _).2 (.inl ⟨rfl, rfl⟩), (ht _ _).2 (.inr (.inl ⟨rfl, rfl⟩)), (ht _ _).2 (.inr (.inr (.inl ⟨rfl, rfl⟩))), fun i hi => (ht _ _).2 (.inr (.inr (.inr (.inl ⟨i, hi, rfl, rfl⟩)))), fun i j hi hj => (ht _ _).2 (.inr (.inr (.inr (.inr ⟨i, j, hi, hj, rfl, rfl⟩)))), hs, fun _ _ => Nat.zero_le _, ⟨l3, l4, q3, q4, fun i => ?_⟩, fun b o v hv => ?_, fun k t o hk _ => ?_, fun i j p hi hj hp => ?_⟩
  · rcases (ht k t).1 hk with ⟨rfl, _⟩ | ⟨rfl, _⟩ | ⟨rfl, _⟩ | ⟨c, hc, rfl, _⟩ | ⟨c, j, hc, hj, rfl, _⟩
    · omega
    · omega
    · omega
    · obtain ⟨a1, a2, _⟩ := h.ch c (by omega)
      have := a2.lohi; omega
    · obtain ⟨a1, a2, _⟩ := h.ch c (by omega)
      have := a2.lohi; have := a2.pg j hj; omega
  · show g1 ≤ (if i ≤ g0 then bc i else g1) ∧ (if i ≤ g0 then bc i else g1) ≤ maxLen
    by_cases e : i ≤ g0
    · rw [if_pos e]; exact (h.ch i (by omega)).2.2
    · rw [if_neg e]; exact ⟨Nat.le_refl _, by unfold maxLen; omega⟩
  · cases hv with
    | g0 => exact cell_pa 0 _ rfl
    | g1 => exact cell_pa 1 _ rfl
    | g2 => exact cell_pa 2 _ rfl
    | g3 => exact cell_pa 3 _ rfl
    | chips => exact cell_pa 4 _ rfl
    | gone => exact cell_pa 5 _ rfl
    | ev => exact cell_pa 6 _ rfl
    | ops => exact cell_pa 7 _ rfl
    | off => exact cell_pa 8 _ rfl
    | row _ hi =>
      have hi' : o ≤ g0 := hi
      rw [h.rl.cellAt o (by omega)]
      unfold chipsRow
      rw [List.getElem?_map, List.getElem?_range (by omega)]
      simp only [Option.map_some, if_pos hi']
      rfl
    | dead _ hi =>
      have hi' : o ≤ g0 := hi
      rw [h.rg.cellAt o (by omega), List.getElem?_replicate, if_pos (by omega)]
      rfl
    | pages i j hi hj => exact cell_bb i j 0 _ hi hj (by omega) rfl
    | next i j hi hj => exact cell_bb i j 1 _ hi hj (by omega) rfl
    | er i j hi hj => exact cell_bb i j 2 _ hi hj (by omega) rfl
    | bad i j hi hj => exact cell_bb i j 3 _ hi hj (by omega) rfl
  · rcases (ht k t).1 hk with ⟨rfl, rfl⟩ | ⟨rfl, rfl⟩ | ⟨rfl, rfl⟩ | ⟨c, hc, rfl, rfl⟩ | ⟨c, j, hc, hj, rfl, rfl⟩
    · exact four_free h.st o
    · exact h.rl.frozenAt o
    · exact h.rg.frozenAt o
    · exact (h.ch c (by omega)).2.1.row.frozenAt o
    · exact ((h.ch c (by omega)).2.1.pg j hj).2.2.1.frozen o
  · exact ((h.ch i (by have : i ≤ g0 := hi; omega)).2.1.pg j hj).2.2.1.cell hp

end Go.Proofs.Ytbfmpcomjmcfjaa
