/- Chips that were just made, in memory. -/
import Derived.Test.YtbfmpcomjmcfjaaNFresh
namespace Go.Proofs.Ytbfmpcomjmcfjaa
open Go.RowKit Go.Deep

def NS.fresh (g0 g1 g2 g3 : Nat) (E : Nat → NE) : NS := ⟨g0, g1, g2, g3, fun _ => false, fun _ _ => false, fun _ _ => 0, fun _ _ => 0, fun _ _ _ => none, 0, false, E⟩
def chipCell (bb : Nat → Nat) (n k idx : Nat) : Value := if idx % 2 = 0 then .bool false else if idx / 2 < k then .slice (some ⟨bb (idx / 2), 0, none⟩) n n else .slice none 0 0
/-- Which block is what. -/
def TR (pa cb mb : Nat) (R : Nat → Prop) (bb : Nat → Nat) (g0 g1 k : Nat) (t : Tag) : Prop :=
  (k = pa ∧ t = .arr) ∨ (k = cb ∧ t = .chips) ∨ (k = mb ∧ t = .map) ∨ (R k ∧ t = .row) ∨ (∃ c, c ≤ g0 ∧ k = bb c ∧ t = .blocks c) ∨ (∃ c j, c ≤ g0 ∧ j < g1 ∧ k = bb c + 1 + j ∧ t = .pages c j)
structure Apart (pa cb mb : Nat) (R : Nat → Prop) (bb : Nat → Nat) (g0 g1 B z0 : Nat) : Prop where
  ipa : B ≤ pa ∧ pa < z0
  icb : B ≤ cb ∧ cb < z0
  imb : B ≤ mb ∧ mb < z0
  ne : pa ≠ cb ∧ pa ≠ mb ∧ cb ≠ mb
  row : ∀ k, R k → B ≤ k ∧ k < z0 ∧ k ≠ pa ∧ k ≠ cb ∧ k ≠ mb
  far : ∀ c, c ≤ g0 → z0 ≤ bb c
  ord : ∀ c c', c < c' → c' ≤ g0 → bb c + 1 + g1 ≤ bb c'
section
variable {pa cb mb : Nat} {R : Nat → Prop} {bb : Nat → Nat} {g0 g1 B z0 : Nat}
theorem Apart.sep (h : Apart pa cb mb R bb g0 g1 B z0) {c c' k : Nat} (hc : c ≤ g0) (hc' : c' ≤ g0) (h1 : bb c ≤ k) (h2 : k ≤ bb c + g1) (h3 : bb c' ≤ k) (h4 : k ≤ bb c' + g1) : c = c' := by
  rcases Nat.lt_trichotomy c c' with e | e | e
  · have := h.ord c c' e hc'; omega
  · exact e
  · have := h.ord c' c e hc; omega
theorem tr_uniq (h : Apart pa cb mb R bb g0 g1 B z0) {k : Nat} {t t' : Tag} (h1 : TR pa cb mb R bb g0 g1 k t) (h2 : TR pa cb mb R bb g0 g1 k t') : t = t' := by
  obtain ⟨n1, n2, n3⟩ := h.ne
  have hp := h.ipa
  have hc := h.icb
  have hm := h.imb
  rcases h1 with ⟨e1, rfl⟩ | ⟨e1, rfl⟩ | ⟨e1, rfl⟩ | ⟨e1, rfl⟩ | ⟨c, hc1, e1, rfl⟩ | ⟨c, j, hc1, hj1, e1, rfl⟩ <;>
    rcases h2 with ⟨e2, rfl⟩ | ⟨e2, rfl⟩ | ⟨e2, rfl⟩ | ⟨e2, rfl⟩ | ⟨c', hc2, e2, rfl⟩ | ⟨c', j', hc2, hj2, e2, rfl⟩ <;>
    first
      | rfl
      | (exfalso; have := h.row _ e1; omega)
      | (exfalso; have := h.row _ e2; omega)
      | (exfalso; have := h.far _ hc1; have := h.row _ e2; omega)
      | (exfalso; have := h.far _ hc2; have := h.row _ e1; omega)
      | (exfalso; have := h.far _ hc1; omega)
      | (exfalso; have := h.far _ hc2; omega)
      | (exfalso; omega)
      | (obtain rfl := h.sep hc1 hc2 (k := k) (by omega) (by omega) (by omega) (by omega); first | rfl | (exfalso; omega) | (exact congrArg _ (by omega)))
theorem tag_of (h : Apart pa cb mb R bb g0 g1 B z0) : ∃ tag : Nat → Option Tag, ∀ k t, tag k = some t ↔ TR pa cb mb R bb g0 g1 k t := by
  classical
  refine ⟨fun k => if hx : ∃ t, TR pa cb mb R bb g0 g1 k t then some hx.choose else none, fun k t => ?_⟩
  by_cases hx : ∃ t, TR pa cb mb R bb g0 g1 k t
  · simp only [dif_pos hx, Option.some.injEq]
    constructor
    · intro e; rw [← e]; exact hx.choose_spec
    · intro e; exact tr_uniq h hx.choose_spec e
  · simp only [dif_neg hx]
    constructor
    · intro e; cases e
    · intro e; exact absurd ⟨t, e⟩ hx
/-- What New leaves in memory is chips that hold nothing. -/
theorem na_made {w : World} {g2 g3 : Nat} {E : Nat → NE} {lv : Nat → Value} (h : Apart pa cb mb R bb g0 g1 B z0) (hz : z0 ≤ w.heap.size) (hs : Shape (NS.fresh g0 g1 g2 g3 E))
    (hA : w.heap[pa]? = some (.cells #[.int .i64 (g0 : Int), .int .i64 (g1 : Int), .int .i64 (g2 : Int), .int .i64 (g3 : Int), .slice (some ⟨cb, 0, none⟩) (g0 + 1) (g0 + 1), .map (some mb), .int .i64 0, .bool false] 158 (0, 0)))
    (hC : w.rowIs cb 162 ((g0 + 1) * 2) (chipCell bb g1 (g0 + 1)))
    (hF : ∀ c, c ≤ g0 → FreshAt w (bb c) g1 g2)
    (hM : ∀ n : Nat, n ≤ 1000000000000 → ∀ w3 : World, w3.heap[mb]? = w.heap[mb]? → (Instr.lookup 155 (.map (some mb)) (.int .i64 (n : Int)) false).run Try.prog w3 = .ok ((E n).val (lv n)) w3)
    (hL : ∀ n : Nat, ∃ a len cap, lv n = .slice a len cap ∧ Row w a len (E n).left ∧ len ≤ cap ∧ cap ≤ maxLen ∧ (a = none → cap = 0) ∧ ∀ x, a = some x → R x.block) :
    ∃ tag L, L.pa = pa ∧ NA B tag L (NS.fresh g0 g1 g2 g3 E) w := by
  obtain ⟨tag, ht⟩ := tag_of h
  have hsh := hs
  obtain ⟨s1, s2, s3, s4, s5, s6, s7, s8⟩ := hsh
  simp only [NS.fresh] at s1 s2 s3 s4 s5 s6 s7 s8
  refine ⟨tag, ⟨pa, cb, mb, g0 + 1, bb, fun _ => g1, fun c j => bb c + 1 + j, fun _ _ => g2, lv⟩, rfl, ?_⟩
  have cell_pa : ∀ o v, (#[.int .i64 (g0 : Int), .int .i64 (g1 : Int), .int .i64 (g2 : Int), .int .i64 (g3 : Int), .slice (some ⟨cb, 0, none⟩) (g0 + 1) (g0 + 1), .map (some mb), .int .i64 0, .bool false] : Array Value)[o]? = some v → w.cell? ⟨pa, o, none⟩ = some v := fun o v hv => by simp [World.cell?, hA]; simpa using hv
  refine ⟨fun k t hk => ?_, (ht _ _).2 (.inl ⟨rfl, rfl⟩), (ht _ _).2 (.inr (.inl ⟨rfl, rfl⟩)), (ht _ _).2 (.inr (.inr (.inl ⟨rfl, rfl⟩))), fun i hi => (ht _ _).2 (.inr (.inr (.inr (.inr (.inl ⟨i, hi, rfl, rfl⟩))))), fun i j hi hj => (ht _ _).2 (.inr (.inr (.inr (.inr (.inr ⟨i, j, hi, hj, rfl, rfl⟩))))), hs, fun _ _ => Nat.zero_le _, ⟨Nat.le_refl _, by unfold maxLen; simp only; omega, fun i => ⟨Nat.le_refl _, by unfold maxLen; simp only; omega, fun j => ⟨Nat.le_refl _, by unfold maxLen; simp only; omega⟩⟩⟩, fun b o v hv => ?_, fun k t o hk hh => ?_, fun i j p hi hj hp => ?_, hM, fun n => ?_⟩
  · rcases (ht k t).1 hk with ⟨rfl, _⟩ | ⟨rfl, _⟩ | ⟨rfl, _⟩ | ⟨hr, _⟩ | ⟨c, hc, rfl, _⟩ | ⟨c, j, hc, hj, rfl, _⟩
    · have := h.ipa; omega
    · have := h.icb; omega
    · have := h.imb; omega
    · have := h.row k hr; omega
    · have := h.far c hc; have := (hF c hc).2.2; have := h.ipa; omega
    · have := h.far c hc; have := (hF c hc).2.2; have := h.ipa; omega
  · cases hv with
    | g0 => exact cell_pa 0 _ rfl
    | g1 => exact cell_pa 1 _ rfl
    | g2 => exact cell_pa 2 _ rfl
    | g3 => exact cell_pa 3 _ rfl
    | chips => exact cell_pa 4 _ rfl
    | comes => exact cell_pa 5 _ rfl
    | ops => exact cell_pa 6 _ rfl
    | off => exact cell_pa 7 _ rfl
    | dead i hi =>
      rw [show ((NS.fresh g0 g1 g2 g3 E).dead i) = false from rfl, hC.cell (by have : i ≤ g0 := hi; omega)]
      unfold chipCell; rw [if_pos (by omega)]
    | blocks i hi =>
      have hi' : i ≤ g0 := hi
      rw [hC.cell (by omega)]
      unfold chipCell
      rw [if_neg (by omega), if_pos (by omega), show (i * 2 + 1) / 2 = i by omega]
      rfl
    | bad i j hi hj =>
      have hj' : j < g1 := hj
      rw [(hF i hi).1.cell (by omega)]
      unfold freshCell; rw [if_pos (by omega)]; rfl
    | next i j hi hj =>
      have hj' : j < g1 := hj
      rw [(hF i hi).1.cell (by omega)]
      unfold freshCell; rw [if_neg (by omega), if_pos (by omega)]; rfl
    | er i j hi hj =>
      have hj' : j < g1 := hj
      rw [(hF i hi).1.cell (by omega)]
      unfold freshCell; rw [if_neg (by omega), if_neg (by omega), if_pos (by omega)]; rfl
    | pages i j hi hj =>
      have hj' : j < g1 := hj
      rw [(hF i hi).1.cell (by omega)]
      unfold freshCell; rw [if_neg (by omega), if_neg (by omega), if_neg (by omega), if_pos (by omega), show (j * 4 + 3) / 4 = j by omega]; rfl
  · rcases (ht k t).1 hk with ⟨rfl, rfl⟩ | ⟨rfl, rfl⟩ | ⟨rfl, rfl⟩ | ⟨hr, rfl⟩ | ⟨c, hc, rfl, rfl⟩ | ⟨c, j, hc, hj, rfl, rfl⟩
    · exact four_free hA o
    · exact hC.frozen o
    · cases hh
    · cases hh
    · exact (hF c hc).1.frozen o
    · exact ((hF c hc).2.1 j hj).frozen o
  · exact ((hF i hi).2.1 j hj).cell hp
  · obtain ⟨a, len, cap, h1, h2, h3, h4, h5, h6⟩ := hL n
    exact ⟨a, len, cap, h1, h2, h3, h4, h5, fun x hx => (ht _ _).2 (.inr (.inr (.inr (.inl ⟨h6 x hx, rfl⟩))))⟩
end

end Go.Proofs.Ytbfmpcomjmcfjaa
