/- What is staged in the blocks: by members that hold pages in memory. -/
import Derived.Test.YtpmlbfpneenacaaStgTwice
namespace Go.Proofs.Ytpmlbfpneenacaa
open Go.RowKit Go.Deep

/-- In block 4 + wh the first cnt pages stand on both their members, but on D; all others aren't there. -/
def StF (s : RS) (wh cnt : Nat) (num : Nat → Nat) (c D : Nat) : Prop :=
  ∀ j d, j < roomN s.n s.pg → d ≤ 1 → (j < cnt → firN s.n j + d ≠ D → ∃ q, s.F (firN s.n j + d, 4 + wh, rowN s.n j) = some q ∧ q.l = pgB (num j) c) ∧ (cnt ≤ j → s.F (firN s.n j + d, 4 + wh, rowN s.n j) = none)
theorem stF_new (rb pb gb n bl pg sz wh : Nat) (num : Nat → Nat) (c D : Nat) : StF (rsNew rb pb gb n bl pg sz) wh 0 num c D :=
  fun _ _ _ _ => ⟨fun h => absurd h (Nat.not_lt_zero _), fun _ => rfl⟩
/-- No two stand in one place. -/
theorem place_apart {n i j d d' : Nat} (_hn : 2 ≤ n) (h : rowN n i = rowN n j) (h2 : firN n i + d = firN n j + d') (hd : d ≤ 1) (hd' : d' ≤ 1) : i = j := by
  unfold rowN at h
  unfold firN at h2
  have h1 := Nat.div_add_mod i (n / 2)
  have h3 := Nat.div_add_mod j (n / 2)
  have h4 : i % (n / 2) = j % (n / 2) := by omega
  rw [← h1, ← h3, h, h4]
/-- What a Put leaves of the block that it was for. -/
theorem stF_put {s s' : RS} {wh k : Nat} {num : Nat → Nat} {c D : Nat} (hn : 2 ≤ s.n) (e : s'.n = s.n ∧ s'.pg = s.pg) (h : StF s wh k num c D) (hW : Wrote s s' (4 + wh) (rowN s.n k) [firN s.n k, firN s.n k + 1] (fun _ => pgB (num k) c)) (hg : ∀ m, m ≠ D → s.gone m = 0) : StF s' wh (k + 1) num c D := by
  intro j d hj hd
  rw [e.1, e.2] at hj
  rw [e.1]
  obtain ⟨h1, h2⟩ := h j d hj hd
  by_cases ej : j = k
  · subst ej
    refine ⟨fun _ hD => ?_, fun q => absurd q (by omega)⟩
    refine hW.1 (firN s.n j + d) ?_ (hg _ hD)
    obtain rfl | rfl : d = 0 ∨ d = 1 := by omega
    · simp
    · simp
  · have ek : s'.F (firN s.n j + d, 4 + wh, rowN s.n j) = s.F (firN s.n j + d, 4 + wh, rowN s.n j) := by
      refine hW.2 _ fun m hm _ c => ?_
      simp only [Prod.mk.injEq] at c
      simp only [List.mem_cons, List.not_mem_nil, or_false] at hm
      rcases hm with rfl | rfl
      · exact ej (place_apart (d := d) (d' := 0) hn c.2.2 (by omega) hd (by omega))
      · exact ej (place_apart (d := d) (d' := 1) hn c.2.2 (by omega) hd (by omega))
    rw [ek]
    exact ⟨fun q hD => h1 (by omega) hD, fun q => h2 (by omega)⟩
/-- What it leaves of the other one. -/
theorem stF_other {s s' : RS} {wh wh' k cnt : Nat} {ms : List Nat} {num : Nat → Nat} {c D : Nat} {Bf : Nat → List Nat} (hne : wh ≠ wh') (e : s'.n = s.n ∧ s'.pg = s.pg) (h : StF s wh' cnt num c D) (hW : Wrote s s' (4 + wh) (rowN s.n k) ms Bf) : StF s' wh' cnt num c D := by
  intro j d hj hd
  rw [e.1, e.2] at hj
  rw [e.1]
  have ek : s'.F (firN s.n j + d, 4 + wh', rowN s.n j) = s.F (firN s.n j + d, 4 + wh', rowN s.n j) := by
    refine hW.2 _ fun m hm _ c => ?_
    simp only [Prod.mk.injEq] at c
    omega
  rw [ek]
  exact h j d hj hd
/-- Other members dead than before: what stands there is the same. -/
theorem stF_same {s s' : RS} {wh cnt : Nat} {num : Nat → Nat} {c D : Nat} (e : s'.n = s.n ∧ s'.pg = s.pg ∧ s'.F = s.F) (h : StF s wh cnt num c D) : StF s' wh cnt num c D := by
  intro j d hj hd
  rw [e.1, e.2.1] at hj
  rw [e.1, e.2.2]
  exact h j d hj hd
/-- What is got then. -/
theorem stF_get {s : RS} {wh cnt : Nat} {num : Nat → Nat} {c D : Nat} (h : StF s wh cnt num c D) (hsz : s.sz = 256) (hc : c < 256) (hnum : ∀ j, j < cnt → num j ≤ 1000) (hD : ∀ m, m < s.n → (s.gone m = 0 ↔ m ≠ D)) (hg : GoodG s.n s.bl s.pg s.sz) (j : Nat) (hj : j < roomN s.n s.pg) :
    getPg s (4 + wh) (rowN s.n j) (firN s.n j) = if j < cnt then some (pgL (num j) c, pgHdr (num j) c) else none := by
  obtain ⟨_, hf⟩ := spot_in hg hj
  have h0 := h j 0 hj (by omega)
  have h1 := h j 1 hj (by omega)
  rw [Nat.add_zero] at h0
  by_cases hjc : j < cnt
  · rw [if_pos hjc]
    have w0 : firN s.n j ≠ D → memPg s (4 + wh) (rowN s.n j) (firN s.n j) = some (pgL (num j) c, pgHdr (num j) c) := fun hd => by
      obtain ⟨q, hq, hl⟩ := h0.1 hjc hd
      exact memPg_written hq hl hsz ((hD _ (by omega)).2 hd) (hnum j hjc) hc
    have w1 : firN s.n j + 1 ≠ D → memPg s (4 + wh) (rowN s.n j) (firN s.n j + 1) = some (pgL (num j) c, pgHdr (num j) c) := fun hd => by
      obtain ⟨q, hq, hl⟩ := h1.1 hjc hd
      exact memPg_written hq hl hsz ((hD _ hf).2 hd) (hnum j hjc) hc
    unfold getPg
    by_cases hd : firN s.n j = D
    · have g0 : memPg s (4 + wh) (rowN s.n j) (firN s.n j) = none := by
        unfold memPg
        rw [if_neg (fun q => (hD _ (by omega)).1 q.1 hd)]
      rw [g0]
      exact w1 (by omega)
    · rw [w0 hd]
  · rw [if_neg hjc]
    unfold getPg
    rw [memPg_none (h0.2 (by omega)) hsz]
    exact memPg_none (h1.2 (by omega)) hsz
theorem deads_le {s : RS} {D f : Nat} (hg : ∀ m, m ≠ D → s.gone m = 0) : deads s [f, f + 1] ≠ 2 := by
  unfold deads
  by_cases h : f = D
  · have h1 : s.gone (f + 1) = 0 := hg _ (by omega)
    by_cases h0 : s.gone f = 0 <;> simp [h0, h1]
  · have h0 : s.gone f = 0 := hg _ h
    by_cases h1 : s.gone (f + 1) = 0 <;> simp [h0, h1]
theorem stgHead (ch : Int) : ∃ N P R : Nat, N = stgN ch ∧ P = N / 2 ∧ R = 5 * P ∧ 3 ≤ N ∧ N ≤ 8 ∧ 1 ≤ P ∧ P ≤ 4 ∧ roomN N 5 = R ∧ (N : Int) / 2 = (P : Int) ∧ (N : Int).tdiv 2 = (P : Int) ∧ wrap64 (P : Int) = (P : Int) ∧ wrap64 (5 * (P : Int)) = (R : Int) ∧ GoodG (N : Int) (20 : Nat) (5 : Nat) (256 : Nat) := by
  obtain ⟨h3, h8, _⟩ := stgN_in ch
  refine ⟨stgN ch, stgN ch / 2, 5 * (stgN ch / 2), rfl, rfl, rfl, h3, h8, by omega, by omega, rfl, by omega, ?_, IntWalk.wrap64_in _ (by omega), ?_, stgGood ch⟩
  · rw [Int.tdiv_eq_ediv_of_nonneg (by omega)]; omega
  · rw [IntWalk.wrap64_in _ (by omega)]; omega
/-- A quotient and a remainder that fit. -/
theorem quo_fits (n : Int) (P : Nat) (h0 : 0 ≤ n) (h1 : n ≤ 1000) (hP : 1 ≤ P) (hP2 : P ≤ 1000) : wrap64 (n.tdiv (P : Int)) = n.tdiv (P : Int) ∧ wrap64 (n.tmod (P : Int)) = n.tmod (P : Int) ∧ wrap64 (2 * n.tmod (P : Int)) = 2 * n.tmod (P : Int) := by
  have h3 : 0 ≤ n.tdiv (P : Int) := Int.tdiv_nonneg h0 (Int.natCast_nonneg P)
  have h4 : n.tdiv (P : Int) ≤ n := Int.tdiv_le_self _ h0
  have h5 : 0 ≤ n.tmod (P : Int) := Int.tmod_nonneg _ h0
  have h6 : n.tmod (P : Int) < (P : Int) := Int.tmod_lt_of_pos _ (by omega)
  generalize n.tdiv (P : Int) = q at *
  generalize n.tmod (P : Int) = r at *
  clear hP
  exact ⟨IntWalk.wrap64_in _ (by omega), IntWalk.wrap64_in _ (by omega), IntWalk.wrap64_in _ (by omega)⟩
end Go.Proofs.Ytpmlbfpneenacaa
