/- One of the staged pages is spoilt, on one member or on both. -/
import Derived.Test.YtallambldbhibaaStgI
namespace Go.Proofs.Ytallambldbhibaa
open Go.RowKit Go.Deep

/-- The first n pages stand in block 4; of the k-th the first ns copies are spoilt. -/
structure SpI (B rb N n k ns : Nat) (s : RS) (w : World) : Prop where
  ram : Ram B s w
  lo : B ≤ w.heap.size
  at_ : s.rb = rb ∧ s.n = N ∧ s.bl = 20 ∧ s.pg = 5 ∧ s.sz = 256 ∧ s.first = -1
  gone : ∀ m, m ≠ N → s.gone m = 0
  f : ∀ j d, j < roomN N 5 → d ≤ 1 → (j < n → (j ≠ k ∨ ns ≤ d) → ∃ q, s.F (firN N j + d, 4, rowN N j) = some q ∧ q.l = pgB j 9) ∧ (n ≤ j → s.F (firN N j + d, 4, rowN N j) = none) ∧ (j = k → d < ns → ∃ q, s.F (firN N j + d, 4, rowN N j) = some q ∧ ¬ OpenOk (q.l.take 256) (q.l.drop 256))
theorem SpI.step {B rb N n k ns : Nat} {s : RS} {w w' : World} (h : SpI B rb N n k ns s w) (hb : Below w.heap.size w w') : SpI B rb N n k ns s w' :=
  ⟨h.ram.step hb, Nat.le_trans h.lo hb.size, h.at_, h.gone, h.f⟩
theorem spI_of {B rb N n k : Nat} {cnt : Nat → Nat} {num : Nat → Nat → Nat} {s : RS} {w : World} (h : StgI B rb N 9 N cnt num s w) (hc : cnt 0 = n) (hn : ∀ j, num 0 j = j) : SpI B rb N n k 0 s w := by
  obtain ⟨a1, a2, a3, a4, a5, a6⟩ := h.at_
  refine ⟨h.ram, h.lo, h.at_, h.gone, fun j d hj hd => ?_⟩
  have h0 := h.f 0 (by omega) j d (by rw [a2, a4]; exact hj) hd
  rw [hc, a2] at h0
  have hgood := h.ram.geo
  rw [a2, a3, a4, a5] at hgood
  have hf := (spot_in hgood hj).2
  refine ⟨fun hjn _ => ?_, fun q => h0.2 q, fun _ q => absurd q (Nat.not_lt_zero _)⟩
  obtain ⟨q, q1, q2⟩ := h0.1 hjn (by omega)
  exact ⟨q, q1, by rw [q2, hn]⟩
theorem spI_put {B rb N n k ns : Nat} {s : RS} {w : World} (h : SpI B rb N n k ns s w) (hkn : k < n) (hkr : k < roomN N 5) (hns : ns ≤ 1) (w2 : World) (p : PS) (hm : MapF ok3 kv3 s.pb (fun j => if j = (firN N k + ns, 4, rowN N k) then some p.v else s.pageV j) w2) (grow : w.grownBy w2 (some s.pb)) (hs : w.heap.size = w2.heap.size) (hp : PartOk w p) (hn : p.n = 320) (hf : Far B p) (ho : ∀ x, p.a = some x → ¬ s.ob x.block) (hbad : ¬ OpenOk (p.l.take 256) (p.l.drop 256)) :
    SpI B rb N n k (ns + 1) (s.put (firN N k + ns, 4, rowN N k) p) w2 ∧ RStep s w (s.put (firN N k + ns, 4, rowN N k) p) w2 := by
  obtain ⟨a1, a2, a3, a4, a5, a6⟩ := h.at_
  obtain ⟨k1, k2⟩ := ram_put h.ram w2 (firN N k + ns, 4, rowN N k) p hm grow hp (by rw [a5]; exact hn) hf ho
  have hgood := h.ram.geo
  rw [a2, a3, a4, a5] at hgood
  have h2n : 2 ≤ N := by have := hgood.1; omega
  refine ⟨⟨k1, by rw [← hs]; exact h.lo, h.at_, h.gone, fun j d hj hd => ?_⟩, k2⟩
  obtain ⟨f1, f2, f3⟩ := h.f j d hj hd
  simp only [RS.put]
  by_cases ej : j = k
  · subst ej
    by_cases ed : d = ns
    · subst ed
      rw [if_pos rfl]
      exact ⟨fun _ q => absurd q (by omega), fun q => absurd q (by omega), fun _ _ => ⟨p, rfl, hbad⟩⟩
    · rw [if_neg (fun q => ed (by simp only [Prod.mk.injEq] at q; omega))]
      exact ⟨fun q1 q2 => f1 q1 (.inr (by omega)), f2, fun _ q => f3 rfl (by omega)⟩
  · rw [if_neg (fun q => ej (by simp only [Prod.mk.injEq] at q; exact place_apart (d := d) (d' := ns) h2n q.2.2 q.1 hd hns))]
    exact ⟨fun q1 _ => f1 q1 (.inl ej), f2, fun q => absurd q ej⟩
theorem spI_get {B rb N n k ns : Nat} {s : RS} {w : World} (h : SpI B rb N n k ns s w) (hns : ns ≤ 2) (hnr : n ≤ 1000) (j : Nat) (hj : j < roomN N 5) :
    getPg s (4 + 0) (rowN s.n j) (firN s.n j) = if j < n then (if j = k ∧ ns = 2 then none else some (pgL j 9, pgHdr j 9)) else none := by
  obtain ⟨a1, a2, a3, a4, a5, a6⟩ := h.at_
  rw [a2]
  have h0 := h.f j 0 hj (by omega)
  have h1 := h.f j 1 hj (by omega)
  rw [Nat.add_zero] at h0
  have hgood := h.ram.geo
  rw [a2, a3, a4, a5] at hgood
  have hfi := (spot_in hgood hj).2
  have good : ∀ m q, m ≠ N → j < n → s.F (m, 4, rowN N j) = some q → q.l = pgB j 9 → memPg s (4 + 0) (rowN N j) m = some (pgL j 9, pgHdr j 9) := fun m q hmN hjn hq hl => memPg_written hq hl a5 (h.gone m hmN) (by omega) (by omega)
  have bad : ∀ m q, s.F (m, 4, rowN N j) = some q → ¬ OpenOk (q.l.take 256) (q.l.drop 256) → memPg s (4 + 0) (rowN N j) m = none := fun m q hq hl => by
    unfold memPg
    rw [if_neg]
    rintro ⟨_, h2⟩
    have e : s.page (m, 4 + 0, rowN N j) = q.l := row_page_some hq
    rw [e, a5] at h2
    exact hl h2
  unfold getPg
  by_cases hjn : j < n
  · rw [if_pos hjn]
    by_cases hjk : j = k
    · by_cases n0 : ns = 0
      · obtain ⟨q, hq, hl⟩ := h0.1 hjn (.inr (by omega))
        rw [good _ q (by omega) hjn hq hl, if_neg (by omega)]
      · obtain ⟨q, hq, hl⟩ := h0.2.2 hjk (by omega)
        rw [bad _ q hq hl]
        by_cases n2 : ns = 2
        · obtain ⟨q, hq, hl⟩ := h1.2.2 hjk (by omega)
          rw [if_pos ⟨hjk, n2⟩]
          exact bad _ q hq hl
        · obtain ⟨q, hq, hl⟩ := h1.1 hjn (.inr (by omega))
          rw [if_neg (by omega)]
          exact good _ q (by omega) hjn hq hl
    · obtain ⟨q, hq, hl⟩ := h0.1 hjn (.inl hjk)
      rw [good _ q (by omega) hjn hq hl, if_neg (by omega)]
  · rw [if_neg hjn]
    rw [memPg_none (b := 4 + 0) (h0.2.1 (by omega)) a5]
    exact memPg_none (b := 4 + 0) (h1.2.1 (by omega)) a5
theorem spI_all {B rb N n k ns : Nat} {s : RS} {w : World} (h : SpI B rb N n k ns s w) (hns : ns ≤ 2) (hnr : n ≤ 1000) (hm : n ≤ roomN N 5) (hk : k < n) (m : Nat) (hmm : m = if ns = 2 then k else n) :
    Calls Try.prog 44 #[.iface 56 (.pointer (some ⟨rb, 0, none⟩)), .int .i64 0] w fun e w' => ∃ sv, e = .returned (.tuple #[sv, .int .i64 0]) ∧ AllPg (fun j => j) 9 m sv w' ∧ Below w.heap.size w w' := by
  obtain ⟨a1, a2, a3, a4, a5, a6⟩ := h.at_
  have hq : ∀ j, j < roomN s.n s.pg → (fun j => if j < n then (if j = k ∧ ns = 2 then none else some (pgL j 9, pgHdr j 9)) else none) j = getPg s (4 + 0) (rowN s.n j) (firN s.n j) := fun j hj =>
    (spI_get h hns hnr j (by rw [a2, a4] at hj; exact hj)).symm
  have hin : ∀ j, j < m → (if j < n then (if j = k ∧ ns = 2 then none else some (pgL j 9, pgHdr j 9)) else none) = some (pgL j 9, pgHdr j 9) := fun j hj => by
    rw [hmm] at hj
    split at hj
    · rw [if_pos (by omega), if_neg (by omega)]
    · rw [if_pos hj, if_neg (by omega)]
  have hend : (if m < n then (if m = k ∧ ns = 2 then none else some (pgL m 9, pgHdr m 9)) else none) = none := by
    rw [hmm]
    by_cases h2 : ns = 2
    · rw [if_pos h2, if_pos hk, if_pos ⟨rfl, h2⟩]
    · rw [if_neg h2, if_neg (Nat.lt_irrefl _)]
  have hmr : m ≤ roomN s.n s.pg := by rw [a2, a4, hmm]; split <;> omega
  have hp := stgAll_ok h.ram 0 m (by omega) (by omega) _ hq hmr (fun j hj => by simp only [hin j hj]; simp) (fun _ => hend)
  rw [a1, show ((0 : Nat) : Int) = 0 from rfl] at hp
  refine hp.mono fun e w' hr => ?_
  obtain ⟨sv, L, he, hg, hb⟩ := hr
  refine ⟨sv, he, ?_, hb⟩
  obtain ⟨a, cap, hsv, hcs⟩ := cellsSP_own hg.1
  rw [hg.2.1] at hsv
  have hat : ∀ i, i < m → (L.getD i SP.nil).h = pgHdr i 9 ∧ (L.getD i SP.nil).d.l = pgL i 9 ∧ PartOk w' (L.getD i SP.nil).d := fun i hi => by
    obtain ⟨l, H, q1, q2, q3, q4, _⟩ := hg.2.2 i hi
    simp only [hin i hi] at q1
    cases q1
    exact ⟨q2, q3, q4⟩
  refine ⟨a, cap, fun i => (L.getD i SP.nil).d, hsv, fun h0 => ?_, fun i hi => ⟨(hat i hi).2.2, (hat i hi).2.1⟩⟩
  obtain ⟨b, off, e1, e2⟩ := hcs (by rw [hg.2.1]; exact h0)
  refine ⟨b, off, e1, fun i hi => ?_⟩
  have := e2 i (by rw [hg.2.1]; exact hi)
  rw [← (hat i hi).1]
  exact this
end Go.Proofs.Ytallambldbhibaa
