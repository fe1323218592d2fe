/- What the stores of nand leave of chips in memory. -/
import Derived.Test.YtbfmpcomjmcfjaaNAt
namespace Go.Proofs.Ytbfmpcomjmcfjaa
open Go.RowKit

theorem tag_ne {tag : Nat → Option Tag} {b b' : Nat} {t t' : Tag} (h : tag b = some t) (h' : tag b' = some t') (hn : t ≠ t') : b ≠ b' := fun e => by
  subst e; rw [h] at h'; cases h'; exact hn rfl
def NS.setOps (S : NS) (n : Nat) : NS := { S with ops := n }
def NS.setOff (S : NS) (b : Bool) : NS := { S with off := b }
def NS.kill (S : NS) (c : Nat) : NS := { S with dead := fun i => if i = c then true else S.dead i }
def NS.setBad (S : NS) (i j : Nat) (b : Bool) : NS := { S with bad := fun i' j' => if i' = i ∧ j' = j then b else S.bad i' j' }
def NS.setNext (S : NS) (i j n : Nat) : NS := { S with next := fun i' j' => if i' = i ∧ j' = j then n else S.next i' j' }
def NS.setEr (S : NS) (i j n : Nat) : NS := { S with er := fun i' j' => if i' = i ∧ j' = j then n else S.er i' j' }
def NS.setPage (S : NS) (i j p : Nat) (b : Option (List Nat)) : NS := { S with page := fun i' j' p' => if i' = i ∧ j' = j ∧ p' = p then b else S.page i' j' p' }

section
variable {B : Nat} {tag : Nat → Option Tag} {L : NL} {S : NS} {w : World}
theorem NA.tagAt (h : NA B tag L S w) {b o : Nat} {v : Value} (k : Want L S b o v) : ∃ t, tag b = some t ∧ t.hard := by
  cases k with
  | dead i hi => exact ⟨_, h.tcb, trivial⟩
  | blocks i hi => exact ⟨_, h.tcb, trivial⟩
  | bad i j hi hj => exact ⟨_, h.tbb i hi, trivial⟩
  | next i j hi hj => exact ⟨_, h.tbb i hi, trivial⟩
  | er i j hi hj => exact ⟨_, h.tbb i hi, trivial⟩
  | pages i j hi hj => exact ⟨_, h.tbb i hi, trivial⟩
  | _ => exact ⟨_, h.tpa, trivial⟩
theorem NA.f (h : NA B tag L S w) {b o : Nat} {v : Value} (k : Want L S b o v) : w.frozen? ⟨b, o, none⟩ = false := by
  obtain ⟨t, ht, hh⟩ := h.tagAt k
  exact h.free b t o ht hh
theorem NA.pb_ne (h : NA B tag L S w) {i j : Nat} (hi : i ≤ S.g0) (hj : j < S.g1) {b : Nat} {t : Tag} (hb : tag b = some t) (hn : t ≠ .pages i j) : L.pb i j ≠ b := tag_ne (h.tpb i j hi hj) hb (fun e => hn e.symm)
theorem kept_set {b o : Nat} {t : Tag} (hb : tag b = some t) (v : Value) : Kept (ownT tag) w (w.setCell ⟨b, o, none⟩ v) :=
  (Kept.refl _ w).set _ v (.inl (by unfold ownT; rw [hb]; simp))
theorem NA.setOps (h : NA B tag L S w) (n : Nat) : NA B tag L (S.setOps n) (w.setCell ⟨L.pa, 6, none⟩ (.int .i64 (n : Int))) := by
  refine h.set L.pa 6 _ .arr h.tpa trivial ⟨rfl, rfl, rfl, rfl⟩ rfl h.nxt ⟨_, h.c .ops⟩ (fun b o v hv => ?_) (fun i j p hi hj hp => .inl ⟨rfl, fun e => h.pb_ne hi hj h.tpa (by simp) e.1⟩)
  cases hv with
  | ops => exact .inl ⟨rfl, rfl, rfl⟩
  | dead i hi => exact .inr ⟨.dead i hi, fun e => tag_ne h.tcb h.tpa (by simp) e.1⟩
  | blocks i hi => exact .inr ⟨.blocks i hi, fun e => tag_ne h.tcb h.tpa (by simp) e.1⟩
  | bad i j hi hj => exact .inr ⟨.bad i j hi hj, fun e => tag_ne (h.tbb i hi) h.tpa (by simp) e.1⟩
  | next i j hi hj => exact .inr ⟨.next i j hi hj, fun e => tag_ne (h.tbb i hi) h.tpa (by simp) e.1⟩
  | er i j hi hj => exact .inr ⟨.er i j hi hj, fun e => tag_ne (h.tbb i hi) h.tpa (by simp) e.1⟩
  | pages i j hi hj => exact .inr ⟨.pages i j hi hj, fun e => tag_ne (h.tbb i hi) h.tpa (by simp) e.1⟩
  | g0 => exact .inr ⟨.g0, fun e => by omega⟩
  | g1 => exact .inr ⟨.g1, fun e => by omega⟩
  | g2 => exact .inr ⟨.g2, fun e => by omega⟩
  | g3 => exact .inr ⟨.g3, fun e => by omega⟩
  | chips => exact .inr ⟨.chips, fun e => by omega⟩
  | comes => exact .inr ⟨.comes, fun e => by omega⟩
  | off => exact .inr ⟨.off, fun e => by omega⟩
theorem NA.setOff (h : NA B tag L S w) (x : Bool) : NA B tag L (S.setOff x) (w.setCell ⟨L.pa, 7, none⟩ (.bool x)) := by
  refine h.set L.pa 7 _ .arr h.tpa trivial ⟨rfl, rfl, rfl, rfl⟩ rfl h.nxt ⟨_, h.c .off⟩ (fun b o v hv => ?_) (fun i j p hi hj hp => .inl ⟨rfl, fun e => h.pb_ne hi hj h.tpa (by simp) e.1⟩)
  cases hv with
  | off => exact .inl ⟨rfl, rfl, rfl⟩
  | dead i hi => exact .inr ⟨.dead i hi, fun e => tag_ne h.tcb h.tpa (by simp) e.1⟩
  | blocks i hi => exact .inr ⟨.blocks i hi, fun e => tag_ne h.tcb h.tpa (by simp) e.1⟩
  | bad i j hi hj => exact .inr ⟨.bad i j hi hj, fun e => tag_ne (h.tbb i hi) h.tpa (by simp) e.1⟩
  | next i j hi hj => exact .inr ⟨.next i j hi hj, fun e => tag_ne (h.tbb i hi) h.tpa (by simp) e.1⟩
  | er i j hi hj => exact .inr ⟨.er i j hi hj, fun e => tag_ne (h.tbb i hi) h.tpa (by simp) e.1⟩
  | pages i j hi hj => exact .inr ⟨.pages i j hi hj, fun e => tag_ne (h.tbb i hi) h.tpa (by simp) e.1⟩
  | g0 => exact .inr ⟨.g0, fun e => by omega⟩
  | g1 => exact .inr ⟨.g1, fun e => by omega⟩
  | g2 => exact .inr ⟨.g2, fun e => by omega⟩
  | g3 => exact .inr ⟨.g3, fun e => by omega⟩
  | chips => exact .inr ⟨.chips, fun e => by omega⟩
  | comes => exact .inr ⟨.comes, fun e => by omega⟩
  | ops => exact .inr ⟨.ops, fun e => by omega⟩
theorem NA.kill (h : NA B tag L S w) (c : Nat) (hc : c ≤ S.g0) : NA B tag L (S.kill c) (w.setCell ⟨L.cb, c * 2, none⟩ (.bool true)) := by
  refine h.set L.cb (c * 2) _ .chips h.tcb trivial ⟨rfl, rfl, rfl, rfl⟩ rfl h.nxt ⟨_, h.c (.dead c hc)⟩ (fun b o v hv => ?_) (fun i j p hi hj hp => .inl ⟨rfl, fun e => h.pb_ne hi hj h.tcb (by simp) e.1⟩)
  cases hv with
  | dead i hi =>
    by_cases e : i = c
    · subst e; exact .inl ⟨rfl, rfl, by simp [NS.kill]⟩
    · refine .inr ⟨?_, fun k => by omega⟩
      have : (S.kill c).dead i = S.dead i := by simp [NS.kill, e]
      rw [this]; exact .dead i hi
  | blocks i hi => exact .inr ⟨.blocks i hi, fun e => by omega⟩
  | bad i j hi hj => exact .inr ⟨.bad i j hi hj, fun e => tag_ne (h.tbb i hi) h.tcb (by simp) e.1⟩
  | next i j hi hj => exact .inr ⟨.next i j hi hj, fun e => tag_ne (h.tbb i hi) h.tcb (by simp) e.1⟩
  | er i j hi hj => exact .inr ⟨.er i j hi hj, fun e => tag_ne (h.tbb i hi) h.tcb (by simp) e.1⟩
  | pages i j hi hj => exact .inr ⟨.pages i j hi hj, fun e => tag_ne (h.tbb i hi) h.tcb (by simp) e.1⟩
  | g0 => exact .inr ⟨.g0, fun e => tag_ne h.tpa h.tcb (by simp) e.1⟩
  | g1 => exact .inr ⟨.g1, fun e => tag_ne h.tpa h.tcb (by simp) e.1⟩
  | g2 => exact .inr ⟨.g2, fun e => tag_ne h.tpa h.tcb (by simp) e.1⟩
  | g3 => exact .inr ⟨.g3, fun e => tag_ne h.tpa h.tcb (by simp) e.1⟩
  | chips => exact .inr ⟨.chips, fun e => tag_ne h.tpa h.tcb (by simp) e.1⟩
  | comes => exact .inr ⟨.comes, fun e => tag_ne h.tpa h.tcb (by simp) e.1⟩
  | ops => exact .inr ⟨.ops, fun e => tag_ne h.tpa h.tcb (by simp) e.1⟩
  | off => exact .inr ⟨.off, fun e => tag_ne h.tpa h.tcb (by simp) e.1⟩
/-- A cell of a block's record is written. -/
theorem NA.setRec (h : NA B tag L S w) {S' : NS} (i j k : Nat) (hi : i ≤ S.g0) (hj : j < S.g1) (hk : k < 3) (v0 : Value)
    (hg : S'.g0 = S.g0 ∧ S'.g1 = S.g1 ∧ S'.g2 = S.g2 ∧ S'.g3 = S.g3) (he : S'.ev = S.ev) (hn : ∀ i j, S'.next i j ≤ S'.g2) (hr : S'.dead = S.dead ∧ S'.page = S.page ∧ S'.ops = S.ops ∧ S'.off = S.off)
    (hb : ∀ i' j', i' ≤ S.g0 → j' < S.g1 → (i' = i ∧ j' = j ∧ k = 0 ∧ Value.bool (S'.bad i' j') = v0) ∨ (S'.bad i' j' = S.bad i' j' ∧ ¬ (i' = i ∧ j' = j ∧ k = 0)))
    (hx : ∀ i' j', i' ≤ S.g0 → j' < S.g1 → (i' = i ∧ j' = j ∧ k = 1 ∧ Value.int .i64 (S'.next i' j' : Int) = v0) ∨ (S'.next i' j' = S.next i' j' ∧ ¬ (i' = i ∧ j' = j ∧ k = 1)))
    (hz : ∀ i' j', i' ≤ S.g0 → j' < S.g1 → (i' = i ∧ j' = j ∧ k = 2 ∧ Value.int .i64 (S'.er i' j' : Int) = v0) ∨ (S'.er i' j' = S.er i' j' ∧ ¬ (i' = i ∧ j' = j ∧ k = 2))) :
    NA B tag L S' (w.setCell ⟨L.bb i, j * 4 + k, none⟩ v0) := by
  have tb := h.tbb i hi
  obtain ⟨e0, e1, e2, e3⟩ := hg
  obtain ⟨r0, r1, r2, r3⟩ := hr
  have hin : ∃ u, w.cell? ⟨L.bb i, j * 4 + k, none⟩ = some u := by
    rcases (by omega : k = 0 ∨ k = 1 ∨ k = 2) with rfl | rfl | rfl
    · exact ⟨_, h.c (.bad i j hi hj)⟩
    · exact ⟨_, h.c (.next i j hi hj)⟩
    · exact ⟨_, h.c (.er i j hi hj)⟩
  have hsame : ∀ i', i' ≤ S.g0 → L.bb i' = L.bb i → i' = i := fun i' hi' e => by
    have h1 := h.tbb i' hi'
    rw [e, tb] at h1
    cases h1; rfl
  refine h.set (L.bb i) (j * 4 + k) v0 (.blocks i) tb trivial ⟨e0, e1, e2, e3⟩ he hn hin (fun b o v hv => ?_) (fun i j p hi hj hp => .inl ⟨by rw [r1], fun e => h.pb_ne hi hj tb (by simp) e.1⟩)
  cases hv with
  | bad i' j' hi' hj' =>
    rcases hb i' j' (by omega) (by omega) with ⟨rfl, rfl, rfl, e⟩ | ⟨e, hne⟩
    · exact .inl ⟨rfl, rfl, e⟩
    · refine .inr ⟨by rw [e]; exact .bad i' j' (by omega) (by omega), fun q => ?_⟩
      have := hsame i' (by omega) q.1
      exact hne ⟨this, by omega, by omega⟩
  | next i' j' hi' hj' =>
    rcases hx i' j' (by omega) (by omega) with ⟨rfl, rfl, rfl, e⟩ | ⟨e, hne⟩
    · exact .inl ⟨rfl, rfl, e⟩
    · refine .inr ⟨by rw [e]; exact .next i' j' (by omega) (by omega), fun q => ?_⟩
      have := hsame i' (by omega) q.1
      exact hne ⟨this, by omega, by omega⟩
  | er i' j' hi' hj' =>
    rcases hz i' j' (by omega) (by omega) with ⟨rfl, rfl, rfl, e⟩ | ⟨e, hne⟩
    · exact .inl ⟨rfl, rfl, e⟩
    · refine .inr ⟨by rw [e]; exact .er i' j' (by omega) (by omega), fun q => ?_⟩
      have := hsame i' (by omega) q.1
      exact hne ⟨this, by omega, by omega⟩
  | pages i' j' hi' hj' => exact .inr ⟨by rw [e2]; exact .pages i' j' (by omega) (by omega), fun q => by omega⟩
  | dead i' hi' => exact .inr ⟨by rw [r0]; exact .dead i' (by omega), fun q => tag_ne h.tcb tb (by simp) q.1⟩
  | blocks i' hi' => exact .inr ⟨by rw [e1]; exact .blocks i' (by omega), fun q => tag_ne h.tcb tb (by simp) q.1⟩
  | g0 => exact .inr ⟨by rw [e0]; exact .g0, fun q => tag_ne h.tpa tb (by simp) q.1⟩
  | g1 => exact .inr ⟨by rw [e1]; exact .g1, fun q => tag_ne h.tpa tb (by simp) q.1⟩
  | g2 => exact .inr ⟨by rw [e2]; exact .g2, fun q => tag_ne h.tpa tb (by simp) q.1⟩
  | g3 => exact .inr ⟨by rw [e3]; exact .g3, fun q => tag_ne h.tpa tb (by simp) q.1⟩
  | chips => exact .inr ⟨by rw [e0]; exact .chips, fun q => tag_ne h.tpa tb (by simp) q.1⟩
  | comes => exact .inr ⟨.comes, fun q => tag_ne h.tpa tb (by simp) q.1⟩
  | ops => exact .inr ⟨by rw [r2]; exact .ops, fun q => tag_ne h.tpa tb (by simp) q.1⟩
  | off => exact .inr ⟨by rw [r3]; exact .off, fun q => tag_ne h.tpa tb (by simp) q.1⟩
theorem NA.setBad (h : NA B tag L S w) (i j : Nat) (hi : i ≤ S.g0) (hj : j < S.g1) (x : Bool) : NA B tag L (S.setBad i j x) (w.setCell ⟨L.bb i, j * 4, none⟩ (.bool x)) := by
  refine h.setRec (S' := S.setBad i j x) i j 0 hi hj (by omega) _ ⟨rfl, rfl, rfl, rfl⟩ rfl h.nxt ⟨rfl, rfl, rfl, rfl⟩ (fun i' j' _ _ => ?_) (fun i' j' _ _ => .inr ⟨rfl, by omega⟩) (fun i' j' _ _ => .inr ⟨rfl, by omega⟩)
  by_cases e : i' = i ∧ j' = j
  · exact .inl ⟨e.1, e.2, rfl, by simp [NS.setBad, e]⟩
  · exact .inr ⟨by simp only [NS.setBad]; rw [if_neg e], fun q => e ⟨q.1, q.2.1⟩⟩
theorem NA.setNext (h : NA B tag L S w) (i j : Nat) (hi : i ≤ S.g0) (hj : j < S.g1) (n : Nat) (hn : n ≤ S.g2) : NA B tag L (S.setNext i j n) (w.setCell ⟨L.bb i, j * 4 + 1, none⟩ (.int .i64 (n : Int))) := by
  refine h.setRec (S' := S.setNext i j n) i j 1 hi hj (by omega) _ ⟨rfl, rfl, rfl, rfl⟩ rfl (fun i' j' => ?_) ⟨rfl, rfl, rfl, rfl⟩ (fun i' j' _ _ => .inr ⟨rfl, by omega⟩) (fun i' j' _ _ => ?_) (fun i' j' _ _ => .inr ⟨rfl, by omega⟩)
  · by_cases e : i' = i ∧ j' = j
    · simp only [NS.setNext]; rw [if_pos e]; exact hn
    · simp only [NS.setNext]; rw [if_neg e]; exact h.nxt i' j'
  by_cases e : i' = i ∧ j' = j
  · exact .inl ⟨e.1, e.2, rfl, by simp [NS.setNext, e]⟩
  · exact .inr ⟨by simp only [NS.setNext]; rw [if_neg e], fun q => e ⟨q.1, q.2.1⟩⟩
theorem NA.setEr (h : NA B tag L S w) (i j : Nat) (hi : i ≤ S.g0) (hj : j < S.g1) (n : Nat) : NA B tag L (S.setEr i j n) (w.setCell ⟨L.bb i, j * 4 + 2, none⟩ (.int .i64 (n : Int))) := by
  refine h.setRec (S' := S.setEr i j n) i j 2 hi hj (by omega) _ ⟨rfl, rfl, rfl, rfl⟩ rfl h.nxt ⟨rfl, rfl, rfl, rfl⟩ (fun i' j' _ _ => .inr ⟨rfl, by omega⟩) (fun i' j' _ _ => .inr ⟨rfl, by omega⟩) (fun i' j' _ _ => ?_)
  by_cases e : i' = i ∧ j' = j
  · exact .inl ⟨e.1, e.2, rfl, by simp [NS.setEr, e]⟩
  · exact .inr ⟨by simp only [NS.setEr]; rw [if_neg e], fun q => e ⟨q.1, q.2.1⟩⟩
/-- A page's row is written. -/
theorem NA.setPage (h : NA B tag L S w) (i j p : Nat) (hi : i ≤ S.g0) (hj : j < S.g1) (hp : p < S.g2) (v : Value) (b : Option (List Nat))
    (hv : PageOk tag (w.setCell ⟨L.pb i j, p, none⟩ v) (S.g3 + 64) (L.pb i j) p b) : NA B tag L (S.setPage i j p b) (w.setCell ⟨L.pb i j, p, none⟩ v) := by
  have tb := h.tpb i j hi hj
  have hin : ∃ u, w.cell? ⟨L.pb i j, p, none⟩ = some u := by
    have := h.rows i j p hi hj hp
    cases hpg : S.page i j p with
    | none => rw [hpg] at this; exact ⟨_, this⟩
    | some bs => rw [hpg] at this; obtain ⟨_, _, _, h1, _⟩ := this; exact ⟨_, h1⟩
  refine h.set (S' := S.setPage i j p b) (L.pb i j) p v (.pages i j) tb trivial ⟨rfl, rfl, rfl, rfl⟩ rfl h.nxt hin (fun b o v hv => ?_) (fun i' j' p' hi' hj' hp' => ?_)
  · cases hv with
    | dead i hi => exact .inr ⟨.dead i hi, fun e => tag_ne h.tcb tb (by simp) e.1⟩
    | blocks i hi => exact .inr ⟨.blocks i hi, fun e => tag_ne h.tcb tb (by simp) e.1⟩
    | bad i j hi hj => exact .inr ⟨.bad i j hi hj, fun e => tag_ne (h.tbb i hi) tb (by simp) e.1⟩
    | next i j hi hj => exact .inr ⟨.next i j hi hj, fun e => tag_ne (h.tbb i hi) tb (by simp) e.1⟩
    | er i j hi hj => exact .inr ⟨.er i j hi hj, fun e => tag_ne (h.tbb i hi) tb (by simp) e.1⟩
    | pages i j hi hj => exact .inr ⟨.pages i j hi hj, fun e => tag_ne (h.tbb i hi) tb (by simp) e.1⟩
    | g0 => exact .inr ⟨.g0, fun e => tag_ne h.tpa tb (by simp) e.1⟩
    | g1 => exact .inr ⟨.g1, fun e => tag_ne h.tpa tb (by simp) e.1⟩
    | g2 => exact .inr ⟨.g2, fun e => tag_ne h.tpa tb (by simp) e.1⟩
    | g3 => exact .inr ⟨.g3, fun e => tag_ne h.tpa tb (by simp) e.1⟩
    | chips => exact .inr ⟨.chips, fun e => tag_ne h.tpa tb (by simp) e.1⟩
    | comes => exact .inr ⟨.comes, fun e => tag_ne h.tpa tb (by simp) e.1⟩
    | ops => exact .inr ⟨.ops, fun e => tag_ne h.tpa tb (by simp) e.1⟩
    | off => exact .inr ⟨.off, fun e => tag_ne h.tpa tb (by simp) e.1⟩
  · by_cases e : i' = i ∧ j' = j ∧ p' = p
    · obtain ⟨rfl, rfl, rfl⟩ := e
      have : (S.setPage i' j' p' b).page i' j' p' = b := by simp [NS.setPage]
      rw [this]; exact .inr hv
    · refine .inl ⟨by simp only [NS.setPage]; rw [if_neg e], fun q => ?_⟩
      have h1 := h.tpb i' j' hi' hj'
      rw [q.1, tb] at h1
      simp only [Option.some.injEq, Tag.pages.injEq] at h1
      exact e ⟨h1.1.symm, h1.2.symm, q.2⟩
end

end Go.Proofs.Ytbfmpcomjmcfjaa
