/- Operations where nothing comes, at any place: the array's and the reference's. -/
import Derived.Test.YtbfmpcomjmcfjaaQErase
import Derived.Test.YtbfmpcomjmcfjaaNBegun
namespace Go.Proofs.Ytbfmpcomjmcfjaa
open Go.RowKit Go.Deep

/-- Chips of which no more than k operations are done, nothing to come, none bad. -/
structure KI (k : Nat) (S : NS) : Prop where
  quiet : Quiet S
  off : S.off = false
  ops : S.ops ≤ k
  bad : ∀ i j, S.bad i j = false
  er : ∀ i j, S.er i j ≤ k
  g : S.g0 = 4 ∧ S.g1 = 16 ∧ S.g2 = 4 ∧ S.g3 = 256
/-- What an operation at a place leaves elsewhere. -/
structure AsidePl (S S' : NS) (c d : Int) : Prop where
  page : ∀ i j p : Nat, ¬ ((i : Int) = c ∧ (j : Int) = d) → S'.page i j p = S.page i j p
  dead : S'.dead = S.dead
theorem AsidePl.refl (S : NS) (c d : Int) : AsidePl S S c d := ⟨fun _ _ _ _ => rfl, rfl⟩
theorem KI.mono {k m : Nat} {S : NS} (h : KI k S) (hm : k ≤ m) : KI m S := ⟨h.quiet, h.off, Nat.le_trans h.ops hm, h.bad, fun i j => Nat.le_trans (h.er i j) hm, h.g⟩
theorem KI.op {k : Nat} {S : NS} (h : KI k S) : KI (k + 1) (S.setOps (S.ops + 1)) := ⟨h.quiet, h.off, Nat.succ_le_succ h.ops, h.bad, fun i j => Nat.le_succ_of_le (h.er i j), h.g⟩
theorem KI.prog {k : Nat} {S : NS} (h : KI k S) (i j p n : Nat) (b : Option (List Nat)) : KI k ((S.setPage i j p b).setNext i j n) := ⟨h.quiet, h.off, h.ops, h.bad, h.er, h.g⟩
theorem KI.erased {k : Nat} {S : NS} (h : KI k S) (i j n : Nat) : KI (k + 1) (((S.wipeTo i j n).setNext i j 0).setEr i j (S.er i j + 1)) := by
  refine ⟨h.quiet, h.off, Nat.le_succ_of_le h.ops, h.bad, fun i' j' => ?_, h.g⟩
  simp only [NS.setEr]
  split
  · exact Nat.succ_le_succ (h.er i j)
  · exact Nat.le_succ_of_le (h.er i' j')
theorem AsidePl.prog {S : NS} {o : Nat} (i j p n : Nat) (b : Option (List Nat)) : AsidePl S (((S.setOps o).setPage i j p b).setNext i j n) (i : Int) (j : Int) :=
  ⟨fun i' j' p' hne => by
    simp only [NS.setPage, NS.setNext, NS.setOps]
    rw [if_neg (fun q => hne ⟨by omega, by omega⟩)], rfl⟩
theorem AsidePl.erased {S : NS} {o : Nat} (i j n m : Nat) : AsidePl S ((((S.setOps o).wipeTo i j n).setNext i j 0).setEr i j m) (i : Int) (j : Int) :=
  ⟨fun i' j' p' hne => by
    simp only [NS.wipeTo, NS.setNext, NS.setEr, NS.setOps]
    rw [if_neg (fun q => hne ⟨by omega, by omega⟩)], rfl⟩
theorem place {S : NS} {c d : Int} (h : ¬ NoAt S c d) : ∃ i j : Nat, c = (i : Int) ∧ d = (j : Int) ∧ i ≤ S.g0 ∧ j < S.g1 := by
  unfold NoAt at h
  exact ⟨c.toNat, d.toNat, by omega, by omega, by omega, by omega⟩
section
variable {B : Nat} {tag : Nat → Option Tag} {L : NL} {S : NS} {w : World} {k : Nat}
/-- What an operation leaves of the array. -/
def CRet (B : Nat) (tag : Nat → Option Tag) (L : NL) (S : NS) (w : World) (k : Nat) (c d : Int) (w' : World) : Prop :=
  ∃ tag' S', NA B tag' L S' w' ∧ Grew tag tag' w ∧ Kept (ownT tag) w w' ∧ KI k S' ∧ AsidePl S S' c d
theorem cret_err (h : KI k S) (c d : Int) {w1 w' : World} (h1 : NA B tag L S w1 ∧ Kept (ownT tag) w w1) (hb : Below w1.heap.size w1 w') : CRet B tag L S w (k + 1) c d w' :=
  ⟨tag, S, h1.1.below hb, Grew.refl _ _, h1.2.trans (Kept.of_below (F := ownT tag) hb) (fun _ _ h => h), h.mono (Nat.le_succ k), AsidePl.refl _ _ _⟩
theorem cret_op (h : KI k S) (c d : Int) {w1 w' : World} (h1 : NA B tag L (S.setOps (S.ops + 1)) w1 ∧ Kept (ownT tag) w w1) (hb : Below w1.heap.size w1 w') : CRet B tag L S w (k + 1) c d w' :=
  ⟨tag, _, h1.1.below hb, Grew.refl _ _, h1.2.trans (Kept.of_below (F := ownT tag) hb) (fun _ _ h => h), h.op, ⟨fun _ _ _ _ => rfl, rfl⟩⟩
theorem cret_o (h : KI k S) (c d : Int) {n : Int} {e : Ending} {w' : World} (h1 : ORet B tag L (S.setOps (S.ops + 1)) w n e w') : ∃ n : Int, e = .returned (.int .i64 n) ∧ CRet B tag L S w (k + 1) c d w' := by
  obtain ⟨rfl, tag', h2, hg, hk⟩ := h1
  exact ⟨n, rfl, tag', _, h2, hg, hk, h.op, ⟨fun _ _ _ _ => rfl, rfl⟩⟩
theorem cprogram (h : NA B tag L S w) (hk : KI k S) (hk2 : k ≤ 1000) (c d p : Int) (a1 : Option Addr) (n1 c1 : Nat) (a2 : Option Addr) (c2 : Nat) (ds os : List Nat) (hr1 : Row w a1 n1 ds) (hn1 : a1 = none → c1 = 0) (hr2 : Row w a2 64 os) (hn2 : a2 = none → c2 = 0) (hf1 : ∀ x, a1 = some x → ¬ ownT tag x.block) (hf2 : ∀ x, a2 = some x → ¬ ownT tag x.block) :
    Calls Try.prog 36 #[.pointer (some ⟨L.pa, 0, none⟩), .int .i64 c, .int .i64 d, .int .i64 p, .slice a1 n1 c1, .slice a2 64 c2] w fun e w' => ∃ n : Int, e = .returned (.int .i64 n) ∧ CRet B tag L S w (k + 1) c d w' := by
  have ht := hk.quiet.tick
  have hops : S.ops < 1000000000000 := by have := hk.ops; omega
  by_cases hc : NoAt S c d
  · refine (program_err _ c d 34 p _ _ _ (by decide) (bad_none h hk.off c d hc)).mono ?_
    rintro e w' ⟨rfl, w1, h1, hb⟩
    exact ⟨34, rfl, cret_err hk c d h1 hb⟩
  · obtain ⟨i, j, rfl, rfl, hi, hj⟩ := place hc
    cases hd : S.dead i with
    | true =>
      refine (program_err _ (i : Int) (j : Int) 71 p _ _ _ (by decide) (bad_dead h i j hi hj hk.off hops (by rw [ht]; exact hd) (by rw [ht]; exact hk.off))).mono ?_
      rintro e w' ⟨rfl, w1, h1, hb⟩
      rw [ht] at h1
      exact ⟨71, rfl, cret_op hk _ _ h1 hb⟩
    | false =>
      have hd' : S.tick.dead i = false := by rw [ht]; exact hd
      have k2 : (S.ev (S.ops + 1)).ki ≠ 2 := by rw [hk.quiet.ki]; decide
      have k1 : (S.ev (S.ops + 1)).ki ≠ 1 := by rw [hk.quiet.ki]; decide
      by_cases p0 : p < 0
      · refine (program_neg h i j hi hj hk.off hops hd' k2 a1 n1 c1 a2 64 c2 p p0).mono fun e w' q => ?_
        rw [ht] at q; exact cret_o hk _ _ q
      by_cases p1 : (S.g2 : Int) ≤ p
      · refine (program_far h i j hi hj hk.off hops hd' k2 a1 n1 c1 a2 64 c2 p (by rw [ht]; exact p1)).mono fun e w' q => ?_
        rw [ht] at q; exact cret_o hk _ _ q
      obtain ⟨p, rfl⟩ : ∃ q : Nat, p = (q : Int) := ⟨p.toNat, by omega⟩
      have hp : p < S.tick.g2 := by rw [ht]; show p < S.g2; omega
      by_cases hl : n1 = S.tick.g3
      · by_cases hne : S.tick.next i j = p
        · refine (program_ok h i j hi hj hk.off hops hd' k2 a1 n1 c1 a2 64 c2 p hp hl rfl (by rw [ht]; exact hk.bad i j) hne k1 ds os hr1 hn1 hr2 hn2 hf1 hf2).mono ?_
          rintro e w' ⟨rfl, tag', h2, hg, hk3⟩
          rw [ht] at h2
          exact ⟨0, rfl, tag', _, h2, hg, hk3, hk.op.prog i j p _ _, AsidePl.prog i j p _ _⟩
        · refine (program_order h i j hi hj hk.off hops hd' k2 a1 n1 c1 a2 64 c2 p hp hl rfl (by rw [ht]; exact hk.bad i j) (fun q => hne q.symm)).mono fun e w' q => ?_
          rw [ht] at q; exact cret_o hk _ _ q
      · refine (program_size h i j hi hj hk.off hops hd' k2 a1 n1 c1 a2 64 c2 p hp hl).mono fun e w' q => ?_
        rw [ht] at q; exact cret_o hk _ _ q
theorem cerase (h : NA B tag L S w) (hk : KI k S) (hk2 : k ≤ 1000) (c d : Int) :
    Calls Try.prog 37 #[.pointer (some ⟨L.pa, 0, none⟩), .int .i64 c, .int .i64 d] w fun e w' => ∃ n : Int, e = .returned (.int .i64 n) ∧ CRet B tag L S w (k + 2) c d w' := by
  have ht := hk.quiet.tick
  have hops : S.ops < 1000000000000 := by have := hk.ops; omega
  have up : ∀ {c d : Int} {w' : World}, CRet B tag L S w (k + 1) c d w' → CRet B tag L S w (k + 2) c d w' := fun ⟨tag', S', a1, a2, a3, a4, a5⟩ => ⟨tag', S', a1, a2, a3, a4.mono (Nat.le_succ _), a5⟩
  by_cases hc : NoAt S c d
  · refine (erase_err _ c d 34 _ (by decide) (bad_none h hk.off c d hc)).mono ?_
    rintro e w' ⟨rfl, w1, h1, hb⟩
    exact ⟨34, rfl, up (cret_err hk c d h1 hb)⟩
  · obtain ⟨i, j, rfl, rfl, hi, hj⟩ := place hc
    cases hd : S.dead i with
    | true =>
      refine (erase_err _ (i : Int) (j : Int) 71 _ (by decide) (bad_dead h i j hi hj hk.off hops (by rw [ht]; exact hd) (by rw [ht]; exact hk.off))).mono ?_
      rintro e w' ⟨rfl, w1, h1, hb⟩
      rw [ht] at h1
      exact ⟨71, rfl, up (cret_op hk _ _ h1 hb)⟩
    | false =>
      have k2 : (S.ev (S.ops + 1)).ki ≠ 2 := by rw [hk.quiet.ki]; decide
      have k1 : (S.ev (S.ops + 1)).ki ≠ 1 := by rw [hk.quiet.ki]; decide
      refine (erase_ok h i j hi hj hk.off hops (by rw [ht]; exact hd) k2 k1 (by rw [ht]; exact hk.bad i j) (by rw [ht]; show S.er i j < _; have := hk.er i j; omega)).mono ?_
      rintro e w' ⟨rfl, tag', h2, hg, hk3⟩
      rw [ht] at h2
      exact ⟨0, rfl, tag', _, h2, hg, hk3, hk.op.erased i j _, AsidePl.erased i j _ _⟩
/-- What Read leaves: two rows, and the array. -/
def CRead (B : Nat) (tag : Nat → Option Tag) (L : NL) (S : NS) (w : World) (k : Nat) (c d : Int) (e : Ending) (w' : World) : Prop :=
  ∃ a1 n1 c1 b1 a2 n2 c2 b2, ∃ n : Int, e = .returned (.tuple #[.slice a1 n1 c1, .slice a2 n2 c2, .int .i64 n]) ∧ Row w' a1 n1 b1 ∧ Row w' a2 n2 b2 ∧ n1 ≤ 1024 ∧ n2 ≤ 1024 ∧ (∀ x, a1 = some x → w.heap.size ≤ x.block) ∧ (∀ x, a2 = some x → w.heap.size ≤ x.block) ∧ CRet B tag L S w k c d w'
theorem row_nilT (w : World) : Row w none 0 [] := ⟨rfl, (fun x hx => by cases hx), (fun h => by omega)⟩
theorem cread_err (hk : KI k S) (c d : Int) {n : Int} {e : Ending} {w' : World} (q : RErr B tag L (S.setOps (S.ops + 1)) w n e w') : CRead B tag L S w (k + 1) c d e w' := by
  obtain ⟨rfl, h1, k1⟩ := q
  exact ⟨none, 0, 0, [], none, 0, 0, [], n, rfl, row_nilT _, row_nilT _, by omega, by omega, (fun _ q => by cases q), (fun _ q => by cases q), cret_op hk c d ⟨h1, k1⟩ (Below.refl _ _)⟩
theorem cread_ok (hk : KI k S) (c d : Int) {m : Nat} {bs : List Nat} (hm : m ≤ 1024) {e : Ending} {w' : World} (q : RRet B tag L (S.setOps (S.ops + 1)) w m bs e w') : CRead B tag L S w (k + 1) c d e w' := by
  obtain ⟨a1, c1, a2, c2, rfl, o1, o2, h1, k1⟩ := q
  obtain ⟨x1, y1, e1, r1, _⟩ := row_of_own o1
  obtain ⟨x2, y2, e2, r2, _⟩ := row_of_own o2
  simp only [Value.slice.injEq] at e1 e2
  obtain ⟨rfl, f1, rfl⟩ := e1
  obtain ⟨rfl, f2, rfl⟩ := e2
  rw [← f1] at r1
  rw [← f2] at r2
  exact ⟨_, _, _, _, _, _, _, _, 0, rfl, r1, r2, hm, by omega, own_far o1, own_far o2, cret_op hk c d ⟨h1, k1⟩ (Below.refl _ _)⟩
theorem cread (h : NA B tag L S w) (hk : KI k S) (hk2 : k ≤ 1000) (c d p : Int) :
    Calls Try.prog 33 #[.pointer (some ⟨L.pa, 0, none⟩), .int .i64 c, .int .i64 d, .int .i64 p] w (CRead B tag L S w (k + 1) c d) := by
  have ht := hk.quiet.tick
  have hops : S.ops < 1000000000000 := by have := hk.ops; omega
  by_cases hc : NoAt S c d
  · refine (read_err _ c d 34 p _ (by decide) (bad_none h hk.off c d hc)).mono ?_
    rintro e w' ⟨rfl, w1, h1, hb⟩
    exact ⟨none, 0, 0, [], none, 0, 0, [], 34, rfl, row_nilT _, row_nilT _, by omega, by omega, (fun _ q => by cases q), (fun _ q => by cases q), cret_err hk c d h1 hb⟩
  · obtain ⟨i, j, rfl, rfl, hi, hj⟩ := place hc
    cases hd : S.dead i with
    | true =>
      refine (read_err _ (i : Int) (j : Int) 71 p _ (by decide) (bad_dead h i j hi hj hk.off hops (by rw [ht]; exact hd) (by rw [ht]; exact hk.off))).mono ?_
      rintro e w' ⟨rfl, w1, h1, hb⟩
      rw [ht] at h1
      exact ⟨none, 0, 0, [], none, 0, 0, [], 71, rfl, row_nilT _, row_nilT _, by omega, by omega, (fun _ q => by cases q), (fun _ q => by cases q), cret_op hk _ _ h1 hb⟩
    | false =>
      have hd' : S.tick.dead i = false := by rw [ht]; exact hd
      have k2 : (S.ev (S.ops + 1)).ki ≠ 2 := by rw [hk.quiet.ki]; decide
      have hg : S.g3 ≤ 1024 := h.shape.b3
      by_cases p0 : p < 0
      · refine (read_neg h i j hi hj hk.off hops hd' k2 p p0).mono fun e w' q => ?_
        rw [ht] at q; exact cread_err hk _ _ q
      by_cases p1 : (S.g2 : Int) ≤ p
      · refine (read_far h i j hi hj hk.off hops hd' k2 p (by rw [ht]; exact p1)).mono fun e w' q => ?_
        rw [ht] at q; exact cread_err hk _ _ q
      obtain ⟨p, rfl⟩ : ∃ q : Nat, p = (q : Int) := ⟨p.toNat, by omega⟩
      have hp : p < S.tick.g2 := by rw [ht]; show p < S.g2; omega
      cases hpg : S.tick.page i j p with
      | none =>
        refine (read_none h i j hi hj hk.off hops hd' k2 p hp hpg).mono fun e w' q => ?_
        rw [ht] at q; exact cread_ok hk _ _ hg q
      | some bs =>
        refine (read_some h i j hi hj hk.off hops hd' k2 p hp bs hpg).mono fun e w' q => ?_
        rw [ht] at q; exact cread_ok hk _ _ hg q
end
section
variable {B : Nat} {tag : Nat → Option QT} {L : QL} {S : NS} {w : World} {k : Nat}
/-- What an operation leaves of the reference's chips. -/
def CQ (B : Nat) (tag : Nat → Option QT) (L : QL) (w : World) (k : Nat) (w' : World) : Prop :=
  ∃ tag' L' S', L'.pa = L.pa ∧ L'.ev = .slice none 0 0 ∧ QA B tag' L' S' w' ∧ (∀ k, ownQ tag' k → ownQ tag k ∨ w.heap.size ≤ k) ∧ Kept (ownQ tag) w w' ∧ KI k S'
theorem qbeg (h : QA B tag L S w) (hev : L.ev = .slice none 0 0) (hk : KI k S) (hk2 : k ≤ 1000) (c d : Int) : ∃ T, KI (k + 1) T ∧ ∃ n : Int, QBeg B tag L T w c d n ∧ (n = 0 → ∃ i j : Nat, c = (i : Int) ∧ d = (j : Int) ∧ i ≤ T.g0 ∧ j < T.g1) := by
  by_cases hc : NoAt S c d
  · exact ⟨S, hk.mono (Nat.le_succ k), 34, qbegin_none h hk.off c d hc, fun q => by cases q⟩
  · obtain ⟨i, j, rfl, rfl, hi, hj⟩ := place hc
    exact ⟨S.setOps (S.ops + 1), hk.op, _, qbegin_in h hev i j hi hj hk.off (by have := hk.ops; omega) _ rfl, fun _ => ⟨i, j, rfl, rfl, hi, hj⟩⟩
theorem cq_o {T : NS} (hk : KI k T) {n : Int} {e : Ending} {w' : World} (q : QORet B tag T L.pa w n e w') : ∃ n : Int, e = .returned (.int .i64 n) ∧ CQ B tag L w k w' := by
  obtain ⟨rfl, tag', L', e1, e2, h1, hd, k1⟩ := q
  exact ⟨n, rfl, tag', L', T, e1, e2, h1, hd, k1, hk⟩
theorem cqprogram (h : QA B tag L S w) (hev : L.ev = .slice none 0 0) (hk : KI k S) (hk2 : k ≤ 1000) (c d p : Int) (a1 : Option Addr) (n1 c1 : Nat) (a2 : Option Addr) (c2 : Nat) (ds os : List Nat) (hr1 : Row w a1 n1 ds) (hlc : n1 ≤ c1) (hcm : c1 ≤ maxLen) (hn1 : a1 = none → c1 = 0) (hr2 : Row w a2 64 os) (hn2 : a2 = none → c2 = 0) (hf1 : ∀ x, a1 = some x → ¬ ownQ tag x.block) (hf2 : ∀ x, a2 = some x → ¬ ownQ tag x.block) :
    Calls Try.prog 78 #[.pointer (some ⟨L.pa, 0, none⟩), .int .i64 c, .int .i64 d, .int .i64 p, .slice a1 n1 c1, .slice a2 64 c2] w fun e w' => ∃ n : Int, e = .returned (.int .i64 n) ∧ CQ B tag L w (k + 1) w' := by
  obtain ⟨T, hT, n, hb, hin⟩ := qbeg h hev hk hk2 c d
  by_cases hn : n = 0
  · subst hn
    obtain ⟨i, j, rfl, rfl, hi, hj⟩ := hin rfl
    by_cases p0 : p < 0
    · exact (qprogram_neg i j hi hj hev a1 n1 c1 a2 64 c2 p p0 hb).mono fun _ _ q => cq_o hT q
    by_cases p1 : (T.g2 : Int) ≤ p
    · exact (qprogram_far i j hi hj hev a1 n1 c1 a2 64 c2 p p1 hb).mono fun _ _ q => cq_o hT q
    obtain ⟨p, rfl⟩ : ∃ q : Nat, p = (q : Int) := ⟨p.toNat, by omega⟩
    by_cases hl : n1 = T.g3
    · by_cases hne : p = T.next i j
      · exact (qprogram_ok i j hi hj hev a1 n1 c1 a2 64 c2 p (by omega) hl rfl (hT.bad i j) hne.symm ds os hr1 hlc hcm hn1 hr2 hn2 hf1 hf2 hb).mono fun _ _ q => cq_o (hT.prog i j p _ _) q
      · exact (qprogram_order i j hi hj hev a1 n1 c1 a2 64 c2 p (by omega) hl rfl (hT.bad i j) hne hb).mono fun _ _ q => cq_o hT q
    · exact (qprogram_size i j hi hj hev a1 n1 c1 a2 64 c2 p (by omega) hl hb).mono fun _ _ q => cq_o hT q
  · exact (qprogram_err c d n p _ _ hev hn hb).mono fun _ _ q => cq_o hT q
theorem cqerase (h : QA B tag L S w) (hev : L.ev = .slice none 0 0) (hk : KI k S) (hk2 : k ≤ 1000) (c d : Int) :
    Calls Try.prog 79 #[.pointer (some ⟨L.pa, 0, none⟩), .int .i64 c, .int .i64 d] w fun e w' => ∃ n : Int, e = .returned (.int .i64 n) ∧ CQ B tag L w (k + 2) w' := by
  obtain ⟨T, hT, n, hb, hin⟩ := qbeg h hev hk hk2 c d
  by_cases hn : n = 0
  · subst hn
    obtain ⟨i, j, rfl, rfl, hi, hj⟩ := hin rfl
    exact (qerase_ok i j hi hj hev (hT.bad i j) (by have := hT.er i j; omega) hb).mono fun _ _ q => cq_o (hT.erased i j _) q
  · exact (qerase_err c d n hev hn hb).mono fun _ _ q => cq_o (hT.mono (Nat.le_succ _)) q
def CQRead (B : Nat) (tag : Nat → Option QT) (L : QL) (w : World) (k : Nat) (e : Ending) (w' : World) : Prop :=
  ∃ a m c bs, ∃ n : Int, e = .returned (.tuple #[.slice a m c, .int .i64 n]) ∧ Row w' a m bs ∧ m ≤ 2000 ∧ CQ B tag L w k w'
theorem cq_r {T : NS} (hev : L.ev = .slice none 0 0) (hk : KI k T) {m : Nat} {bs : List Nat} {n : Int} {e : Ending} {w' : World} (hm : m ≤ 2000) (q : QRRet B tag L T w m bs n e w') : CQRead B tag L w k e w' := by
  obtain ⟨a, c, rfl, hr, h1, k1⟩ := q
  exact ⟨a, m, c, bs, n, rfl, hr, hm, tag, L, T, rfl, hev, h1, fun _ h => .inl h, k1, hk⟩
theorem cqread (h : QA B tag L S w) (hev : L.ev = .slice none 0 0) (hk : KI k S) (hk2 : k ≤ 1000) (c d p : Int) :
    Calls Try.prog 76 #[.pointer (some ⟨L.pa, 0, none⟩), .int .i64 c, .int .i64 d, .int .i64 p] w (CQRead B tag L w (k + 1)) := by
  obtain ⟨T, hT, n, hb, hin⟩ := qbeg h hev hk hk2 c d
  by_cases hn : n = 0
  · subst hn
    obtain ⟨i, j, rfl, rfl, hi, hj⟩ := hin rfl
    by_cases p0 : p < 0
    · exact (qread_neg _ _ p p0 hb).mono fun _ _ q => cq_r hev hT (by omega) q
    by_cases p1 : (T.g2 : Int) ≤ p
    · exact (qread_far _ _ p p1 hb).mono fun _ _ q => cq_r hev hT (by omega) q
    obtain ⟨p, rfl⟩ : ∃ q : Nat, p = (q : Int) := ⟨p.toNat, by omega⟩
    have hg := hT.g.2.2.2
    cases hpg : T.page i j p with
    | none => exact (qread_none i j p hi hj (by omega) hpg hb).mono fun _ _ q => cq_r hev hT (by omega) q
    | some bs => exact (qread_some i j p hi hj (by omega) bs hpg hb).mono fun _ _ q => cq_r hev hT (by omega) q
  · exact (qread_err c d n p hn hb).mono fun _ _ q => cq_r hev hT (by omega) q
end

end Go.Proofs.Ytbfmpcomjmcfjaa
