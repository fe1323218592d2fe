/- Pages put and got one behind the other, in both blocks. -/
import Derived.Test.YtpmlbfpneenacaaStgF
import Derived.Test.YtpmlbfpneenacaaStgAll
namespace Go.Proofs.Ytpmlbfpneenacaa
open Go.RowKit Go.Deep

/-- Members in memory on which the first pages stand, in both blocks. -/
structure StgI (B rb N c D : Nat) (cnt : Nat → Nat) (num : Nat → Nat → Nat) (s : RS) (w : World) : Prop where
  ram : Ram B s w
  lo : B ≤ w.heap.size
  at_ : s.rb = rb ∧ s.n = N ∧ s.bl = 20 ∧ s.pg = 5 ∧ s.sz = 256 ∧ s.first = -1
  ol : s.ol.length ≤ 2 * (cnt 0 + cnt 1)
  gone : ∀ m, m ≠ D → s.gone m = 0
  f : ∀ wh, wh ≤ 1 → StF s wh (cnt wh) (num wh) c D
theorem StgI.step {B rb N c D : Nat} {cnt : Nat → Nat} {num : Nat → Nat → Nat} {s : RS} {w w' : World} (h : StgI B rb N c D cnt num s w) (hb : Below w.heap.size w w') : StgI B rb N c D cnt num s w' :=
  ⟨h.ram.step hb, Nat.le_trans h.lo hb.size, h.at_, h.ol, h.gone, h.f⟩
theorem stgI_new {rb pb gb n c : Nat} {num : Nat → Nat → Nat} {B : Nat} {w : World} (h : Ram B (rsNew rb pb gb n 20 5 256) w) (hB : B ≤ w.heap.size) (D : Nat) : StgI B rb n c D (fun _ => 0) num (rsNew rb pb gb n 20 5 256) w :=
  ⟨h, hB, ⟨rfl, rfl, rfl, rfl, rfl, rfl⟩, Nat.zero_le _, fun _ _ => rfl, fun wh _ => stF_new rb pb gb n 20 5 256 wh (num wh) c D⟩
theorem stgI_put {B rb N c D : Nat} {cnt : Nat → Nat} {num : Nat → Nat → Nat} {s : RS} {w : World} (h : StgI B rb N c D cnt num s w) (wh k n : Nat) (hw : wh ≤ 1) (hk : k = cnt wh) (hkr : k < roomN N 5) (hn : n = num wh k) (hn2 : n ≤ 1000) (hc : c < 256) (hcnt : cnt 0 + cnt 1 ≤ 400) (E : PS) (hEl : E.l = pgL n c) (hEn : E.n = 256) (hE : PartOk w E) (hEf : ∀ x, E.a = some x → ¬ s.ob x.block) :
    Calls Try.prog 42 #[.iface 56 (.pointer (some ⟨rb, 0, none⟩)), .int .i64 (wh : Int), .int .i64 (k : Int), .agg #[.int .u8 4, .int .u32 (c : Int), .int .u32 0, .int .u16 0, .int .u16 0, .int .u32 (n : Int), .int .u32 0, .slice E.a E.n E.c]] w fun e w' => e = .returned (.int .i64 0) ∧ (∃ s', StgI B rb N c D (fun x => if x = wh then cnt x + 1 else cnt x) num s' w') ∧ Below B w w' := by
  obtain ⟨a1, a2, a3, a4, a5, a6⟩ := h.at_
  have hp := putPg_any h.ram h.lo wh k n c E hw (by rw [a2, a4]; exact hkr) a5 hn2 hc hEn hE hEf (by have := h.ol; omega)
  rw [a1] at hp
  refine hp.mono fun e w' hr => ?_
  obtain ⟨s', he, hr', hs', hol, hgo, hwr⟩ := hr
  rw [a6, ordL_two] at he hol hwr
  rw [if_neg (deads_le h.gone)] at he
  obtain ⟨e1, e2, e3, e4, e5, e6, e7, e8⟩ := hs'.same
  have hwr' : Wrote s s' (4 + wh) (rowN s.n k) [firN s.n k, firN s.n k + 1] (fun _ => pgB (num wh k) c) := by
    have : (fun _ : Nat => E.l ++ sealB (pgHdr n c) E.l []) = fun _ => pgB (num wh k) c := by
      funext _
      rw [hEl, hn]
      rfl
    rw [← this]
    exact hwr
  have h2n : 2 ≤ s.n := by have := h.ram.geo.1; omega
  refine ⟨he, ⟨s', ⟨hr', Nat.le_trans h.lo hs'.size, ⟨e1.trans a1, e4.trans a2, e5.trans a3, e6.trans a4, e7.trans a5, e8.trans a6⟩, ?_, fun m hm => by rw [hgo]; exact h.gone m hm, fun wh' hw' => ?_⟩⟩, hs'.below h.ram h.lo⟩
  · rw [hol, List.length_append]
    have := h.ol
    obtain rfl | rfl : wh = 0 ∨ wh = 1 := by omega
    · simp; omega
    · simp; omega
  · show StF s' wh' (if wh' = wh then cnt wh' + 1 else cnt wh') (num wh') c D
    by_cases e : wh' = wh
    · subst e
      rw [if_pos rfl, ← hk]
      exact stF_put h2n ⟨e4, e6⟩ (by rw [hk]; exact h.f wh' hw') hwr' h.gone
    · rw [if_neg e]
      exact stF_other (fun q => e q.symm) ⟨e4, e6⟩ (h.f wh' hw') hwr'
/-- The pages of a block, as they are got. -/
def AllPg (num : Nat → Nat) (c m : Nat) (sv : Value) (w : World) : Prop :=
  ∃ (a : Option Addr) (cap : Nat) (E : Nat → PS), sv = .slice a m cap ∧ (0 < m → ∃ b off, a = some ⟨b, off, none⟩ ∧ ∀ i, i < m → SPat ⟨pgHdr (num i) c, E i⟩ b (off + i * 8) w) ∧ ∀ i, i < m → PartOk w (E i) ∧ (E i).l = pgL (num i) c
theorem AllPg.step {num : Nat → Nat} {c m : Nat} {sv : Value} {w w' : World} (h : AllPg num c m sv w) (hb : Below w.heap.size w w') : AllPg num c m sv w' := by
  obtain ⟨a, cap, E, h1, h2, h3⟩ := h
  refine ⟨a, cap, E, h1, fun h0 => ?_, fun i hi => ⟨(h3 i hi).1.step hb, (h3 i hi).2⟩⟩
  obtain ⟨b, off, h4, h5⟩ := h2 h0
  exact ⟨b, off, h4, fun i hi => (h5 i hi).step hb⟩
theorem stgI_all {B rb N c D : Nat} {cnt : Nat → Nat} {num : Nat → Nat → Nat} {s : RS} {w : World} (h : StgI B rb N c D cnt num s w) (wh : Nat) (hw : wh ≤ 1) (hc : c < 256) (hD : ∀ m, m < N → (s.gone m = 0 ↔ m ≠ D)) (hm : cnt wh ≤ roomN N 5) (hnum : ∀ j, j < cnt wh → num wh j ≤ 1000) :
    Calls Try.prog 44 #[.iface 56 (.pointer (some ⟨rb, 0, none⟩)), .int .i64 (wh : Int)] w fun e w' => ∃ sv, e = .returned (.tuple #[sv, .int .i64 0]) ∧ AllPg (num wh) c (cnt wh) sv w' ∧ Below w.heap.size w w' := by
  obtain ⟨a1, a2, a3, a4, a5, a6⟩ := h.at_
  have hq : ∀ k, k < roomN s.n s.pg → (fun j => if j < cnt wh then some (pgL (num wh j) c, pgHdr (num wh j) c) else none) k = getPg s (4 + wh) (rowN s.n k) (firN s.n k) := fun k hk =>
    (stF_get (h.f wh hw) a5 hc hnum (by rw [a2]; exact hD) h.ram.geo k hk).symm
  have hp := stgAll_ok h.ram wh (cnt wh) hw (by omega) _ hq (by rw [a2, a4]; exact hm) (fun j hj => by simp [hj]) (fun _ => by simp)
  rw [a1] at hp
  refine hp.mono fun e w' hr => ?_
  obtain ⟨sv, L, he, hg, hb⟩ := hr
  refine ⟨sv, he, ?_, hb⟩
  obtain ⟨a, cap, hsv, hcs⟩ := cellsSP_own hg.1
  rw [hg.2.1] at hsv
  have hat : ∀ i, i < cnt wh → (L.getD i SP.nil).h = pgHdr (num wh i) c ∧ (L.getD i SP.nil).d.l = pgL (num wh i) c ∧ PartOk w' (L.getD i SP.nil).d := fun i hi => by
    obtain ⟨l, H, q1, q2, q3, q4, _⟩ := hg.2.2 i hi
    simp only [if_pos hi] at q1
    cases q1
    exact ⟨q2, q3, q4⟩
  refine ⟨a, cap, fun i => (L.getD i SP.nil).d, hsv, fun h0 => ?_, fun i hi => ⟨(hat i hi).2.2, (hat i hi).2.1⟩⟩
  obtain ⟨b, off, e1, e2⟩ := hcs (by rw [hg.2.1]; exact h0)
  refine ⟨b, off, e1, fun i hi => ?_⟩
  have := e2 i (by rw [hg.2.1]; exact hi)
  rw [← (hat i hi).1]
  exact this
theorem stgI_get {B rb N c D : Nat} {cnt : Nat → Nat} {num : Nat → Nat → Nat} {s : RS} {w : World} (h : StgI B rb N c D cnt num s w) (wh k n : Nat) (hw : wh ≤ 1) (hc : c < 256) (hD : ∀ m, m < N → (s.gone m = 0 ↔ m ≠ D)) (hk : k < cnt wh) (hm : cnt wh ≤ roomN N 5) (hnum : ∀ j, j < cnt wh → num wh j ≤ 1000) (hn : n = num wh k) :
    Calls Try.prog 45 #[.iface 56 (.pointer (some ⟨rb, 0, none⟩)), .int .i64 (wh : Int), .int .i64 (k : Int)] w fun e w' => ∃ E : PS, e = .returned (.tuple #[.agg #[.int .u8 4, .int .u32 (c : Int), .int .u32 0, .int .u16 0, .int .u16 0, .int .u32 (n : Int), .int .u32 0, .slice E.a E.n E.c], .int .i64 0]) ∧ E.l = pgL n c ∧ PartOk w' E ∧ Far w.heap.size E ∧ Below w.heap.size w w' := by
  obtain ⟨a1, a2, a3, a4, a5, a6⟩ := h.at_
  have hkr : k < roomN s.n s.pg := by rw [a2, a4]; omega
  have hq := stF_get (h.f wh hw) a5 hc hnum (by rw [a2]; exact hD) h.ram.geo k hkr
  rw [if_pos hk, ← hn] at hq
  have hp := getPg_any h.ram wh k n c hw hkr a5 hq
  rw [a1] at hp
  exact hp
theorem modn_eq (n : Nat) (x : Int) (h1 : n ≤ 1000) : ∃ i : Nat, i ≤ n ∧ wrap64 ((IntKind.u64.wrap x).tmod ((n : Int) + 1)) = (i : Int) ∧ IntKind.i64.wrap ((IntKind.u64.wrap x).tmod ((n : Int) + 1)) = (i : Int) := by
  have h2 : 0 ≤ IntKind.u64.wrap x := by rw [IntKind.wrap_u64]; omega
  have h3 : 0 ≤ (IntKind.u64.wrap x).tmod ((n : Int) + 1) := Int.tmod_nonneg _ h2
  have h4 : (IntKind.u64.wrap x).tmod ((n : Int) + 1) < (n : Int) + 1 := Int.tmod_lt_of_pos _ (by omega)
  refine ⟨((IntKind.u64.wrap x).tmod ((n : Int) + 1)).toNat, by omega, ?_, ?_⟩
  · rw [IntWalk.wrap64_in _ (by omega)]; omega
  · rw [IntKind.wrap_i64]; omega
end Go.Proofs.Ytpmlbfpneenacaa
