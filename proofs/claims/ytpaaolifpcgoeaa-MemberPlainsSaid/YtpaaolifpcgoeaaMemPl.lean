/- MemberPlains: plain. -/
import Derived.Test.YtpaaolifpcgoeaaMemParse
import Derived.Test.YtpaaolifpcgoeaaMemSame
import Derived.Test.YtpaaolifpcgoeaaMemTwiceWalk
import Derived.Test.YtpaaolifpcgoeaaWd
import Derived.RegionTactic
import Derived.StillTailTactics
namespace Go.Proofs.Ytpaaolifpcgoeaa
open Go.RowKit Go.Deep

/-- The members' chips: all in order, but for k. -/
def chipsL (n k : Nat) : List Nat := (List.range n).map fun i => if i = k then n else i
theorem chipsL_len (n k : Nat) : (chipsL n k).length = n := by simp [chipsL]
theorem chipsL_all (n : Nat) : intsN (chipsL n n) = firstL n := by
  unfold chipsL intsN firstL
  rw [List.map_map]
  apply List.map_congr_left
  intro i hi
  have := List.mem_range.1 hi
  simp only [Function.comp]
  rw [if_neg (by omega)]
theorem chipsL_set (n k : Nat) (hk : k < n) : (firstL n).set k (n : Int) = intsN (chipsL n k) := by
  apply List.ext_getElem?
  intro i
  by_cases e : i = k
  · subst e; simp [firstL, intsN, chipsL, hk]
  · rw [List.getElem?_set_ne (fun q => e q.symm)]
    rcases Nat.lt_or_ge i n with h | h
    · simp [firstL, intsN, chipsL, h, e]
    · simp [firstL, intsN, chipsL, h]
theorem chipsL_mem (n k : Nat) (x : Nat) (h : x ∈ chipsL n k) : x ≤ n := by
  unfold chipsL at h
  rw [List.mem_map] at h
  obtain ⟨i, hi, rfl⟩ := h
  have := List.mem_range.1 hi
  split <;> omega
theorem chipsL_ok (n k de dn : Nat) (hn : n ≤ 16) (hk : k ≤ n) (hd : de = 255 ∧ dn = 0 ∨ de < n ∧ dn < 16) : setOk n 20 (intsN (chipsL n k)) (k : Int) (de : Int) (dn : Int) := by
  refine ⟨by simp [intsN, chipsL_len], by omega, ⟨by omega, by omega⟩, ?_⟩
  rw [if_neg (by omega)]
  refine ⟨fun x hx => ?_, ?_⟩
  · rw [List.mem_append, List.mem_singleton] at hx
    rcases hx with hx | rfl
    · unfold intsN at hx
      rw [List.mem_map] at hx
      obtain ⟨y, hy, rfl⟩ := hx
      have := chipsL_mem n k y hy
      omega
    · omega
  · have e1 : intsN (chipsL n k) ++ [(k : Int)] = ((List.range n).map fun i => if i = k then (n : Int) else (i : Int)) ++ [(k : Int)] := by
      unfold intsN chipsL
      rw [List.map_map]
      congr 1
      apply List.map_congr_left
      intro i _
      simp only [Function.comp]
      split <;> rfl
    rw [e1, List.nodup_append]
    refine ⟨?_, by simp, fun a ha b hb => ?_⟩
    · unfold List.Nodup
      rw [List.pairwise_map]
      refine (List.pairwise_lt_range (n := n)).imp_of_mem ?_
      intro i j hi hj hij
      have := List.mem_range.1 hi
      have := List.mem_range.1 hj
      split <;> split <;> omega
    · rw [List.mem_singleton] at hb
      subst hb
      rw [List.mem_map] at ha
      obtain ⟨i, hi, rfl⟩ := ha
      have := List.mem_range.1 hi
      split <;> omega
structure MPS (w : World) (sb gb eb n c : Nat) (sq : Nat) (L : List Int) (sp de dn : Int) (x : World) : Prop where
  set : x.heap[sb]? = some (.cells #[.int .u32 (sq : Int), .slice (some ⟨eb, 0, none⟩) n c, .int .i64 sp, .int .i64 de, .int .i64 dn] 31 (0, 0))
  geo : x.heap[gb]? = some (.cells #[.int .i64 (n : Int), .int .i64 20, .int .i64 6, .int .i64 256] 27 (0, 0))
  own : OwnI w.heap.size x (.slice (some ⟨eb, 0, none⟩) n c) L
  bel : Below w.heap.size w x
  ne : eb ≠ sb ∧ gb ≠ sb ∧ eb ≠ gb
  lo : w.heap.size ≤ sb ∧ w.heap.size ≤ eb
  len : L.length = n
theorem ownI_other {B : Nat} {x : World} {eb n c b j : Nat} {L : List Int} (h : OwnI B x (.slice (some ⟨eb, 0, none⟩) n c) L) (hb : eb ≠ b) (v : Value) : OwnI B (x.setCell ⟨b, j, none⟩ v) (.slice (some ⟨eb, 0, none⟩) n c) L := by
  refine ⟨h.1, ?_⟩
  rcases h.2 with ⟨e, _⟩ | ⟨g, cp, cur, e1, e2, e3, e4⟩
  · cases e
  · have e5 := e1
    cases e5
    exact .inr ⟨eb, _, cur, e1, e2, (heap_setCell_other x _ _ _ hb).trans e3, e4⟩
section
variable {w x y : World} {sb gb eb n c sq : Nat} {L : List Int} {sp de dn : Int}
theorem MPS.step (h : MPS w sb gb eb n c sq L sp de dn x) (hb : Below x.heap.size x y) : MPS w sb gb eb n c sq L sp de dn y :=
  ⟨(hb.block _ (Array.getElem?_eq_some_iff.1 h.set).1).trans h.set, (hb.block _ (Array.getElem?_eq_some_iff.1 h.geo).1).trans h.geo, ownI_below h.own hb, bel_trans h.bel hb, h.ne, h.lo, h.len⟩
theorem MPS.setS (h : MPS w sb gb eb n c sq L sp de dn x) (j : Nat) (v : Value) {sq' : Nat} {sp' de' dn' : Int}
    (hc : (#[Value.int .u32 (sq : Int), .slice (some ⟨eb, 0, none⟩) n c, .int .i64 sp, .int .i64 de, .int .i64 dn] : Array Value).setIfInBounds j v = #[.int .u32 (sq' : Int), .slice (some ⟨eb, 0, none⟩) n c, .int .i64 sp', .int .i64 de', .int .i64 dn']) : MPS w sb gb eb n c sq' L sp' de' dn' (x.setCell ⟨sb, j, none⟩ v) := by
  have h1 := heap_setCell_same x sb j _ _ v h.set
  rw [hc] at h1
  exact ⟨h1, (heap_setCell_other x _ _ _ h.ne.2.1).trans h.geo, ownI_other h.own h.ne.1 v, h.bel.setCell (p := ⟨sb, j, none⟩) h.lo.1 v, h.ne, h.lo, h.len⟩
theorem MPS.setL (h : MPS w sb gb eb n c sq L sp de dn x) (k : Nat) (v : Int) : MPS w sb gb eb n c sq (L.set k v) sp de dn (x.setCell ⟨eb, k, none⟩ (.int .i64 v)) :=
  ⟨(heap_setCell_other x _ _ _ h.ne.1.symm).trans h.set, (heap_setCell_other x _ _ _ h.ne.2.2.symm).trans h.geo, ownI_set h.own h.len k v, h.bel.setCell (p := ⟨eb, k, none⟩) h.lo.2 _, h.ne, h.lo, by rw [List.length_set]; exact h.len⟩
end
theorem modn1 (n : Nat) (x : Int) (h : n ≤ 16) : modM (n + 1) x ≤ n ∧ IntKind.u64.wrap ((n : Int) + 1) = (n : Int) + 1 ∧ wrap64 ((n : Int) + 1) = (n : Int) + 1 ∧ wrap64 ((IntKind.u64.wrap x).tmod ((n : Int) + 1)) = (modM (n + 1) x : Int) ∧ IntKind.i64.wrap ((IntKind.u64.wrap x).tmod ((n : Int) + 1)) = (modM (n + 1) x : Int) := by
  obtain ⟨h1, h2, h3, h4⟩ := modn_ahead (n + 1) x (by omega) (by omega)
  have e : ((n + 1 : Nat) : Int) = (n : Int) + 1 := rfl
  rw [e] at h1 h2 h3
  exact ⟨by omega, h1, IntWalk.wrap64_in _ (by omega), h2, h3⟩
theorem modn2 (n : Nat) (x : Int) (h : n ≤ 16) : ∃ m : Nat, m = n + 1 ∧ 1 ≤ m ∧ wrap64 ((n : Int) + 1) = (m : Int) ∧ IntKind.u64.wrap (m : Int) = (m : Int) ∧ wrap64 ((IntKind.u64.wrap x).tmod (m : Int)) = (modM (n + 1) x : Int) ∧ IntKind.i64.wrap ((IntKind.u64.wrap x).tmod (m : Int)) = (modM (n + 1) x : Int) := by
  obtain ⟨h1, h2, h3, h4⟩ := modn_ahead (n + 1) x (by omega) (by omega)
  exact ⟨n + 1, rfl, by omega, IntWalk.wrap64_in _ (by omega), h1, h2, h3⟩
theorem own_caps {B : Nat} {x : World} {a : Option Addr} {n c : Nat} {l : List Nat} (h : Own B x (.slice a n c) l) : n ≤ c ∧ c ≤ maxLen := by
  rcases h.1.2 with ⟨e, _⟩ | ⟨g, cp, cur, e1, _, _, e4, e5, _⟩
  · cases e; exact ⟨Nat.le_refl _, Nat.zero_le _⟩
  · have e6 := e1
    simp only [Value.slice.injEq] at e6
    obtain ⟨_, h2, h3⟩ := e6
    have h7 := h.1.1
    refine ⟨?_, by omega⟩
    omega
theorem intsN_in {L : List Nat} (h : ∀ x ∈ L, x < 256) : ∀ z ∈ intsN L, -9223372036854775808 ≤ z ∧ z ≤ 9223372036854775807 := by
  intro z hz
  unfold intsN at hz
  rw [List.mem_map] at hz
  obtain ⟨y, hy, rfl⟩ := hz
  have := h y hy
  omega
theorem mod16 (x : Int) : ∃ t : Nat, t < 16 ∧ wrap64 ((IntKind.u64.wrap x).tmod 16) = (t : Int) ∧ IntKind.i64.wrap ((IntKind.u64.wrap x).tmod 16) = (t : Int) := by
  obtain ⟨_, h2, h3, h4⟩ := modn_ahead 16 x (by omega) (by omega)
  exact ⟨_, h4, h2, h3⟩
theorem tmod_small (x : Int) (n : Nat) (hx : 0 ≤ x) (hn : 0 < n) : ∃ d : Nat, d < n ∧ x.tmod (n : Int) = (d : Int) := by
  have h1 := Int.tmod_nonneg (n : Int) hx
  have h2 := Int.tmod_lt_of_pos x (show (0 : Int) < (n : Int) by omega)
  exact ⟨(x.tmod (n : Int)).toNat, by omega, by omega⟩
end Go.Proofs.Ytpaaolifpcgoeaa
