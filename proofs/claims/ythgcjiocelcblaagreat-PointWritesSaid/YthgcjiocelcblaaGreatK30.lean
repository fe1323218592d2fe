/- Parts of the proof: Remade, StCase, OwnSP, StPages, RamNew, StSame. -/
import Derived.Test.YthgcjiocelcblaaGreatK29
import Derived.Test.YthgcjiocelcblaaGreatK22
import Derived.Test.YthgcjiocelcblaaGreatK26
import Derived.Test.YthgcjiocelcblaaGreatK27
import Derived.Test.YthgcjiocelcblaaGreatK21
import Derived.StillTailTactics
import Derived.Test.YthgcjiocelcblaaGreatK01
namespace Go.Proofs.YthgcjiocelcblaaGreat
open Go.RowKit

/-- The slots of all members but two. -/
theorem slots_rest (p mi : Nat) (hmp : mi ≠ p) (n : Nat) : (((List.range n).filter fun m => decide (m ≠ mi ∧ m ≠ p)).map (slotOf p)) = (List.range (if n ≤ p then n else n - 1)).filter fun i => decide (i ≠ slotOf p mi) := by
  induction n with
  | zero => simp
  | succ n ih =>
    rw [List.range_succ, List.filter_append, List.map_append, ih]
    by_cases h1 : n + 1 ≤ p
    · rw [if_pos (by omega : n ≤ p), if_pos h1, List.range_succ, List.filter_append]
      congr 1
      by_cases h2 : n = mi
      · subst h2
        have : slotOf p n = n := by unfold slotOf; rw [if_pos (by omega)]
        simp [this]
      · have e1 : slotOf p n = n := by unfold slotOf; rw [if_pos (by omega)]
        have e2 : n ≠ slotOf p mi := by unfold slotOf; split <;> omega
        have e3 : n ≠ p := by omega
        simp [e1, e2, e3, h2]
    · by_cases h3 : n = p
      · subst h3
        rw [if_pos (Nat.le_refl _), if_neg h1]
        simp
      · rw [if_neg (by omega : ¬ n ≤ p), if_neg h1]
        have e0 : n + 1 - 1 = (n - 1) + 1 := by omega
        rw [e0, List.range_succ, List.filter_append]
        congr 1
        by_cases h2 : n = mi
        · subst h2
          have : slotOf p n = n - 1 := by unfold slotOf; rw [if_neg (by omega)]
          simp [this]
        · have e1 : slotOf p n = n - 1 := by unfold slotOf; rw [if_neg (by omega)]
          have e2 : n - 1 ≠ slotOf p mi := by unfold slotOf; split <;> omega
          simp [e1, e2, h3, h2]
theorem rest_take {α : Type} (G : List α) (d : α) (k N : Nat) (hN : N ≤ G.length) : ((List.range N).filter fun i => decide (i ≠ k)).map (fun i => G.getD i d) = (G.take N).take k ++ (G.take N).drop (k + 1) := by
  induction N with
  | zero => simp
  | succ N ih =>
    have hg : G.take (N + 1) = G.take N ++ [G.getD N d] := by
      rw [List.take_add_one]
      congr 1
      simp [List.getD, show N < G.length by omega]
    have hl : (G.take N).length = N := by rw [List.length_take]; omega
    rw [List.range_succ, List.filter_append, List.map_append, ih (by omega), hg]
    by_cases h1 : N < k
    · rw [List.take_of_length_le (show (G.take N).length ≤ k by omega), List.drop_of_length_le (show (G.take N).length ≤ k + 1 by omega), List.take_of_length_le (show (G.take N ++ [G.getD N d]).length ≤ k by rw [List.length_append, hl]; simp; omega), List.drop_of_length_le (show (G.take N ++ [G.getD N d]).length ≤ k + 1 by rw [List.length_append, hl]; simp; omega)]
      simp [show N ≠ k by omega]
    · by_cases h2 : N = k
      · subst h2
        rw [List.take_append_of_le_length (by omega), List.drop_of_length_le (show (G.take N ++ [G.getD N d]).length ≤ N + 1 by rw [List.length_append, hl]; simp), List.drop_of_length_le (show (G.take N).length ≤ N + 1 by omega)]
        simp
      · rw [List.take_append_of_le_length (by omega), List.drop_append_of_le_length (by omega)]
        simp [h2]
section
variable {n p mi : Nat} {G : List PG} {P : PG} {F : Nat → FD}
theorem rest_map {β : Type} (f : PG → β) (hlen : G.length + 1 = n) (hp : p < n) (hmp : mi ≠ p) (hF : ∀ m, m < n → m ≠ mi → f (F m).pg = f (onAt p G P m)) : (restL F mi p n).map f = ((restOf G (slotOf p mi)).map f).reverse := by
  have h1 : (restL F mi p n).map f = (((List.range n).filter fun m => decide (m ≠ mi ∧ m ≠ p)).map (slotOf p)).map fun i => f (G.getD i PG.nil) := by
    unfold restL
    rw [List.map_map, List.map_map]
    apply List.map_congr_left
    intro m hm
    have h2 := List.mem_filter.1 hm
    have h3 : m < n := List.mem_range.1 h2.1
    have h4 : m ≠ mi ∧ m ≠ p := by simpa using h2.2
    show f (F m).pg = f (G.getD (slotOf p m) PG.nil)
    rw [hF m h3 h4.1]
    unfold onAt
    rw [if_neg h4.2]
  rw [h1, slots_rest p mi hmp n, if_neg (by omega : ¬ n ≤ p)]
  have h5 := rest_take G PG.nil (slotOf p mi) (n - 1) (by omega)
  rw [show n - 1 = G.length by omega] at h5 ⊢
  rw [List.take_length] at h5
  unfold restOf
  rw [← List.map_reverse, List.reverse_reverse, ← h5, List.map_map]
  rfl
theorem xorL_turn (A : List (List Nat)) (x : List Nat) : xorL (A.reverse ++ [x]) = xorL (A ++ [x]) := by
  apply list_ext_getD
  · rw [xorL_len, xorL_len, lgL_append, lgL_append, lgL_reverse]
  · intro j
    rw [xorL_getD, xorL_getD, xatL_append, xatL_append, xatL_reverse]
variable (hlen : G.length + 1 = n) (hp : p < n) (hmi : mi < n) (hmp : mi ≠ p) (hF : ∀ m, m < n → m ≠ mi → (F m).d.l = (onAt p G P m).d.l ∧ (F m).o.l = (onAt p G P m).o.l)
include hlen hp hmp hF
theorem outD_rest : outD (F p).pg (restL F mi p n) = outD P (restOf G (slotOf p mi)) := by
  have h1 := rest_map (f := fun g => g.d.l) hlen hp hmp (fun m hm hn => (hF m hm hn).1)
  have h2 := (hF p hp (fun e => hmp e.symm)).1
  unfold onAt at h2
  rw [if_pos rfl] at h2
  unfold outD dsOf
  rw [h1, xorL_turn]
  show xorL (_ ++ [(F p).d.l]) = _
  rw [h2]
theorem outO_rest : outO (F p).pg (restL F mi p n) = outO P (restOf G (slotOf p mi)) := by
  have h1 := rest_map (f := fun g => g.o.l.take 32) hlen hp hmp (fun m hm hn => by show (F m).o.l.take 32 = _; rw [(hF m hm hn).2])
  have h2 := (hF p hp (fun e => hmp e.symm)).2
  unfold onAt at h2
  rw [if_pos rfl] at h2
  unfold outO hsOf
  rw [h1, xorL_turn]
  show xorL (_ ++ [(F p).o.l.drop 32]) ++ _ = _
  rw [h2]
variable {size : Nat} (hG : Sealed G size) {W : RH} (hd : P.d.l = xorL (dsOf G)) (ho : P.o.l = sealB W (xorL (dsOf G)) (xorL (hsOf G)))
include hmi hG hd ho
/-- The page made again. -/
theorem remade : outD (F p).pg (restL F mi p n) = (onAt p G P mi).d.l ∧ outO (F p).pg (restL F mi p n) = (onAt p G P mi).o.l ∧ OpenOk (outD (F p).pg (restL F mi p n)) (outO (F p).pg (restL F mi p n)) := by
  have hk : slotOf p mi < G.length := by unfold slotOf; split <;> omega
  rw [outD_rest hlen hp hmp hF, outO_rest hlen hp hmp hF]
  have e : onAt p G P mi = G.getD (slotOf p mi) PG.nil := by unfold onAt; rw [if_neg hmp]
  rw [e]
  exact ⟨back_d hG hk hd, back_o hG hk ho, back_ok hG hk hd ho⟩
end

end Go.Proofs.YthgcjiocelcblaaGreat

namespace Go.Proofs.YthgcjiocelcblaaGreat
open Go.RowKit Go.Deep

/-- A number of a case, modulo k. -/
def modN (k : Nat) (x : Int) : Nat := ((IntKind.u64.wrap x).tmod (k : Int)).toNat
theorem modN_eq (k : Nat) (x : Int) (h0 : 0 < k) (h1 : k ≤ 1000) : (IntKind.u64.wrap x).tmod (k : Int) = (modN k x : Int) ∧ modN k x < k := by
  have h2 : 0 ≤ IntKind.u64.wrap x := by rw [IntKind.wrap_u64]; omega
  have h3 : 0 ≤ (IntKind.u64.wrap x).tmod (k : Int) := Int.tmod_nonneg _ h2
  have h4 : (IntKind.u64.wrap x).tmod (k : Int) < (k : Int) := Int.tmod_lt_of_pos _ (by omega)
  unfold modN
  omega
/-- How many members. -/
def chipsOf (c : Int) : Nat := 3 + modN 5 c
theorem chips_eq (c : Int) : wrap64 (3 + wrap64 ((IntKind.u64.wrap c).tmod 5)) = (chipsOf c : Int) ∧ 3 ≤ chipsOf c ∧ chipsOf c ≤ 7 := by
  obtain ⟨h1, h2⟩ := modN_eq 5 c (by omega) (by omega)
  rw [show ((5 : Nat) : Int) = 5 from rfl] at h1
  have e1 : wrap64 ((IntKind.u64.wrap c).tmod 5) = (modN 5 c : Int) := by rw [h1]; exact IntWalk.wrap64_in _ (by omega)
  rw [e1]
  refine ⟨?_, by unfold chipsOf; omega, by unfold chipsOf; omega⟩
  rw [IntWalk.wrap64_in _ (by omega)]
  unfold chipsOf
  omega
theorem place_eq (k : Nat) (x : Int) (h0 : 0 < k) (h1 : k ≤ 1000) : wrap64 ((IntKind.u64.wrap x).tmod (k : Int)) = (modN k x : Int) := by
  obtain ⟨h2, h3⟩ := modN_eq k x h0 h1
  rw [h2]
  exact IntWalk.wrap64_in _ (by omega)
theorem case_geo (c : Int) : GoodG (chipsOf c) 20 6 256 := by
  have := chips_eq c
  unfold GoodG
  omega
/-- Which member a number means; -1: none. -/
def memC (n : Nat) (x : Int) : Int := if x < 0 then -1 else x.tmod (n : Int)
theorem memC_bd (n : Nat) (x : Int) (h : 0 < n) : -1 ≤ memC n x ∧ memC n x < (n : Int) := by
  unfold memC
  split
  · omega
  · have h1 := Int.tmod_nonneg (n : Int) (show 0 ≤ x by omega)
    have h2 := Int.tmod_lt_of_pos x (show 0 < (n : Int) by omega)
    omega
end Go.Proofs.YthgcjiocelcblaaGreat

namespace Go.Proofs.YthgcjiocelcblaaGreat
open Go.RowKit Go.Deep

def SP.cl (p : SP) : List Value := [.int .u8 (p.h.ki : Int), .int .u32 (p.h.ep : Int), .int .u32 (p.h.ba : Int), .int .u16 (p.h.ix : Int), .int .u16 (p.h.ct : Int), .int .u32 (p.h.bl : Int), .int .u32 (p.h.mo : Int), .slice p.d.a p.d.n p.d.c]
def OwnSP (B : Nat) (w : World) (sv : Value) (L : List SP) : Prop := w.ownsRow B 95 8 sv L.length (L.flatMap SP.cl)
theorem ownSP_nil (B : Nat) (w : World) : OwnSP B w (.slice none 0 0) [] := World.ownsRow_nil w B _ 8
theorem OwnSP.below {B : Nat} {w w' : World} {sv : Value} {L : List SP} (h : OwnSP B w sv L) (hb : Below w.heap.size w w') : OwnSP B w' sv L :=
  h.kept (row := none) ⟨hb.os, hb.tape, hb.output, hb.size, fun b hb' _ => hb.block b hb'⟩ (by cases hv : sv.ownBlock <;> simp)
theorem flatSP_len (L : List SP) : (L.flatMap SP.cl).length = L.length * 8 := by
  induction L with
  | nil => rfl
  | cons g G ih => rw [List.flatMap_cons, List.length_append, ih, List.length_cons]; simp [SP.cl]; omega
theorem flatSP_at (L : List SP) (i j : Nat) (hi : i < L.length) (hj : j < 8) : (L.flatMap SP.cl)[i * 8 + j]? = (L.getD i SP.nil).cl[j]? := by
  induction L generalizing i with
  | nil => simp at hi
  | cons g G ih =>
    cases i with
    | zero =>
      rw [List.flatMap_cons, List.getElem?_append_left (by simp [SP.cl]; omega)]
      simp
    | succ i =>
      have hi' : i < G.length := by simpa using hi
      rw [List.flatMap_cons, List.getElem?_append_right (by simp [SP.cl]; omega)]
      have e1 : (i + 1) * 8 + j - g.cl.length = i * 8 + j := by simp [SP.cl]; omega
      rw [e1, ih i hi']
      simp [List.getD]
theorem cellsSP_own {B : Nat} {w : World} {sv : Value} {L : List SP} (h : OwnSP B w sv L) : ∃ a cap, sv = .slice a L.length cap ∧ CellsSP w a L := by
  have h' := h
  rcases h.2 with ⟨rfl, h0⟩ | ⟨g, cap, cur, rfl, _, _, hc, hm, _⟩
  · exact ⟨none, 0, by rw [h0], fun h1 => by omega⟩
  · refine ⟨_, cap, rfl, fun _ => ⟨g, 0, rfl, fun i hi => ?_⟩⟩
    have key : ∀ j, j < 8 → w.cell? ⟨g, 0 + i * 8 + j, none⟩ = (L.getD i SP.nil).cl[j]? := fun j hj => by
      rw [Nat.zero_add, h'.cellAt (i * 8 + j) (by omega)]
      exact flatSP_at L i j hi hj
    refine ⟨?_, ?_, ?_, ?_, ?_, ?_, ?_, ?_⟩
    · exact key 0 (by omega)
    · exact key 1 (by omega)
    · exact key 2 (by omega)
    · exact key 3 (by omega)
    · exact key 4 (by omega)
    · exact key 5 (by omega)
    · exact key 6 (by omega)
    · exact key 7 (by omega)
/-- What append onto sv leaves. -/
structure ApdSP (B : Nat) (w : World) (sv : Value) (L : List SP) (sv' : Value) (w' : World) : Prop where
  own : OwnSP B w' sv' L
  grown : w.grownBy w' sv.ownBlock
  where_ : sv'.ownBlock = sv.ownBlock ∨ sv'.ownBlock = some w.heap.size
  below : Below B w w'
/-- One page, laid in a block of its own, is appended. -/
theorem wpList_appSP {w : World} {ops : Array Oper} {rest : List Oper} {o : Oper} {a : Act} {Q : Exit → Act → World → Prop} (TL : TypeId) (hu : Tryz.prog.underlying TL = some (.slice 95))
    (hinfo : (Tryz.prog.info? 95).map (fun i => (i.zero, i.size, i.bytes)) = some (some (.agg #[.int .u8 0, .int .u32 0, .int .u32 0, .int .u16 0, .int .u16 0, .int .u32 0, .int .u32 0, .slice none 0 0]), 8, 48)) (hgd : o.guard = none) (s x : Operand)
    (ho : o.op = .call { callee := .builtin .append, args := #[s, x], argTypes := #[TL, TL] })
    (B : Nat) (sv : Value) (L : List SP) (hs : a.eval s = sv) (hown : OwnSP B w sv L) (b : Nat) (c : Nat) (p : SP) (hx : a.eval x = .slice (some ⟨b, 0, none⟩) 1 c)
    (hc : SPat p b 0 w) (hB : B ≤ w.heap.size) (hlen : L.length ≤ 1000000)
    (h : ∀ v' w', ApdSP B w sv (L ++ [p]) v' w' → wpList Tryz.prog ops Q rest (a.put o.dst v') w') : wpList Tryz.prog ops Q (o :: rest) a w := by
  obtain ⟨i0, hi, hz0, hz1, hz2⟩ := info_parts hinfo
  refine wpList_append_own_at w hgd s x TL ho B 95 i0 _ 8 48 hu hi hz0 hz1 hz2 rfl (by decide) sv _ _ hs hown ⟨b, 0, none⟩ 1 c p.cl hx rfl ?_ ?_ (by unfold maxLen; omega) (by omega) hB ?_
  · intro j u hj
    obtain ⟨c0, c1, c2, c3, c4, c5, c6, c7⟩ := hc
    have hj8 : j < 8 := by
      rcases Nat.lt_or_ge j 8 with h | h
      · exact h
      · rw [List.getElem?_eq_none (by simpa [SP.cl] using h)] at hj; cases hj
    rcases (show j = 0 ∨ j = 1 ∨ j = 2 ∨ j = 3 ∨ j = 4 ∨ j = 5 ∨ j = 6 ∨ j = 7 by omega) with rfl | rfl | rfl | rfl | rfl | rfl | rfl | rfl <;>
      (simp only [SP.cl, List.getElem?_cons_succ, List.getElem?_cons_zero, Option.some.injEq] at hj; subst hj)
    · simpa [Addr.add] using c0
    · simpa [Addr.add] using c1
    · simpa [Addr.add] using c2
    · simpa [Addr.add] using c3
    · simpa [Addr.add] using c4
    · simpa [Addr.add] using c5
    · simpa [Addr.add] using c6
    · simpa [Addr.add] using c7
  · intro u hu
    simp only [SP.cl, List.mem_cons, List.not_mem_nil, or_false] at hu
    rcases hu with rfl | rfl | rfl | rfl | rfl | rfl | rfl | rfl <;> rfl
  · intro v' w' h2 h3 _ h5
    refine h v' w' ⟨?_, h3, h5, (Below.refl B w).grown h3 hB (fun k hk => (hown.lt k hk).1)⟩
    unfold OwnSP
    rw [List.flatMap_append, List.length_append]
    simpa using h2
theorem info_sp : (Tryz.prog.info? 95).map (fun i => (i.zero, i.size, i.bytes)) = some (some (.agg #[.int .u8 0, .int .u32 0, .int .u32 0, .int .u16 0, .int .u16 0, .int .u32 0, .int .u32 0, .slice none 0 0]), 8, 48) := by kernel_rfl
end Go.Proofs.YthgcjiocelcblaaGreat

namespace Go.Proofs.YthgcjiocelcblaaGreat
open Go.RowKit Go.Deep

/-- The header of page i. -/
def hdrAt (HL : List RH) (i : Nat) : RH := if i < HL.length then { HL.getD i RH.zero with ki := 1 + (HL.getD i RH.zero).ki % 6 } else ⟨4, 0, 0, 0, 0, i, 0⟩
/-- Byte j of page i. -/
def bytAt (FL : List Nat) (i j : Nat) : Nat := (j * (i + 1) % 256 + FL.getD i 0) % 256
/-- The bytes of page i, as far as k. -/
def datTo (FL : List Nat) (i k : Nat) : List Nat := (List.range 256).map fun j => if j < k then bytAt FL i j else 0
theorem datTo_len (FL : List Nat) (i k : Nat) : (datTo FL i k).length = 256 := by simp [datTo]
theorem datTo_zero (FL : List Nat) (i : Nat) : datTo FL i 0 = List.replicate 256 0 := by
  unfold datTo
  rw [show (fun j => if j < 0 then bytAt FL i j else 0) = fun _ => 0 from by funext j; rw [if_neg (Nat.not_lt_zero _)], List.map_const']
  simp
theorem datTo_set (FL : List Nat) (i k : Nat) (hk : k < 256) : (datTo FL i k).set k (bytAt FL i k) = datTo FL i (k + 1) := by
  apply list_ext_getD
  · rw [List.length_set, datTo_len, datTo_len]
  · intro j
    by_cases hj : j < 256
    · by_cases h : k = j
      · subst h
        simp [datTo, List.getD, hk]
      · have e : (j < k + 1) = (j < k) := by apply propext; omega
        simp [datTo, List.getD, h, hj, e]
    · simp [datTo, List.getD, show ¬ j < 256 from hj]
theorem datTo_lt (FL : List Nat) (i k : Nat) : ∀ x ∈ datTo FL i k, x < 256 := by
  intro x hx
  unfold datTo at hx
  rw [List.mem_map] at hx
  obtain ⟨j, _, rfl⟩ := hx
  split
  · unfold bytAt; omega
  · omega
theorem byt_wrap (k i : Nat) (hk : k < 256) (hi : i ≤ 6) : wrap64 ((k : Int) * ((i : Int) + 1)) % 256 = ((k * (i + 1) % 256 : Nat) : Int) := by
  have h : k * (i + 1) ≤ 255 * 7 := Nat.mul_le_mul (by omega) (by omega)
  have e : (k : Int) * ((i : Int) + 1) = ((k * (i + 1) : Nat) : Int) := by simp
  rw [e]
  generalize k * (i + 1) = z at h ⊢
  rw [IntWalk.wrap64_in _ (by omega)]
  omega
theorem byt_none (FL : List Nat) (k i : Nat) (h : FL.length ≤ i) : bytAt FL i k = k * (i + 1) % 256 := by
  unfold bytAt
  have e : FL.getD i 0 = 0 := by simp [List.getD, List.getElem?_eq_none h]
  rw [e, Nat.add_zero, Nat.mod_mod]
theorem byt_add (FL : List Nat) (i k y f : Nat) (hy : y = k * (i + 1) % 256) (hf : f = FL.getD i 0) : IntKind.u8.wrap ((y : Int) + (f : Int)) = ((bytAt FL i k : Nat) : Int) := by
  unfold bytAt
  rw [← hy, ← hf, IntKind.wrap_u8]
  omega
theorem set_getD (l : List Nat) (k y : Nat) (h : k < l.length) : (l.set k y).getD k 0 = y := by simp [List.getD, h]
theorem hdr7_at {W : World} {b : Nat} {v0 v1 v2 v3 v4 v5 v6 : Value} {t : TypeId} (h : W.heap[b]? = some (.cells #[v0, v1, v2, v3, v4, v5, v6] t (0, 0))) :
    W.cell? ⟨b, 0, none⟩ = some v0 ∧ W.cell? ⟨b, 1, none⟩ = some v1 ∧ W.cell? ⟨b, 2, none⟩ = some v2 ∧ W.cell? ⟨b, 3, none⟩ = some v3 ∧ W.cell? ⟨b, 4, none⟩ = some v4 ∧ W.cell? ⟨b, 5, none⟩ = some v5 ∧ W.cell? ⟨b, 6, none⟩ = some v6 := by
  simp [World.cell?, h]
theorem hdr_put {W : World} {b : Nat} {u0 u1 u2 u3 u4 u5 u6 : Value} (v0 v1 v2 v3 v4 v5 v6 v7 : Value) {t : TypeId} (h : W.heap[b]? = some (.cells #[u0, u1, u2, u3, u4, u5, u6] t (0, 0))) :
    ((((((((W.setCell ⟨b, 0, none⟩ v0).setCell ⟨b, 1, none⟩ v1).setCell ⟨b, 2, none⟩ v2).setCell ⟨b, 3, none⟩ v3).setCell ⟨b, 4, none⟩ v4).setCell ⟨b, 5, none⟩ v5).setCell ⟨b, 6, none⟩ v6).setCell ⟨b, 0, none⟩ v7).heap[b]? = some (.cells #[v7, v1, v2, v3, v4, v5, v6] t (0, 0)) := by
  have h0 := heap_setCell_same W b 0 _ _ v0 h
  have h1 := heap_setCell_same _ b 1 _ _ v1 h0
  have h2 := heap_setCell_same _ b 2 _ _ v2 h1
  have h3 := heap_setCell_same _ b 3 _ _ v3 h2
  have h4 := heap_setCell_same _ b 4 _ _ v4 h3
  have h5 := heap_setCell_same _ b 5 _ _ v5 h4
  have h6 := heap_setCell_same _ b 6 _ _ v6 h5
  have h7 := heap_setCell_same _ b 0 _ _ v7 h6
  simpa using h7
/-- Pages, one behind the other, that were made. -/
def GotP (sz : Nat) (q : Nat → List Nat × RH) (B m : Nat) (sv : Value) (L : List SP) (w : World) : Prop :=
  OwnSP B w sv L ∧ L.length = m ∧ ∀ j, j < m → (L.getD j SP.nil).h = (q j).2 ∧ (L.getD j SP.nil).d.l = (q j).1 ∧ PartOk w (L.getD j SP.nil).d ∧ (L.getD j SP.nil).d.n = sz ∧ Far B (L.getD j SP.nil).d ∧ ∀ x, (L.getD j SP.nil).d.a = some x → some x.block ≠ sv.ownBlock
theorem GotP.step {sz : Nat} {q : Nat → List Nat × RH} {B m : Nat} {sv : Value} {L : List SP} {w w' : World} (h : GotP sz q B m sv L w) (hb : Below w.heap.size w w') : GotP sz q B m sv L w' := by
  refine ⟨h.1.below hb, h.2.1, fun j hj => ?_⟩
  obtain ⟨h2, h3, h4, h5, h6, h7⟩ := h.2.2 j hj
  exact ⟨h2, h3, h4.step hb, h5, h6, h7⟩
theorem gp_left {α : Type} (L M : List α) (d : α) (j : Nat) (h : j < L.length) : (L ++ M).getD j d = L.getD j d := by
  simp [List.getD, List.getElem?_append_left h]
theorem gp_last {α : Type} (L : List α) (x d : α) : (L ++ [x]).getD L.length d = x := by
  simp [List.getD]
theorem GotP.more {sz : Nat} {q : Nat → List Nat × RH} {B k : Nat} {sv sv' : Value} {L : List SP} {w w' : World} {p : SP} (h : GotP sz q B k sv L w) (hs : 0 < sz) (ho : ApdSP B w sv (L ++ [p]) sv' w') (hq : q k = (p.d.l, p.h)) (hp : PartOk w p.d) (hn : p.d.n = sz) (hf : Far B p.d) (hx : ∀ x, p.d.a = some x → some x.block ≠ sv.ownBlock) : GotP sz q B (k + 1) sv' (L ++ [p]) w' := by
  have key : ∀ d : PS, PartOk w d → d.n = sz → (∀ x, d.a = some x → some x.block ≠ sv.ownBlock) → PartOk w' d ∧ ∀ x, d.a = some x → some x.block ≠ sv'.ownBlock := by
    intro d d1 d2 d3
    refine ⟨d1.at_ fun h0 x hx => ho.grown.block x.block (d1.lt h0 x hx) (d3 x hx), fun x hx => ?_⟩
    rcases ho.where_ with e | e
    · rw [e]; exact d3 x hx
    · rw [e]
      have := d1.lt (by omega) x hx
      intro c
      have c2 : x.block = w.heap.size := by simpa using c
      omega
  refine ⟨ho.own, by rw [List.length_append, h.2.1]; rfl, fun j hj => ?_⟩
  by_cases e : j = k
  · rw [e, ← h.2.1, gp_last, h.2.1, hq]
    exact ⟨rfl, rfl, (key _ hp hn hx).1, hn, hf, (key _ hp hn hx).2⟩
  · rw [gp_left _ _ _ _ (by rw [h.2.1]; omega)]
    obtain ⟨h2, h3, h4, h5, h6, h7⟩ := h.2.2 j (by omega)
    exact ⟨h2, h3, (key _ h4 h5 h7).1, h5, h6, (key _ h4 h5 h7).2⟩
theorem ownSP_apart {B : Nat} {w : World} {sv : Value} {L : List SP} (h : OwnSP B w sv L) {g : Nat} (hg : w.heap.size ≤ g) : ∀ x, (some ⟨g, 0, none⟩ : Option Addr) = some x → some x.block ≠ sv.ownBlock := fun x hx c => by
  cases hx
  have h1 := (h.lt g c.symm).2
  omega
theorem ownSP_mono {B B' : Nat} {w : World} {sv : Value} {L : List SP} (h : OwnSP B w sv L) (hB : B' ≤ B) : OwnSP B' w sv L := by
  refine ⟨h.1, ?_⟩
  rcases h.2 with h0 | ⟨g, cap, cur, h1, h2, h3⟩
  · exact .inl h0
  · exact .inr ⟨g, cap, cur, h1, Nat.le_trans hB h2, h3⟩
/-- What page i is. -/
def pgAt (HL : List RH) (FL : List Nat) (i : Nat) : List Nat × RH := (datTo FL i 256, hdrAt HL i)
theorem hdrAt_fits (HL : List RH) (i : Nat) (h : ∀ h ∈ HL, h.Fits) (hi : i ≤ 1000) : (hdrAt HL i).Fits := by
  unfold hdrAt
  split
  · rename_i hl
    have f := h (HL.getD i RH.zero) (by simp [List.getD, hl])
    exact ⟨by show 1 + (HL.getD i RH.zero).ki % 6 < 256; omega, f.ep, f.ba, f.ix, f.ct, f.bl, f.mo⟩
  · exact ⟨by show 4 < 256; omega, by show 0 < 4294967296; omega, by show 0 < 4294967296; omega, by show 0 < 65536; omega, by show 0 < 65536; omega, by show i < 4294967296; omega, by show 0 < 4294967296; omega⟩
def CasePRet (c : Int) (HL : List RH) (FL : List Nat) (w : World) (e : Ending) (x : World) : Prop :=
  ∃ sv L, e = .returned sv ∧ GotP 256 (pgAt HL FL) w.heap.size (chipsOf c - 1) sv L x ∧ Below w.heap.size w x
end Go.Proofs.YthgcjiocelcblaaGreat

namespace Go.Proofs.YthgcjiocelcblaaGreat
open Go.RowKit Go.Deep

/-- Members that hold nothing. -/
def rsNew (rb pb gb n bl pg sz : Nat) : RS := ⟨rb, pb, gb, n, bl, pg, sz, fun _ => none, fun _ => 0, -1, .slice none 0 0, []⟩
def NewRet (n bl pg sz : Nat) (w : World) (e : Ending) (w' : World) : Prop :=
  ∃ rb pb gb, e = .returned (.pointer (some ⟨rb, 0, none⟩)) ∧ Ram w.heap.size (rsNew rb pb gb n bl pg sz) w' ∧ Below w.heap.size w w'
theorem ramNew_ok (n bl pg sz : Nat) (w : World) (hg : GoodG n bl pg sz) :
    Ram w.heap.size (rsNew (w.heap.size + 1 + 1 + 1) (w.heap.size + 1) (w.heap.size + 1 + 1) n bl pg sz) ((((w.alloc (.cells #[.int .i64 (n : Int), .int .i64 (bl : Int), .int .i64 (pg : Int), .int .i64 (sz : Int)] 49)).alloc (.map #[] 0)).alloc (.map #[] 0)).alloc (.cells #[.int .i64 (n : Int), .int .i64 (bl : Int), .int .i64 (pg : Int), .int .i64 (sz : Int), .map (some (w.heap.size + 1)), .map (some (w.heap.size + 1 + 1)), .int .i64 (-1), .slice none 0 0] 58)) ∧ Below w.heap.size w ((((w.alloc (.cells #[.int .i64 (n : Int), .int .i64 (bl : Int), .int .i64 (pg : Int), .int .i64 (sz : Int)] 49)).alloc (.map #[] 0)).alloc (.map #[] 0)).alloc (.cells #[.int .i64 (n : Int), .int .i64 (bl : Int), .int .i64 (pg : Int), .int .i64 (sz : Int), .map (some (w.heap.size + 1)), .map (some (w.heap.size + 1 + 1)), .int .i64 (-1), .slice none 0 0] 58)) := by
  obtain ⟨w1, h1⟩ : ∃ x, x = w.alloc (.cells #[.int .i64 (n : Int), .int .i64 (bl : Int), .int .i64 (pg : Int), .int .i64 (sz : Int)] 49) := ⟨_, rfl⟩
  have s1 : w1.heap.size = w.heap.size + 1 := by rw [h1]; simp
  have b1 : Below w.heap.size w w1 := by rw [h1]; exact bel_alloc (Below.refl _ w) _
  rw [← h1]
  obtain ⟨w2, h2⟩ : ∃ x, x = w1.alloc (.map #[] 0) := ⟨_, rfl⟩
  have s2 : w2.heap.size = w.heap.size + 1 + 1 := by rw [h2]; simp [s1]
  have m2 : MapF ok3 kv3 (w.heap.size + 1) (fun _ => none) w2 := by rw [h2, ← s1]; exact mapF_new w1
  have b2 : Below w.heap.size w w2 := by rw [h2]; exact bel_alloc b1 _
  rw [← h2]
  obtain ⟨w3, h3⟩ : ∃ x, x = w2.alloc (.map #[] 0) := ⟨_, rfl⟩
  have s3 : w3.heap.size = w.heap.size + 1 + 1 + 1 := by rw [h3]; simp [s2]
  have m3 : MapF ok1 kv1 (w.heap.size + 1 + 1) (fun _ => none) w3 := by rw [h3, ← s2]; exact mapF_new w2
  have n3 : w3.heap[w.heap.size + 1]? = w2.heap[w.heap.size + 1]? := by rw [h3]; exact heap_alloc_old' (show w.heap.size + 1 < w2.heap.size by omega) _
  have b3 : Below w.heap.size w w3 := by rw [h3]; exact bel_alloc b2 _
  rw [← h3]
  obtain ⟨w4, h4⟩ : ∃ x, x = w3.alloc (.cells #[.int .i64 (n : Int), .int .i64 (bl : Int), .int .i64 (pg : Int), .int .i64 (sz : Int), .map (some (w.heap.size + 1)), .map (some (w.heap.size + 1 + 1)), .int .i64 (-1), .slice none 0 0] 58) := ⟨_, rfl⟩
  have x4 := heap_alloc_new w3 (.cells #[.int .i64 (n : Int), .int .i64 (bl : Int), .int .i64 (pg : Int), .int .i64 (sz : Int), .map (some (w.heap.size + 1)), .map (some (w.heap.size + 1 + 1)), .int .i64 (-1), .slice none 0 0] 58)
  rw [← h4, s3] at x4
  have n4 : w4.heap[w.heap.size + 1]? = w3.heap[w.heap.size + 1]? := by rw [h4]; exact heap_alloc_old' (show w.heap.size + 1 < w3.heap.size by omega) _
  have n5 : w4.heap[w.heap.size + 1 + 1]? = w3.heap[w.heap.size + 1 + 1]? := by rw [h4]; exact heap_alloc_old' (show w.heap.size + 1 + 1 < w3.heap.size by omega) _
  have b4 : Below w.heap.size w w4 := by rw [h4]; exact bel_alloc b3 _
  rw [← h4]
  clear h1 h2 h3 h4
  have e1 : (rsNew (w.heap.size + 1 + 1 + 1) (w.heap.size + 1) (w.heap.size + 1 + 1) n bl pg sz).pageV = fun _ => none := rfl
  have e2 : (rsNew (w.heap.size + 1 + 1 + 1) (w.heap.size + 1) (w.heap.size + 1 + 1) n bl pg sz).goneV = fun _ => none := by funext m; rfl
  refine ⟨⟨x4, ⟨by show _ ≤ w.heap.size + 1 + 1 + 1; omega, by show _ ≤ w.heap.size + 1; omega, by show _ ≤ w.heap.size + 1 + 1; omega⟩, ?_, ?_, fun k p hk hF => (by cases hF), ⟨rfl, .inl ⟨rfl, rfl⟩⟩, ⟨by show w.heap.size + 1 + 1 + 1 ≠ w.heap.size + 1; omega, by show w.heap.size + 1 + 1 + 1 ≠ w.heap.size + 1 + 1; omega, by show w.heap.size + 1 ≠ w.heap.size + 1 + 1; omega, (by intro h; cases h), (by intro h; cases h), (by intro h; cases h)⟩, hg⟩, b4⟩
  · rw [e1]; exact (m2.same n3).same n4
  · rw [e2]; exact m3.same n5
set_option maxRecDepth 100000 in
theorem ramNew_any (n bl pg sz : Nat) (w : World) (hg : GoodG n bl pg sz) :
    Calls Tryz.prog 20 #[.agg #[.int .i64 (n : Int), .int .i64 (bl : Int), .int .i64 (pg : Int), .int .i64 (sz : Int)]] w (NewRet n bl pg sz w) := by
  have HG := Lib.hid hg
  clear hg
  have hm1 : ∀ w, (Instr.makeMap 54 none).run Tryz.prog w = .ok (.map (some w.heap.size)) (w.alloc (.map #[] 0)) := fun w => by simp [Instr.makeMap]
  have hm2 : ∀ w, (Instr.makeMap 55 none).run Tryz.prog w = .ok (.map (some w.heap.size)) (w.alloc (.map #[] 0)) := fun w => by simp [Instr.makeMap]
  go_enter Tryz.func20, Tryz.ntmps20
  go_wp2
  refine bodyPost_ret (v := .pointer (some ⟨w.heap.size + 1 + 1 + 1, 0, none⟩)) (by simp [results, Tryz.results20, go_sem]) rfl ?_
  exact ⟨_, _, _, rfl, (ramNew_ok n bl pg sz w HG.out).1, (ramNew_ok n bl pg sz w HG.out).2⟩
end Go.Proofs.YthgcjiocelcblaaGreat

namespace Go.Proofs.YthgcjiocelcblaaGreat
open Go.RowKit Go.Deep

end Go.Proofs.YthgcjiocelcblaaGreat
