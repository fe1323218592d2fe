/- A slice of ints (of either sign) of the call's own; a set's five cells. -/
import Derived.Test.YtdljihemnfpkaaaMemP
import Derived.Test.YtdljihemnfpkaaaShelf
import Derived.Test.YtdljihemnfpkaaaGeoRef
import Derived.Test.YtdljihemnfpkaaaRHdr
namespace Go.Proofs.Ytdljihemnfpkaaa
open Go.RowKit Go.Deep

/-- A slice of ints that is read. -/
def RowI (w : World) (a : Option Addr) (len cap : Nat) (zs : List Int) : Prop :=
  zs.length = len ∧ len ≤ cap ∧ cap ≤ maxLen ∧ (a = none → cap = 0) ∧ (∀ z ∈ zs, -9223372036854775808 ≤ z ∧ z ≤ 9223372036854775807) ∧ (0 < len → ∃ b off, a = some ⟨b, off, none⟩ ∧ ∀ i, i < len → w.cell? ⟨b, off + i, none⟩ = some (.int .i64 (zs.getD i 0)))
theorem rowI_below {w w' : World} {a : Option Addr} {len cap : Nat} {zs : List Int} (h : RowI w a len cap zs) (hb : Below w.heap.size w w') : RowI w' a len cap zs := by
  obtain ⟨h1, h2, h3, h4, h5, h6⟩ := h
  refine ⟨h1, h2, h3, h4, h5, fun h0 => ?_⟩
  obtain ⟨b, off, e, hc⟩ := h6 h0
  exact ⟨b, off, e, fun i hi => cell_step (hc i hi) hb⟩
theorem rowI_at {w : World} {a : Option Addr} {len cap k : Nat} {zs : List Int} (h : RowI w a len cap zs) (hk : k < len) :
    ∃ b off, a = some ⟨b, off, none⟩ ∧ w.cell? ⟨b, off + k, none⟩ = some (.int .i64 (zs.getD k 0)) ∧ -9223372036854775808 ≤ zs.getD k 0 ∧ zs.getD k 0 ≤ 9223372036854775807 := by
  obtain ⟨h1, h2, h3, h4, h5, h6⟩ := h
  obtain ⟨b, off, e, hc⟩ := h6 (by omega)
  have hm : zs.getD k 0 ∈ zs := by simp [List.getD, show k < zs.length by omega]
  exact ⟨b, off, e, hc k hk, h5 _ hm⟩
def valz (l : List Int) : List Value := l.map (Value.int .i64)
def OwnI (B : Nat) (w : World) (v : Value) (l : List Int) : Prop := w.ownsRow B 3 1 v l.length (valz l)
theorem wpList_appV {w : World} {ops : Array Oper} {rest : List Oper} {o : Oper} {a : Act} {Q : Exit → Act → World → Prop} (hgd : o.guard = none) (s x : Operand)
    (ho : o.op = .call { callee := .builtin .append, args := #[s, x], argTypes := #[29, 29] })
    (B : Nat) (sv : Value) (xs : List Int) (hs : a.eval s = sv) (hown : OwnI B w sv xs) (ad : Addr) (y : Int) (c : Nat) (hx : a.eval x = .slice (some ad) 1 c)
    (hc : w.cell? ad = some (.int .i64 y)) (hB : B ≤ w.heap.size) (hlen : xs.length ≤ 1000000)
    (h : ∀ v' w', OwnI B w' v' (xs ++ [y]) → w.grownBy w' sv.ownBlock → (v'.ownBlock = sv.ownBlock ∨ v'.ownBlock = some w.heap.size) → Below B w w' → wpList Try.prog ops Q rest (a.put o.dst v') w') : wpList Try.prog ops Q (o :: rest) a w := by
  obtain ⟨i0, hi, hz0, hz1, hz2⟩ := info_parts info_int2
  refine wpList_append_own_at w hgd s x 29 ho B 3 i0 (.int .i64 0) 1 8 Try.underlying29 hi hz0 hz1 hz2 rfl (by decide) sv _ _ hs hown ad 1 c (valz [y]) hx (by simp [valz]) ?_ ?_ (by unfold maxLen; omega) (by omega) hB ?_
  · intro j u hj
    have hj0 : j = 0 := by
      rcases Nat.eq_zero_or_pos j with h | h
      · exact h
      · rw [List.getElem?_eq_none (by simp [valz]; omega)] at hj; cases hj
    subst hj0
    simp [valz] at hj
    subst hj
    simpa [Addr.add] using hc
  · intro u hu
    simp [valz] at hu
    subst hu; rfl
  · intro v' w' h2 h3 _ h5
    refine h v' w' ?_ h3 h5 ((Below.refl B w).grown h3 hB (fun k hk => (hown.lt k hk).1))
    unfold OwnI
    have e : valz (xs ++ [y]) = valz xs ++ valz [y] := by simp [valz]
    rw [e, List.length_append]
    exact h2
theorem ownI_nil (B : Nat) (w : World) : OwnI B w (.slice none 0 0) [] := World.ownsRow_nil w B _ 1
theorem ownI_below {B : Nat} {w w' : World} {sv : Value} {L : List Int} (h : OwnI B w sv L) (hb : Below w.heap.size w w') : OwnI B w' sv L :=
  h.kept (row := none) ⟨hb.os, hb.tape, hb.output, hb.size, fun b hb' _ => hb.block b hb'⟩ (by cases hv : sv.ownBlock <;> simp)
theorem ownI_mono {B B' : Nat} {w : World} {v : Value} {l : List Int} (h : OwnI B w v l) (hb : B' ≤ B) : OwnI B' w v l := by
  refine ⟨h.1, ?_⟩
  rcases h.2 with h0 | ⟨g, c, cur, h1, h2, h3⟩
  · exact .inl h0
  · exact .inr ⟨g, c, cur, h1, Nat.le_trans hb h2, h3⟩
/-- What a slice of the call's own reads as. -/
theorem ownI_row {B : Nat} {w : World} {sv : Value} {L : List Int} (h : OwnI B w sv L) (hz : ∀ z ∈ L, -9223372036854775808 ≤ z ∧ z ≤ 9223372036854775807) :
    ∃ a c, sv = .slice a L.length c ∧ RowI w a L.length c L ∧ ∀ q, a = some q → B ≤ q.block := by
  have h' := h
  rcases h.2 with ⟨e, h0⟩ | ⟨g, c, cur, e, hg, hbk, hkc, hcm, hcs, hct⟩
  · have hgg : ∀ q, (none : Option Addr) = some q → B ≤ q.block := by intro q hq; cases hq
    exact ⟨none, 0, by rw [e, h0], ⟨rfl, by omega, by omega, fun _ => rfl, hz, fun h1 => by omega⟩, hgg⟩
  · have hnn : some (⟨g, 0, none⟩ : Addr) = none → c = 0 := by intro hq; cases hq
    have hgg : ∀ q, some (⟨g, 0, none⟩ : Addr) = some q → B ≤ q.block := by intro q hq; cases hq; exact hg
    refine ⟨_, c, e, ⟨rfl, hkc, hcm, hnn, hz, fun h1 => ⟨g, 0, rfl, fun i hi => ?_⟩⟩, hgg⟩
    subst e
    rw [Nat.zero_add, h'.cellAt i (by omega)]
    simp [valz, List.getD, hi]
/-- A set. -/
structure MSet where
  sq : Nat
  a : Option Addr
  n : Nat
  c : Nat
  sp : Int
  de : Int
  dn : Int
  L : List Int
def MSet.cl (s : MSet) : Array Value := #[.int .u32 (s.sq : Int), .slice s.a s.n s.c, .int .i64 s.sp, .int .i64 s.de, .int .i64 s.dn]
structure MSetOk (w : World) (s : MSet) : Prop where
  row : RowI w s.a s.n s.c s.L
  sq : s.sq < 4294967296
  sp : In64 s.sp
  de : In64 s.de
  dn : In64 s.dn
theorem MSetOk.step {x y : World} {s : MSet} (h : MSetOk x s) (hb : Below x.heap.size x y) : MSetOk y s := ⟨rowI_below h.row hb, h.sq, h.sp, h.de, h.dn⟩
theorem mfree_at {W : World} {b : Nat} {cs : Array Value} {t : TypeId} (h : W.heap[b]? = some (.cells cs t (0, 0))) (o : Nat) : W.frozen? ⟨b, o, none⟩ = false := by
  simp [World.frozen?, h]
theorem heap_alloc_oldm {w : World} {o : Obj} {b : Nat} (h : b < w.heap.size) : (w.alloc o).heap[b]? = w.heap[b]? := by
  have := (bel_alloc (Below.refl _ w) o).block b h
  exact this
theorem mbel_drewN (w : World) (n : Nat) : Below w.heap.size w (w.drewN n) := ⟨rfl, rfl, rfl, Nat.le_refl _, fun _ _ => rfl⟩
theorem mfour_at {W : World} {b : Nat} {v0 v1 v2 v3 : Value} {t : TypeId} (h : W.heap[b]? = some (.cells #[v0, v1, v2, v3] t (0, 0))) :
    W.cell? ⟨b, 0, none⟩ = some v0 ∧ W.cell? ⟨b, 1, none⟩ = some v1 ∧ W.cell? ⟨b, 2, none⟩ = some v2 ∧ W.cell? ⟨b, 3, none⟩ = some v3 := by
  simp [World.cell?, h]
theorem five_at {W : World} {b : Nat} {v0 v1 v2 v3 v4 : Value} {t : TypeId} (h : W.heap[b]? = some (.cells #[v0, v1, v2, v3, v4] t (0, 0))) :
    W.cell? ⟨b, 0, none⟩ = some v0 ∧ W.cell? ⟨b, 1, none⟩ = some v1 ∧ W.cell? ⟨b, 2, none⟩ = some v2 ∧ W.cell? ⟨b, 3, none⟩ = some v3 ∧ W.cell? ⟨b, 4, none⟩ = some v4 := by
  simp [World.cell?, h]
/-- slices.Clone of ints. -/
theorem cloneI_any (a : Option Addr) (n c : Nat) (L : List Int) (w : World) (h : RowI w a n c L) (hl : n ≤ 1000) :
    Calls Try.prog 52 #[.slice a n c] w fun e w' => ∃ v', e = .returned v' ∧ OwnI w.heap.size w' v' L ∧ Below w.heap.size w w' := by
  obtain ⟨h1, h2, h3, h4, h5, h6⟩ := h
  rcases Nat.eq_zero_or_pos n with h0 | h0
  · subst h0
    obtain rfl : L = [] := List.eq_nil_of_length_eq_zero h1
    cases a with
    | none =>
      refine (Try.slices_Clone_int_nil 0 c w).mono ?_
      rintro e w' ⟨rfl, rfl⟩
      exact ⟨_, rfl, ownI_nil _ _, Below.refl _ _⟩
    | some q =>
      refine (Try.slices_Clone_int_zero q c w).mono ?_
      rintro e w' ⟨v', rfl, ho, _, hb⟩
      exact ⟨_, rfl, ho, hb⟩
  · obtain ⟨b, off, rfl, hc⟩ := h6 h0
    refine (Try.slices_Clone_int b off n c L w (by omega) (by omega) (fun j hj => hc j (by omega))).mono ?_
    rintro e w' ⟨v', rfl, ho, _, hb⟩
    refine ⟨_, rfl, ?_, hb⟩
    rw [List.take_of_length_le (by omega)] at ho
    unfold OwnI valz
    rw [h1]
    exact ho
end Go.Proofs.Ytdljihemnfpkaaa
