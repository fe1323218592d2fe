/- append on bytes of the call's own. -/
import Derived.Test.YtdpkinppkhnjkaaDoorBase
import Derived.Maps.AppendAt
import Derived.Laws.AppendOwnNone
namespace Go.Proofs.YtdpkinppkhnjkaaDoor
open Go.RowKit

/-- What append onto sv leaves. -/
structure Apd (B : Nat) (w : World) (sv : Value) (bs : List Nat) (sv' : Value) (w' : World) : Prop where
  own : Own B w' sv' bs
  grown : w.grownBy w' sv.ownBlock
  where_ : sv'.ownBlock = sv.ownBlock ∨ sv'.ownBlock = some w.heap.size
  below : Below B w w'

theorem grownBy_refl (w : World) (row : Option Nat) : w.grownBy w row := ⟨rfl, rfl, rfl, Nat.le_refl _, fun _ _ _ => rfl⟩
theorem own_base {B : Nat} {w : World} {sv : Value} {bs : List Nat} (h : Own B w sv bs) : ∀ k, sv.ownBlock = some k → B ≤ k ∧ k < w.heap.size := h.1.lt
theorem own_mono {B B' : Nat} {w : World} {sv : Value} {bs : List Nat} (h : Own B w sv bs) (hB : B' ≤ B) : Own B' w sv bs := by
  refine ⟨⟨h.1.1, ?_⟩, h.2⟩
  rcases h.1.2 with h0 | ⟨g, cap, cur, h1, h2, h3⟩
  · exact .inl h0
  · exact .inr ⟨g, cap, cur, h1, Nat.le_trans hB h2, h3⟩

theorem wpList_app {w : World} {ops : Array Oper} {rest : List Oper} {o : Oper} {a : Act} {Q : Exit → Act → World → Prop} (hgd : o.guard = none) (s x : Operand)
    (ho : o.op = .call { callee := .builtin .append, args := #[s, x], argTypes := #[22, 22] })
    (B : Nat) (sv : Value) (bs : List Nat) (hs : a.eval s = sv) (hown : Own B w sv bs) (xa : Option Addr) (m c : Nat) (cs : List Nat) (hx : a.eval x = .slice xa m c)
    (hr : Row w xa m cs) (hc : xa = none → c = 0) (hB : B ≤ w.heap.size) (hlen : bs.length + m ≤ 140737488355328)
    (h : ∀ v' w', Apd B w sv (bs ++ cs) v' w' → wpList Tryd.prog ops Q rest (a.put o.dst v') w') : wpList Tryd.prog ops Q (o :: rest) a w := by
  obtain ⟨i0, hi, hz0, hz1, hz2⟩ := info_parts info_u8
  obtain ⟨hrow, hby⟩ := hown
  obtain ⟨hm, hcs, hcell⟩ := hr
  cases xa with
  | none =>
    have h0 : m = 0 := by
      rcases Nat.eq_zero_or_pos m with h | h
      · exact h
      · obtain ⟨_, _, h1, _⟩ := hcell h
        cases h1
    obtain rfl := hc rfl
    subst h0
    obtain rfl : cs = [] := List.eq_nil_of_length_eq_zero hm
    refine wpList_append_own_none hgd s x 22 ho B 5 i0 1 Tryd.underlying22 hi sv _ _ hs hrow hx ?_
    refine h sv w ⟨?_, grownBy_refl _ _, .inl rfl, Below.refl _ _⟩
    rw [List.append_nil]
    exact ⟨hrow, hby⟩
  | some ad =>
    refine wpList_append_own_at w hgd s x 22 ho B 5 i0 (.int .u8 0) 1 1 Tryd.underlying22 hi hz0 hz1 hz2 rfl (by decide) sv _ _ hs hrow ad m c (cs.map u8v) hx (by simp [hm]) ?_ ?_ (by unfold maxLen; omega) (by omega) hB ?_
    · intro j u hj
      have hjm : j < m := by
        rcases Nat.lt_or_ge j m with h | h
        · exact h
        · rw [List.getElem?_eq_none (by simp; omega)] at hj; cases hj
      obtain ⟨b, off, h1, h2⟩ := hcell (by omega)
      cases h1
      have h3 := h2 j hjm
      rw [List.getElem?_map, List.getElem?_eq_getElem (by omega)] at hj
      simp only [Option.map_some, Option.some.injEq] at hj
      rw [getD_in _ _ (by omega)] at h3
      rw [← hj]
      unfold Addr.add
      split
      · rename_i h0; subst h0; exact h3
      · exact h3
    · intro u hu
      rw [List.mem_map] at hu
      obtain ⟨y, _, rfl⟩ := hu
      rfl
    · intro v' w' h2 h3 _ h5
      refine h v' w' ⟨⟨?_, ?_⟩, h3, h5, (Below.refl B w).grown h3 hB (fun k hk => (hrow.lt k hk).1)⟩
      · rw [List.map_append, List.length_append, hm]; exact h2
      · intro y hy
        rw [List.mem_append] at hy
        rcases hy with hy | hy
        · exact hby y hy
        · exact hcs y hy

/-- One byte, laid in a block of its own ahead of an append. -/
theorem row_one (w : World) (x : Nat) (hx : x < 256) : Row (w.alloc (.cells #[.int .u8 (x : Int)] 5)) (some ⟨w.heap.size, 0, none⟩) 1 [x] :=
  ⟨rfl, fun y hy => by simp at hy; omega, fun _ => ⟨_, 0, rfl, fun i hi => by obtain rfl : i = 0 := by omega
                                                                              exact cell_new1 _ _ _⟩⟩
theorem own_alloc {B : Nat} {w : World} {sv : Value} {bs : List Nat} (h : Own B w sv bs) (o : Obj) : Own B (w.alloc o) sv bs := ⟨h.1.alloc o, h.2⟩
/-- Bytes are there still when something else has grown. -/
theorem own_kept {B : Nat} {w w' : World} {row : Option Nat} {sv : Value} {bs : List Nat} (h : Own B w sv bs) (hg : w.grownBy w' row) (hne : sv.ownBlock = none ∨ sv.ownBlock ≠ row) : Own B w' sv bs :=
  ⟨h.1.kept hg hne, h.2⟩
theorem row_grown {w w' : World} {row : Option Nat} {a : Option Addr} {len : Nat} {bs : List Nat} (h : Row w a len bs) (hg : w.grownBy w' row) (hne : ∀ x, a = some x → some x.block ≠ row) : Row w' a len bs := by
  obtain ⟨h1, h2, h3⟩ := h
  refine ⟨h1, h2, fun h0 => ?_⟩
  obtain ⟨b, off, h4, h5⟩ := h3 h0
  exact ⟨b, off, h4, fun i hi => hg.cell (h5 i hi) (hne ⟨b, off, none⟩ h4)⟩
theorem row_below {B : Nat} {w w' : World} {a : Option Addr} {len : Nat} {bs : List Nat} (h : Row w a len bs) (hb : Below B w w') (hlt : ∀ x, a = some x → x.block < B) : Row w' a len bs := by
  obtain ⟨h1, h2, h3⟩ := h
  refine ⟨h1, h2, fun h0 => ?_⟩
  obtain ⟨b, off, h4, h5⟩ := h3 h0
  exact ⟨b, off, h4, fun i hi => by rw [hb.cell (p := ⟨b, off + i, none⟩) (hlt ⟨b, off, none⟩ h4)]; exact h5 i hi⟩
theorem row_lt {w : World} {a : Option Addr} {len : Nat} {bs : List Nat} (h : Row w a len bs) (h0 : 0 < len) : ∀ x, a = some x → x.block < w.heap.size := by
  obtain ⟨b, off, h4, h5⟩ := h.2.2 h0
  intro x hx
  rw [h4] at hx
  cases hx
  exact World.block_lt_of_cell? w _ (h5 0 h0)
theorem row_keep {B : Nat} {w w' : World} {a : Option Addr} {len : Nat} {bs : List Nat} (h : Row w a len bs) (hb : Below B w w') (hB : w.heap.size ≤ B) : Row w' a len bs := by
  rcases Nat.eq_zero_or_pos len with h0 | h0
  · exact ⟨h.1, h.2.1, fun h1 => by omega⟩
  · exact row_below h hb (fun x hx => Nat.lt_of_lt_of_le (row_lt h h0 x hx) hB)

theorem row_alloc {w : World} {a : Option Addr} {len : Nat} {bs : List Nat} (h : Row w a len bs) (o : Obj) : Row (w.alloc o) a len bs :=
  row_keep h ((Below.refl _ w).alloc (Nat.le_refl _) o) (Nat.le_refl _)
theorem eq_true_of {x y : Nat} (h : x = y) : ((x : Int) == (y : Int)) = true := by rw [h]; simp
theorem bel_trans {w a b : World} (h : Below w.heap.size w a) (k : Below a.heap.size a b) : Below w.heap.size w b := h.trans (k.mono h.size)
theorem bel_alloc {w a : World} (h : Below w.heap.size w a) (o : Obj) : Below w.heap.size w (a.alloc o) := h.alloc h.size o

theorem row_cell {w : World} {a : Option Addr} {len k : Nat} {bs : List Nat} (h : Row w a len bs) (hk : k < len) :
    ∃ (b off x : Nat), a = some ⟨b, off, none⟩ ∧ w.cell? ⟨b, off + k, none⟩ = some (.int .u8 (x : Int)) ∧ x < 256 ∧ Hid (x = bs.getD k 0) := by
  obtain ⟨h1, h2, h3⟩ := h
  obtain ⟨b, off, h4, h5⟩ := h3 (by omega)
  exact ⟨b, off, _, h4, h5 k hk, getD_lt h2 k, rfl⟩

end Go.Proofs.YtdpkinppkhnjkaaDoor
