/- A row of int64 of the call's own. -/
import Derived.Test.YtnnaijeapapehaaWx
import Derived.Test.YtnnaijeapapehaaTwoRows
import Derived.Deep.AppendLies
namespace Go.Proofs.Ytnnaijeapapehaa
open Go.RowKit

def valj (l : List Nat) : List Value := l.map fun (y : Nat) => Value.int .i64 (y : Int)
def OwnJ (B : Nat) (w : World) (v : Value) (l : List Nat) : Prop := w.ownsRow B 2 1 v l.length (valj l)
theorem ownJ_nil (B : Nat) (w : World) : OwnJ B w (.slice none 0 0) [] := World.ownsRow_nil w B _ 1
theorem ownJ_below {B : Nat} {w w' : World} {sv : Value} {L : List Nat} (h : OwnJ B w sv L) (hb : Below w.heap.size w w') : OwnJ B w' sv L :=
  h.kept (row := none) ⟨hb.os, hb.tape, hb.output, hb.size, fun b hb' _ => hb.block b hb'⟩ (by cases hv : sv.ownBlock <;> simp)
theorem ownJ_slice {B : Nat} {x : World} {v : Value} {l : List Nat} (h : OwnJ B x v l) : ∃ a n c, v = .slice a n c := by
  rcases h.2 with ⟨h0, _⟩ | ⟨g, c, _, h0, _⟩
  · exact ⟨_, _, _, h0⟩
  · exact ⟨_, _, _, h0⟩
theorem info_int64 : (Try.prog.info? 2).map (fun i => (i.zero, i.size, i.bytes)) = some (some (.int .i64 0), 1, 8) := by kernel_rfl
theorem pt_free {W : World} {b : Nat} {cs : Array Value} {t : TypeId} (h : W.heap[b]? = some (.cells cs t (0, 0))) (o : Nat) : W.frozen? ⟨b, o, none⟩ = false := by
  simp [World.frozen?, h]
theorem pt_four {W : World} {b : Nat} {v0 v1 v2 v3 : Value} {t : TypeId} (h : W.heap[b]? = some (.cells #[v0, v1, v2, v3] t (0, 0))) :
    W.cell? ⟨b, 0, none⟩ = some v0 ∧ W.cell? ⟨b, 1, none⟩ = some v1 ∧ W.cell? ⟨b, 2, none⟩ = some v2 ∧ W.cell? ⟨b, 3, none⟩ = some v3 := by
  refine ⟨?_, ?_, ?_, ?_⟩ <;> simp [World.cell?, h]
theorem ownJ_row {B : Nat} {x : World} {v : Value} {l : List Nat} (h : OwnJ B x v l) (hb : ∀ y ∈ l, y < 4294967296) : ∃ a c, v = .slice a l.length c ∧ RowK .i64 4294967296 x a l.length l := by
  obtain ⟨_, h⟩ := h
  rcases h with ⟨rfl, h0⟩ | ⟨g, cap, cur, rfl, _, hg, hc, hm, hs, ht⟩
  · exact ⟨none, 0, by rw [h0], ⟨rfl, hb, fun h => by omega⟩⟩
  · refine ⟨_, cap, rfl, ⟨rfl, hb, fun _ => ⟨g, 0, rfl, fun i hi => ?_⟩⟩⟩
    have h1 : x.cell? ⟨g, 0 + i, none⟩ = cur[i]? := by simp [World.cell?, hg]
    have h2 : cur[i]? = (cur.toList.take (l.length * 1))[i]? := by
      rw [List.getElem?_take_of_lt (by omega), Array.getElem?_toList]
    rw [h1, h2, ht]
    unfold valj
    rw [List.getElem?_map, List.getElem?_eq_getElem hi, getD_in _ _ hi]
    rfl
theorem pt_put4 {W : World} {b : Nat} {u0 u1 u2 u3 : Value} {t : TypeId} (h : W.heap[b]? = some (.cells #[u0, u1, u2, u3] t (0, 0))) (v0 v1 v2 v3 : Value) :
    ((((W.setCell ⟨b, 0, none⟩ v0).setCell ⟨b, 1, none⟩ v1).setCell ⟨b, 2, none⟩ v2).setCell ⟨b, 3, none⟩ v3).heap[b]? = some (.cells #[v0, v1, v2, v3] t (0, 0)) := by
  have e0 : (W.setCell ⟨b, 0, none⟩ v0).heap[b]? = some (.cells #[v0, u1, u2, u3] t (0, 0)) := by simpa using heap_setCell_same W b 0 _ _ v0 h
  have e1 : ((W.setCell ⟨b, 0, none⟩ v0).setCell ⟨b, 1, none⟩ v1).heap[b]? = some (.cells #[v0, v1, u2, u3] t (0, 0)) := by simpa using heap_setCell_same _ b 1 _ _ v1 e0
  have e2 : (((W.setCell ⟨b, 0, none⟩ v0).setCell ⟨b, 1, none⟩ v1).setCell ⟨b, 2, none⟩ v2).heap[b]? = some (.cells #[v0, v1, v2, u3] t (0, 0)) := by simpa using heap_setCell_same _ b 2 _ _ v2 e1
  simpa using heap_setCell_same _ b 3 _ _ v3 e2
theorem pt_step {x y : World} {B o : Nat} {v : Value} (h : x.cell? ⟨B, o, none⟩ = some v) (hb : Below x.heap.size x y) : y.cell? ⟨B, o, none⟩ = some v := by
  rw [World.cell?_of_block (hb.block B (World.block_lt_of_cell? x ⟨B, o, none⟩ h))]
  exact h
theorem own_nilcap {B : Nat} {x : World} {a : Option Addr} {n c : Nat} {l : List Nat} (h : Own B x (.slice a n c) l) : a = none → c = 0 := by
  rcases h.1.2 with ⟨e, _⟩ | ⟨g, cp, cur, e1, _⟩
  · cases e; exact fun _ => rfl
  · intro ha
    rw [ha] at e1
    simp at e1
theorem wpList_appJ {w : World} {ops : Array Oper} {rest : List Oper} {o : Oper} {a : Act} {Q : Exit → Act → World → Prop} (hgd : o.guard = none) (s x : Operand)
    (ho : o.op = .call { callee := .builtin .append, args := #[s, x], argTypes := #[32, 32] })
    (B : Nat) (sv : Value) (l : List Nat) (hs : a.eval s = sv) (hown : OwnJ B w sv l) (b m c : Nat) (xs : List Nat) (hx : a.eval x = .slice (some ⟨b, 0, none⟩) m c) (hm : xs.length = m)
    (hh : w.heap[b]? = some (.cells (valj xs).toArray 2 (0, 0))) (hB : B ≤ w.heap.size) (hlen : l.length + m ≤ 1000000)
    (h : ∀ v' w', OwnJ B w' v' (l ++ xs) → Below B w w' → wpList Try.prog ops Q rest (a.put o.dst v') w') : wpList Try.prog ops Q (o :: rest) a w := by
  obtain ⟨i0, hi, hz0, hz1, hz2⟩ := info_parts info_int64
  refine wpList_append_own_at w hgd s x 32 ho B 2 i0 _ 1 8 Try.underlying32 hi hz0 hz1 hz2 rfl (by decide) sv _ _ hs hown ⟨b, 0, none⟩ m c (valj xs) hx (by simp [valj, hm]) ?_ ?_ (by unfold maxLen; omega) (by omega) hB ?_
  · intro j u hj
    by_cases h0 : j = 0 <;> simp [Addr.add, World.cell?, hh, h0]
    · subst h0; simpa using hj
    · simpa using hj
  · intro u hu
    unfold valj at hu
    obtain ⟨y, _, rfl⟩ := List.mem_map.1 hu
    rfl
  · intro v' w' h2 h3 _ h5
    refine h v' w' ?_ ((Below.refl B w).grown h3 hB (fun k hk => (World.ownsRow.lt hown k hk).1))
    unfold OwnJ
    rw [show valj (l ++ xs) = valj l ++ valj xs by simp [valj], List.length_append, hm]
    exact h2
end Go.Proofs.Ytnnaijeapapehaa
