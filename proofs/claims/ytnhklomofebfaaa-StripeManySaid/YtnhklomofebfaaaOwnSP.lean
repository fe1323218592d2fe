/- A slice of pages of data (eight cells each) that is the call's own, and append onto it. -/
import Derived.Test.YtnhklomofebfaaaFits
namespace Go.Proofs.Ytnhklomofebfaaa
open Go.RowKit Go.Deep

def SP.cl (p : SP) : List Value := [.int .u8 (p.h.ki : Int), .int .u32 (p.h.ep : Int), .int .u32 (p.h.ba : Int), .int .u16 (p.h.ix : Int), .int .u16 (p.h.ct : Int), .int .u32 (p.h.bl : Int), .int .u32 (p.h.mo : Int), .slice p.d.a p.d.n p.d.c]
def OwnSP (B : Nat) (w : World) (sv : Value) (L : List SP) : Prop := w.ownsRow B 47 8 sv L.length (L.flatMap SP.cl)
theorem ownSP_nil (B : Nat) (w : World) : OwnSP B w (.slice none 0 0) [] := World.ownsRow_nil w B _ 8
theorem OwnSP.below {B : Nat} {w w' : World} {sv : Value} {L : List SP} (h : OwnSP B w sv L) (hb : Below w.heap.size w w') : OwnSP B w' sv L :=
  h.kept (row := none) ⟨hb.os, hb.tape, hb.output, hb.size, fun b hb' _ => hb.block b hb'⟩ (by cases hv : sv.ownBlock <;> simp)
theorem flatSP_len (L : List SP) : (L.flatMap SP.cl).length = L.length * 8 := by
  induction L with
  | nil => rfl
  | cons g G ih => rw [List.flatMap_cons, List.length_append, ih, List.length_cons]; simp [SP.cl]; omega
theorem flatSP_at (L : List SP) (i j : Nat) (hi : i < L.length) (hj : j < 8) : (L.flatMap SP.cl)[i * 8 + j]? = (L.getD i SP.nil).cl[j]? := by
  induction L generalizing i with
  | nil => simp at hi
  | cons g G ih =>
    cases i with
    | zero =>
      rw [List.flatMap_cons, List.getElem?_append_left (by simp [SP.cl]; omega)]
      simp
    | succ i =>
      have hi' : i < G.length := by simpa using hi
      rw [List.flatMap_cons, List.getElem?_append_right (by simp [SP.cl]; omega)]
      have e1 : (i + 1) * 8 + j - g.cl.length = i * 8 + j := by simp [SP.cl]; omega
      rw [e1, ih i hi']
      simp [List.getD]
theorem cellsSP_own {B : Nat} {w : World} {sv : Value} {L : List SP} (h : OwnSP B w sv L) : ∃ a cap, sv = .slice a L.length cap ∧ CellsSP w a L := by
  have h' := h
  rcases h.2 with ⟨rfl, h0⟩ | ⟨g, cap, cur, rfl, _, _, hc, hm, _⟩
  · exact ⟨none, 0, by rw [h0], fun h1 => by omega⟩
  · refine ⟨_, cap, rfl, fun _ => ⟨g, 0, rfl, fun i hi => ?_⟩⟩
    have key : ∀ j, j < 8 → w.cell? ⟨g, 0 + i * 8 + j, none⟩ = (L.getD i SP.nil).cl[j]? := fun j hj => by
      rw [Nat.zero_add, h'.cellAt (i * 8 + j) (by omega)]
      exact flatSP_at L i j hi hj
    refine ⟨?_, ?_, ?_, ?_, ?_, ?_, ?_, ?_⟩
    · exact key 0 (by omega)
    · exact key 1 (by omega)
    · exact key 2 (by omega)
    · exact key 3 (by omega)
    · exact key 4 (by omega)
    · exact key 5 (by omega)
    · exact key 6 (by omega)
    · exact key 7 (by omega)
/-- What append onto sv leaves. -/
structure ApdSP (B : Nat) (w : World) (sv : Value) (L : List SP) (sv' : Value) (w' : World) : Prop where
  own : OwnSP B w' sv' L
  grown : w.grownBy w' sv.ownBlock
  where_ : sv'.ownBlock = sv.ownBlock ∨ sv'.ownBlock = some w.heap.size
  below : Below B w w'
/-- One page, laid in a block of its own, is appended. -/
theorem wpList_appSP {w : World} {ops : Array Oper} {rest : List Oper} {o : Oper} {a : Act} {Q : Exit → Act → World → Prop} (TL : TypeId) (hu : Try.prog.underlying TL = some (.slice 47))
    (hinfo : (Try.prog.info? 47).map (fun i => (i.zero, i.size, i.bytes)) = some (some (.agg #[.int .u8 0, .int .u32 0, .int .u32 0, .int .u16 0, .int .u16 0, .int .u32 0, .int .u32 0, .slice none 0 0]), 8, 48)) (hgd : o.guard = none) (s x : Operand)
    (ho : o.op = .call { callee := .builtin .append, args := #[s, x], argTypes := #[TL, TL] })
    (B : Nat) (sv : Value) (L : List SP) (hs : a.eval s = sv) (hown : OwnSP B w sv L) (b : Nat) (c : Nat) (p : SP) (hx : a.eval x = .slice (some ⟨b, 0, none⟩) 1 c)
    (hc : SPat p b 0 w) (hB : B ≤ w.heap.size) (hlen : L.length ≤ 1000000)
    (h : ∀ v' w', ApdSP B w sv (L ++ [p]) v' w' → wpList Try.prog ops Q rest (a.put o.dst v') w') : wpList Try.prog ops Q (o :: rest) a w := by
  obtain ⟨i0, hi, hz0, hz1, hz2⟩ := info_parts hinfo
  refine wpList_append_own_at w hgd s x TL ho B 47 i0 _ 8 48 hu hi hz0 hz1 hz2 rfl (by decide) sv _ _ hs hown ⟨b, 0, none⟩ 1 c p.cl hx rfl ?_ ?_ (by unfold maxLen; omega) (by omega) hB ?_
  · intro j u hj
    obtain ⟨c0, c1, c2, c3, c4, c5, c6, c7⟩ := hc
    have hj8 : j < 8 := by
      rcases Nat.lt_or_ge j 8 with h | h
      · exact h
      · rw [List.getElem?_eq_none (by simpa [SP.cl] using h)] at hj; cases hj
    rcases (show j = 0 ∨ j = 1 ∨ j = 2 ∨ j = 3 ∨ j = 4 ∨ j = 5 ∨ j = 6 ∨ j = 7 by omega) with rfl | rfl | rfl | rfl | rfl | rfl | rfl | rfl <;>
      (simp only [SP.cl, List.getElem?_cons_succ, List.getElem?_cons_zero, Option.some.injEq] at hj; subst hj)
    · simpa [Addr.add] using c0
    · simpa [Addr.add] using c1
    · simpa [Addr.add] using c2
    · simpa [Addr.add] using c3
    · simpa [Addr.add] using c4
    · simpa [Addr.add] using c5
    · simpa [Addr.add] using c6
    · simpa [Addr.add] using c7
  · intro u hu
    simp only [SP.cl, List.mem_cons, List.not_mem_nil, or_false] at hu
    rcases hu with rfl | rfl | rfl | rfl | rfl | rfl | rfl | rfl <;> rfl
  · intro v' w' h2 h3 _ h5
    refine h v' w' ⟨?_, h3, h5, (Below.refl B w).grown h3 hB (fun k hk => (hown.lt k hk).1)⟩
    unfold OwnSP
    rw [List.flatMap_append, List.length_append]
    simpa using h2
theorem info_sp : (Try.prog.info? 47).map (fun i => (i.zero, i.size, i.bytes)) = some (some (.agg #[.int .u8 0, .int .u32 0, .int .u32 0, .int .u16 0, .int .u16 0, .int .u32 0, .int .u32 0, .slice none 0 0]), 8, 48) := by kernel_rfl
end Go.Proofs.Ytnhklomofebfaaa
