/- names.letter, names.choice. -/
import Derived.Test.YtdpkinppkhnjkaaDoorNBase
import Derived.Test.YtdpkinppkhnjkaaDoorNm
namespace Go.Proofs.YtdpkinppkhnjkaaDoor
open Go.RowKit

/-- A slice value that holds these letters. -/
def RestAt (w : World) (v : Value) (ns : List Nat) : Prop := ∃ a c, v = .slice a ns.length c ∧ Row32 w a ns.length c ns
theorem restAt_below {w w' : World} {v : Value} {ns : List Nat} (h : RestAt w v ns) (hb : Below w.heap.size w w') : RestAt w' v ns := by
  obtain ⟨a, c, h1, h2⟩ := h
  exact ⟨a, c, h1, row32_below h2 hb⟩
theorem restAt_nil (w : World) : RestAt w (.slice none 0 0) [] := ⟨none, 0, rfl, rfl, (fun x hx => by cases hx), Nat.le_refl _, Nat.zero_le _, (fun h => absurd h (Nat.lt_irrefl _))⟩
theorem rest_cut {w : World} {b off n c k : Nat} {ns : List Nat} (h : Row32 w (some ⟨b, off, none⟩) n c ns) (hk : k ≤ n) : RestAt w (.slice (some (cutA b off c k)) (n - k) (c - k)) (ns.drop k) := by
  have h1 := row32_cut h hk
  have h2 : (ns.drop k).length = n - k := h1.1
  exact ⟨_, _, by rw [h2], by rw [h2]; exact h1⟩
theorem run_cut1 (w : World) (b off n c : Nat) (hk : 1 ≤ n) : (Instr.slice 74 (.slice (some ⟨b, off, none⟩) n c) (some (.int .i64 1)) none none).run Tryd.prog w = .ok (.slice (some (cutA b off c 1)) (n - 1) (c - 1)) w := run_cut w b off n c 1 hk
theorem run_cut2 (w : World) (b off n c : Nat) (hk : 2 ≤ n) : (Instr.slice 74 (.slice (some ⟨b, off, none⟩) n c) (some (.int .i64 2)) none none).run Tryd.prog w = .ok (.slice (some (cutA b off c 2)) (n - 2) (c - 2)) w := run_cut w b off n c 2 hk
/-- A slice that holds these letters wherever the one slice holds its own. -/
def Sub (a : Option Addr) (n cap : Nat) (ns : List Nat) (v : Value) (r : List Nat) : Prop := ∀ w, Row32 w a n cap ns → RestAt w v r
theorem sub_cut {b off n c k : Nat} {ns : List Nat} (hk : k ≤ n) : Sub (some ⟨b, off, none⟩) n c ns (.slice (some (cutA b off c k)) (n - k) (c - k)) (ns.drop k) := fun _ h => rest_cut h hk
theorem sub_trans {a a2 : Option Addr} {n cap c2 : Nat} {ns r r2 : List Nat} {v : Value} (h : Sub a n cap ns (.slice a2 r.length c2) r) (k : Sub a2 r.length c2 r v r2) : Sub a n cap ns v r2 := fun w hw => by
  obtain ⟨a3, c3, e, hr⟩ := h w hw
  cases e
  exact k w hr
def LetterRet (a : Option Addr) (n cap : Nat) (ns : List Nat) (w : World) (c : Nat) (r : List Nat) (e : Ending) (w' : World) : Prop := ∃ v, e = .returned (.tuple #[.int .i32 (c : Int), v, .bool true]) ∧ Sub a n cap ns v r ∧ Below w.heap.size w w'

theorem bel_drewN (w : World) (q : Nat) : Below w.heap.size w (w.drewN q) := ⟨rfl, rfl, rfl, Nat.le_refl _, fun _ _ => rfl⟩
/-- names.letter, all its ways. -/
def LetterOut (a : Option Addr) (n cap : Nat) (ns : List Nat) (w : World) (e : Ending) (w' : World) : Prop :=
  match Nm.letter ns with
  | some (c, r) => LetterRet a n cap ns w c r e w' ∧ c ≤ 1114111
  | none => e = .returned (.tuple #[.int .i32 0, .slice none 0 0, .bool false]) ∧ Below w.heap.size w w'
def ChoiceRet (a : Option Addr) (n cap : Nat) (ns : List Nat) (w : World) (s : Nat × Nat) (r : List Nat) (e : Ending) (w' : World) : Prop := ∃ v, e = .returned (.tuple #[.agg #[.int .i32 (s.1 : Int), .int .i32 (s.2 : Int)], v, .bool true]) ∧ Sub a n cap ns v r ∧ Below w.heap.size w w'
def ChoiceOut (a : Option Addr) (n cap : Nat) (ns : List Nat) (w : World) (e : Ending) (w' : World) : Prop :=
  match Nm.choice ns with
  | some (s, r) => ChoiceRet a n cap ns w s r e w' ∧ s.1 ≤ 1114111 ∧ s.2 ≤ 1114111
  | none => e = .returned (.tuple #[.agg #[.int .i32 0, .int .i32 0], .slice none 0 0, .bool false]) ∧ Below w.heap.size w w'
theorem span_new {w w1 : World} {u v : Value} {t : TypeId} (hb : Below (w.alloc (.cells #[u, v] t)).heap.size (w.alloc (.cells #[u, v] t)) w1) : w1.cell? ⟨w.heap.size, 0, none⟩ = some u ∧ w1.cell? ⟨w.heap.size, 1, none⟩ = some v ∧ w1.frozen? ⟨w.heap.size, 0, none⟩ = false ∧ w1.frozen? ⟨w.heap.size, 1, none⟩ = false := by
  have h : w1.heap[w.heap.size]? = some (.cells #[u, v] t (0, 0)) := by
    rw [hb.block w.heap.size (by simp)]
    show (w.heap.push _)[w.heap.size]? = _
    simp
  refine ⟨?_, ?_, ?_, ?_⟩ <;> simp [World.cell?, World.frozen?, h]
theorem bel_two {w w1 : World} {u v : Value} {t : TypeId} (hb : Below (w.alloc (.cells #[u, v] t)).heap.size (w.alloc (.cells #[u, v] t)) w1) (x y : Value) : Below w.heap.size w ((w1.setCell ⟨w.heap.size, 0, none⟩ x).setCell ⟨w.heap.size, 1, none⟩ y) :=
  (((nbel_alloc (Below.refl _ w) _).trans (hb.mono (by simp))).setCell (p := ⟨w.heap.size, 0, none⟩) (Nat.le_refl _) x).setCell (p := ⟨w.heap.size, 1, none⟩) (Nat.le_refl _) y
def choiceOf (c : Nat) (r : List Nat) : (Nat × Nat) × List Nat := if 1 < r.length ∧ r.getD 0 0 = 45 ∧ r.getD 1 0 ≠ 93 then ((c, r.getD 1 0), r.drop 2) else ((c, c), r)
theorem choiceOf_no {c : Nat} {r : List Nat} (h : ¬ (1 < r.length ∧ r.getD 0 0 = 45 ∧ r.getD 1 0 ≠ 93)) : choiceOf c r = ((c, c), r) := by unfold choiceOf; rw [if_neg h]
theorem choiceOf_yes {c : Nat} {r : List Nat} (h : 1 < r.length ∧ r.getD 0 0 = 45 ∧ r.getD 1 0 ≠ 93) : choiceOf c r = ((c, r.getD 1 0), r.drop 2) := by unfold choiceOf; rw [if_pos h]
theorem letter_sub {l : List Nat} {c : Nat} {r : List Nat} (h : Nm.letter l = some (c, r)) : ∀ x ∈ r, x ∈ l := by
  cases l with
  | nil => cases h
  | cons x l =>
    simp only [Nm.letter] at h
    split at h
    · cases l with
      | nil => cases h
      | cons y l' => simp only [Option.some.injEq, Prod.mk.injEq] at h; intro z hz; rw [← h.2] at hz; simp [hz]
    · simp only [Option.some.injEq, Prod.mk.injEq] at h; intro z hz; rw [← h.2] at hz; simp [hz]
theorem choice_of {ns : List Nat} {c : Nat} {r : List Nat} (h : Nm.letter ns = some (c, r)) : Nm.choice ns = some (choiceOf c r) := by
  unfold Nm.choice choiceOf
  rw [h]
  simp only
  split <;> rfl
theorem choiceOf_bd {c : Nat} {r : List Nat} (hc : c ≤ 1114111) (hr : ∀ x ∈ r, x ≤ 1114111) : (choiceOf c r).1.1 ≤ 1114111 ∧ (choiceOf c r).1.2 ≤ 1114111 := by
  unfold choiceOf
  split
  · rename_i h2
    refine ⟨hc, hr _ ?_⟩
    rw [getD_in _ _ h2.1]
    exact List.getElem_mem _
  · exact ⟨hc, hc⟩
end Go.Proofs.YtdpkinppkhnjkaaDoor
