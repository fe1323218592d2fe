/- A map as a function: what stands at each key that may be. -/
import Derived.Test.YthgcjiocelcblaaGreatK05
import Derived.Maps.OwnOps
import Derived.Maps.OwnSet
import Derived.DeepKeys4
namespace Go.Proofs.YthgcjiocelcblaaGreat
open Go.Maps (Keyed)
open Go.ChangeMaps (setBlock)
open Go.MapKept

section
variable {κ : Type} [DecidableEq κ]
/-- Block b of w is a map; f tells what stands at each key. -/
def MapF (ok : κ → Prop) (kv : κ → Value) (b : Nat) (f : κ → Option Value) (w : World) : Prop :=
  ∃ es clock, w.heap[b]? = some (.map es clock) ∧ (∀ e ∈ es.toList, ∃ x, ok x ∧ e.key = kv x ∧ f x = some e.val) ∧
    (∀ x v, ok x → f x = some v → ∃ e ∈ es.toList, e.key = kv x ∧ e.val = v) ∧ es.toList.Pairwise (fun x y => x.key ≠ y.key)
/-- What the laws want of a key's type. -/
structure KeyF (P : Program) (k : TypeId) (ok : κ → Prop) (kv : κ → Value) : Prop where
  K : Keyed P k
  read : ∀ x, ok x → ∃ l, keyOf P k (kv x) = some l
  inj : ∀ x y, ok x → ok y → kv x = kv y → x = y
variable {P : Program} {k : TypeId} {ok : κ → Prop} {kv : κ → Value} {b : Nat} {f : κ → Option Value} {w : World}
omit [DecidableEq κ] in
theorem mapF_new (w : World) : MapF ok kv w.heap.size (fun _ => none) (w.alloc (.map #[] 0)) :=
  ⟨#[], 0, (MapKept.heap_alloc w _).1, by simp, by simp, by simp⟩
omit [DecidableEq κ] in
theorem MapF.lt (h : MapF ok kv b f w) : b < w.heap.size := by
  obtain ⟨es, c, hb, _⟩ := h
  exact (Array.getElem?_eq_some_iff.1 hb).1
omit [DecidableEq κ] in
theorem MapF.same {w' : World} (h : MapF ok kv b f w) (e : w'.heap[b]? = w.heap[b]?) : MapF ok kv b f w' := by
  obtain ⟨es, c, hb, h1⟩ := h
  exact ⟨es, c, e.trans hb, h1⟩
omit [DecidableEq κ] in
theorem MapF.cong {g : κ → Option Value} (h : MapF ok kv b f w) (e : ∀ x, ok x → g x = f x) : MapF ok kv b g w := by
  obtain ⟨es, c, hb, h1, h2, h3⟩ := h
  refine ⟨es, c, hb, fun y hy => ?_, fun x v hx hv => h2 x v hx (by rw [← e x hx]; exact hv), h3⟩
  obtain ⟨x, hx, hk, hv⟩ := h1 y hy
  exact ⟨x, hx, hk, by rw [e x hx]; exact hv⟩
omit [DecidableEq κ] in
theorem MapF.lookup {t e : TypeId} (h : MapF ok kv b f w) (Q : KeyF P k ok kv) (ht : P.underlying t = some (.map k e)) {z : Value} (hz : (zeroValue e).run P w = .ok z w) {x : κ} (hx : ok x) :
    (Instr.lookup t (.map (some b)) (kv x) false).run P w = .ok ((f x).getD z) w := by
  obtain ⟨es, clock, hb, h1, h2, h3⟩ := h
  obtain ⟨l, hl⟩ := Q.read x hx
  rcases Q.K.find w hl es.toList (fun e he => by obtain ⟨y, hy, hk, _⟩ := h1 e he; obtain ⟨m, hm⟩ := Q.read y hy; exact ⟨m, by rw [hk]; exact hm⟩) with ⟨q1, q2⟩ | ⟨j, e0, q1, q2, q3⟩
  · have hn : f x = none := by
      cases hf : f x with
      | none => rfl
      | some v => obtain ⟨e, he, hk, _⟩ := h2 x v hx hf; exact absurd hk (q2 e he)
    rw [hn]
    simp [Instr.lookup, run_underlying ht, MapKept.run_getObj_map hb, Q.K.check w _ hl, q1, hz, Result.andThen]
  · obtain ⟨y, hy, hk, hv⟩ := h1 e0 (List.mem_of_getElem? q2)
    obtain rfl : y = x := Q.inj y x hy hx (hk.symm.trans q3)
    rw [hv]
    simp [Instr.lookup, run_underlying ht, MapKept.run_getObj_map hb, Q.K.check w _ hl, q1, Result.andThen]
theorem MapF.update {t e : TypeId} (h : MapF ok kv b f w) (Q : KeyF P k ok kv) (ht : P.underlying t = some (.map k e)) {x : κ} (hx : ok x) (v : Value) :
    ∃ w', (Instr.mapUpdate t (.map (some b)) (kv x) v).run P w = .ok () w' ∧ MapF ok kv b (fun y => if y = x then some v else f y) w' ∧ w.grownBy w' (some b) ∧ w'.heap.size = w.heap.size := by
  obtain ⟨es, clock, hb, h1, h2, h3⟩ := h
  obtain ⟨l, hl⟩ := Q.read x hx
  have grow : ∀ o, w.grownBy (setBlock w b o) (some b) := fun o => ⟨rfl, rfl, rfl, by simp [setBlock], fun i _ hi => ChangeMaps.heap_setBlock_other hb _ (fun e => hi (by rw [e]))⟩
  rcases Q.K.find w hl es.toList (fun e he => by obtain ⟨y, hy, hk, _⟩ := h1 e he; obtain ⟨m, hm⟩ := Q.read y hy; exact ⟨m, by rw [hk]; exact hm⟩) with ⟨q1, q2⟩ | ⟨j, e0, q1, q2, q3⟩
  · refine ⟨setBlock w b (.map (es.push ⟨kv x, v, clock⟩) (clock + 1)), by simp [Instr.mapUpdate, run_underlying ht, MapKept.run_getObj_map hb, Q.K.check w false hl, q1, MapKept.run_setObj_map _ hb, Result.andThen, setBlock],
      ⟨_, _, ChangeMaps.heap_setBlock_same hb _, ?_, ?_, ?_⟩, grow _, by simp [setBlock]⟩
    · intro e he
      simp only [Array.toList_push, List.mem_append, List.mem_singleton] at he
      rcases he with he | rfl
      · obtain ⟨y, hy, hk, hv⟩ := h1 e he
        have hne : y ≠ x := fun c => q2 e he (by rw [hk, c])
        exact ⟨y, hy, hk, by simp [hne, hv]⟩
      · exact ⟨x, hx, rfl, by simp⟩
    · intro y u hy hu
      by_cases c : y = x
      · subst c
        simp only [if_true, Option.some.injEq] at hu
        subst hu
        exact ⟨_, by simp; exact Or.inr rfl, rfl, rfl⟩
      · simp only [c, if_false] at hu
        obtain ⟨e, he, hk, hv⟩ := h2 y u hy hu
        exact ⟨e, by simp; exact Or.inl (by simpa using he), hk, hv⟩
    · rw [Array.toList_push, List.pairwise_append]
      exact ⟨h3, by simp, fun e he e' he' => by rw [List.mem_singleton] at he'; subst he'; exact q2 e he⟩
  · have hj : es[j]? = some e0 := by simpa using q2
    have hjl : j < es.toList.length := (List.getElem?_eq_some_iff.1 q2).1
    have hlist : (es.modify j (fun e' => { e' with key := kv x, val := v })).toList = es.toList.set j { e0 with key := kv x, val := v } := by rw [Array.toList_modify, ChangeMaps.modify_eq_set _ _ _ _ q2]
    have apart : ∀ i e', es.toList[i]? = some e' → i ≠ j → e'.key ≠ kv x := by
      intro i e' hi hne c
      have hil : i < es.toList.length := (List.getElem?_eq_some_iff.1 hi).1
      rcases Nat.lt_or_gt_of_ne hne with hlt | hlt
      · have := List.pairwise_iff_getElem.1 h3 i j hil hjl hlt
        rw [List.getElem?_eq_getElem hil, Option.some.injEq] at hi
        rw [List.getElem?_eq_getElem hjl, Option.some.injEq] at q2
        rw [hi, q2, c, q3] at this
        exact this rfl
      · have := List.pairwise_iff_getElem.1 h3 j i hjl hil hlt
        rw [List.getElem?_eq_getElem hil, Option.some.injEq] at hi
        rw [List.getElem?_eq_getElem hjl, Option.some.injEq] at q2
        rw [hi, q2, c, q3] at this
        exact this rfl
    refine ⟨setBlock w b (.map (es.modify j (fun e' => { e' with key := kv x, val := v })) clock), by
      simp [Instr.mapUpdate, run_underlying ht, MapKept.run_getObj_map hb, Q.K.check w false hl, q1, hj, q3, Q.K.stays w hl, MapKept.run_setObj_map _ hb, Result.andThen, setBlock],
      ⟨_, _, ChangeMaps.heap_setBlock_same hb _, ?_, ?_, ?_⟩, grow _, by simp [setBlock]⟩
    · intro e he
      rw [hlist] at he
      obtain ⟨i, hi, ex⟩ := List.getElem_of_mem he
      rw [List.getElem_set] at ex
      split at ex
      · subst ex; exact ⟨x, hx, rfl, by simp⟩
      · rename_i hne
        have hi' : i < es.toList.length := by simpa using hi
        obtain ⟨y, hy, hk, hv⟩ := h1 e (ex ▸ List.getElem_mem hi')
        have hyx : y ≠ x := fun c => apart i e (by rw [List.getElem?_eq_getElem hi', ex]) (fun c' => hne c'.symm) (by rw [hk, c])
        exact ⟨y, hy, hk, by simp [hyx, hv]⟩
    · intro y u hy hu
      rw [hlist]
      by_cases c : y = x
      · subst c
        simp only [if_true, Option.some.injEq] at hu
        subst hu
        exact ⟨{ e0 with key := kv y, val := v }, List.mem_iff_getElem.2 ⟨j, by simpa using hjl, by simp⟩, rfl, rfl⟩
      · simp only [c, if_false] at hu
        obtain ⟨e, he, hk, hv⟩ := h2 y u hy hu
        obtain ⟨i, hi, ex⟩ := List.getElem_of_mem he
        have hne : i ≠ j := by
          rintro rfl
          rw [List.getElem?_eq_getElem hi, Option.some.injEq] at q2
          exact c (Q.inj y x hy hx (by rw [← hk, ← q3, ← ex, q2]))
        exact ⟨e, List.mem_iff_getElem.2 ⟨i, by simpa using hi, by rw [List.getElem_set_ne (fun c' => hne c'.symm)]; exact ex⟩, hk, hv⟩
    · rw [hlist, List.pairwise_iff_getElem]
      intro i j' hi hj' hlt
      rw [List.pairwise_iff_getElem] at h3
      have hi0 : i < es.toList.length := by simpa using hi
      have hj0 : j' < es.toList.length := by simpa using hj'
      rw [List.getElem_set, List.getElem_set]
      split
      · rename_i e1
        split
        · omega
        · exact fun c => apart j' _ (List.getElem?_eq_getElem hj0) (by omega) c.symm
      · split
        · exact apart i _ (List.getElem?_eq_getElem hi0) (by omega)
        · exact h3 i j' hi0 hj0 hlt

omit [DecidableEq κ] in
theorem wpList_lookupF {ops : Array Oper} {rest : List Oper} {o : Oper} {a : Act} {R : Exit → Act → World → Prop}
    (hg : o.guard = none) (m x : Operand) (t : TypeId) (hop : o.op = Op.lookup t m x false)
    (e : TypeId) (Q : KeyF P k ok kv) (ht : P.underlying t = some (.map k e)) (z : Value) (hz : (zeroValue e).run P w = .ok z w) (y : κ) (hy : ok y)
    (hm : a.eval m = .map (some b)) (hown : MapF ok kv b f w) (hx : a.eval x = kv y) (u : Value) (hu : (f y).getD z = u) (hK : wpList P ops R rest (a.put o.dst u) w) :
    wpList P ops R (o :: rest) a w := by
  refine wpList_plain hg fun K' hK' => ?_
  have hrun := hown.lookup Q ht hz hy
  rw [hu] at hrun
  unfold Oper.wp
  simp [execOp, hop, hm, hx, hrun, Result.andThen]
  exact hK' _ _ hK
theorem wpList_updateF {ops : Array Oper} {rest : List Oper} {o : Oper} {a : Act} {R : Exit → Act → World → Prop}
    (hg : o.guard = none) (m x v : Operand) (t : TypeId) (hop : o.op = Op.mapUpdate t m x v)
    (e : TypeId) (Q : KeyF P k ok kv) (ht : P.underlying t = some (.map k e)) (y : κ) (hy : ok y) (u : Value)
    (hm : a.eval m = .map (some b)) (hown : MapF ok kv b f w) (hx : a.eval x = kv y) (hv : a.eval v = u)
    (hK : ∀ w', MapF ok kv b (fun i => if i = y then some u else f i) w' → w.grownBy w' (some b) → w'.heap.size = w.heap.size → wpList P ops R rest (a.put o.dst undef) w') :
    wpList P ops R (o :: rest) a w := by
  refine wpList_plain hg fun K' hK' => ?_
  obtain ⟨w', hrun, r1, r2, r3⟩ := hown.update Q ht hy u
  unfold Oper.wp
  simp [execOp, hop, hm, hx, hv, hrun, Result.andThen]
  exact hK' _ _ (hK w' r1 r2 r3)
theorem step_updateF {ops : Array Oper} {o : Oper} {a : Act} {K : Act → World → Prop} {R : Exit → Act → World → Prop} {E : Prop}
    (hg : o.guard = none) (m x v : Operand) (t : TypeId) (hop : o.op = Op.mapUpdate t m x v)
    (e : TypeId) (Q : KeyF P k ok kv) (ht : P.underlying t = some (.map k e)) (y : κ) (hy : ok y) (u : Value)
    (hm : a.eval m = .map (some b)) (hown : MapF ok kv b f w) (hx : a.eval x = kv y) (hv : a.eval v = u)
    (hK : ∀ w', MapF ok kv b (fun i => if i = y then some u else f i) w' → w.grownBy w' (some b) → w'.heap.size = w.heap.size → K (a.put o.dst undef) w') :
    if Region.wanted o (yielded ops a.tmps) = true then Oper.wp P o a w K R else E := by
  have hw : Region.wanted o (yielded ops a.tmps) = true := by simp [Region.wanted, hg]
  rw [if_pos hw]
  obtain ⟨w', hrun, r1, r2, r3⟩ := hown.update Q ht hy u
  unfold Oper.wp
  simp [execOp, hop, hm, hx, hv, hrun, Result.andThen]
  exact hK w' r1 r2 r3
end

/-- The keys: a member, a block, a page; a member. -/
def kv3 (x : Nat × Nat × Nat) : Value := .agg #[.int .i64 (x.1 : Int), .int .i64 (x.2.1 : Int), .int .i64 (x.2.2 : Int)]
def ok3 (x : Nat × Nat × Nat) : Prop := x.1 ≤ 100000 ∧ x.2.1 ≤ 100000 ∧ x.2.2 ≤ 100000
def kv1 (x : Nat) : Value := .int .i64 (x : Int)
def ok1 (x : Nat) : Prop := x ≤ 100000
theorem row3 : 65 < Tryz.prog.types.size := of_decide_eq_true (by kernel_rfl)
theorem cells3 : Tryz.prog.cellsOf 65 = 3 := by kernel_rfl
theorem cellsI : Tryz.prog.cellsOf 3 = 1 := by kernel_rfl
theorem keyT3 : Tryz.prog.keyType 65 = true := by kernel_rfl
theorem wf64 {n : Nat} (h : n ≤ 100000) : (Lit.int .i64 (n : Int)).wf = true := by
  simp [Lit.wf, IntKind.min, IntKind.max, IntKind.signed, IntKind.bits]
  omega
theorem lits3 (d : Nat) (x : Nat × Nat × Nat) (hx : ok3 x) : Tryz.prog.keyLits (d + 2) 65 (kv3 x).cells.toList = some [.int .i64 (x.1 : Int), .int .i64 (x.2.1 : Int), .int .i64 (x.2.2 : Int)] := by
  obtain ⟨a, b, c⟩ := x
  obtain ⟨h1, h2, h3⟩ := hx
  have w1 := wf64 h1
  have w2 := wf64 h2
  have w3 := wf64 h3
  simp only at w1 w2 w3
  have e : List.range 3 = [0, 1, 2] := rfl
  simp [Program.keyLits, Tryz.underlying65, Tryz.underlying3, kv3, Value.cells, cells3, cellsI, e, w1, w2, w3]
theorem keyAt3 : Tryz.prog.keyTypeAt 2 65 = true := by kernel_rfl
theorem law3 : WideMaps.KeyLaw Tryz.prog 65 := deep_law_laid laidOut (m := 2) (by omega) row3 keyAt3 (by rw [Tryz.underlying65])
theorem keyF3 : KeyF Tryz.prog 65 ok3 kv3 where
  K := Keyed.of_law law3
  read x hx := by
    have hs : Tryz.prog.types.size + 1 = (Tryz.prog.types.size - 1) + 2 := by have := row3; omega
    have hf : (kv3 x).formed Tryz.prog 65 = true := by simp [kv3, Value.formed, Tryz.underlying65, cells3]
    have hl := lits3 (Tryz.prog.types.size - 1) x hx
    rw [← hs] at hl
    exact ⟨_, by simp only [keyOf, Tryz.underlying65, keyT3, hf, hl, Bool.and_self, if_true, Option.map_some]; rfl⟩
  inj x y _ _ h := by
    obtain ⟨a, b, c⟩ := x
    obtain ⟨a', b', c'⟩ := y
    simp only [kv3, Value.agg.injEq, Array.mk.injEq, List.cons.injEq, Value.int.injEq, true_and, and_true, Int.natCast_inj] at h
    obtain ⟨rfl, rfl, rfl⟩ := h
    rfl
theorem keyF1 : KeyF Tryz.prog 3 ok1 kv1 where
  K := Maps.int_keyed Tryz.underlying3
  read x hx := ⟨_, Maps.keyOf_int_mk Tryz.underlying3 (wf64 hx)⟩
  inj x y _ _ h := by
    simp only [kv1, Value.int.injEq, true_and, Int.natCast_inj] at h
    exact h

end Go.Proofs.YthgcjiocelcblaaGreat
