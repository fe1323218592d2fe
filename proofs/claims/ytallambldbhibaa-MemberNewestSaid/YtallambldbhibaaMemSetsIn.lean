/- Sets that come in. -/
import Derived.Test.YtallambldbhibaaFrame
import Derived.Test.YtallambldbhibaaMemNew
import Derived.Lib.SmallJoins
import Derived.SizedLaws
import Derived.Deep.Strs
import Derived.Deep.Slices
namespace Go.Proofs.Ytallambldbhibaa
open Go.ChangeShapes Go.WideShapes Go.ChangeAt Go.RowKit Go.Deep

instance : Inhabited MSet := ⟨⟨0, none, 0, 0, 0, 0, 0, []⟩⟩
theorem weightsAll_mem {H : Type} {P : Program} {e : TypeId} : ∀ {ds : List (DataW H)} {j : Nat} {d : DataW H}, ds[j]? = some d → ∀ n ∈ d.weights P e, n ∈ DataW.weightsAll P e ds
  | [], j, d, h => by simp at h
  | d0 :: ds, 0, d, h => by
    simp only [List.getElem?_cons_zero, Option.some.injEq] at h
    subst h
    intro n hn
    simp only [DataW.weightsAll, List.mem_append]
    exact Or.inl hn
  | d0 :: ds, j + 1, d, h => by
    simp only [List.getElem?_cons_succ] at h
    intro n hn
    simp only [DataW.weightsAll, List.mem_append]
    exact Or.inr (weightsAll_mem h n hn)
theorem wfm_int {x : Int} (h : (Lit.int .i64 x).wf = true) : -9223372036854775808 ≤ x ∧ x ≤ 9223372036854775807 := by
  have hm : IntKind.i64.min = -9223372036854775808 := by decide
  have hM : IntKind.i64.max = 9223372036854775807 := by decide
  simp [Lit.wf, hm, hM] at h; omega
theorem wfm_u32 {x : Int} (h : (Lit.int .u32 x).wf = true) : ∃ n : Nat, x = (n : Int) ∧ n < 4294967296 := by
  have hm : IntKind.u32.min = 0 := by decide
  have hM : IntKind.u32.max = 4294967295 := by decide
  simp [Lit.wf, hm, hM] at h
  exact ⟨x.toNat, by omega, by omega⟩
theorem five_list {α : Type} {l : List α} (h : l.length = 5) : ∃ a b c d e, l = [a, b, c, d, e] := by
  match l, h with
  | [a, b, c, d, e], _ => exact ⟨a, b, c, d, e, rfl⟩
theorem addM_at (b off i j : Nat) : (((⟨b, off, none⟩ : Addr).add i).add j) = ⟨b, off + i + j, none⟩ := by
  unfold Addr.add
  split <;> split <;> simp_all <;> omega
section
variable {H : Type} {enc : TypeId × Value → H} {W : World} {v : Value} {d : DataW H} {p : List MemPlace} {base : Nat}
theorem rowI_in {fuel : Nat} {u : Value} {y : DataW H × List MemPlace} (hf : DataW.trod enc Try.prog W 0 (fun _ => true) true fuel 65 [u] = some y) :
    ∃ a n c L, u = .slice a n c ∧ RowI W a n c L ∧ ((∀ m ∈ y.1.weights Try.prog 65, m ≤ reachBytes) → n * 8 ≤ 140737488355328) := by
  rcases open_ints Try.underlying65 Try.underlying3 (by kernel_rfl) hf with ⟨hcs, _⟩ | ⟨x, l, c, zs, hcs, _, hl, hm, hz, hx, hcell, hwz⟩
  · simp at hcs
    subst hcs
    exact ⟨none, 0, 0, [], rfl, ⟨rfl, Nat.le_refl _, Nat.zero_le _, fun _ => rfl, by simp, fun h => by omega⟩, fun _ => by omega⟩
  · simp at hcs
    subst hcs
    have hz' : zs.length = c := by simpa using hz
    refine ⟨some x, l, c, zs.take l, rfl, ⟨by simp; omega, hl, hm, (fun h => by cases h), fun z hzm => wfm_int (hwz z (List.mem_of_mem_take hzm)), fun h0 => ?_⟩, fun hw => ?_⟩
    · obtain ⟨b, off, spot⟩ := x
      have hc := hcell 0 (by omega)
      have hspot : spot = none := by simpa [Addr.add] using World.cell?_spot hc
      subst hspot
      refine ⟨b, off, rfl, fun i hi => ?_⟩
      have hci := hcell i (by omega)
      have e : (zs.take l).getD i 0 = zs.getD i 0 := by
        rw [List.getD, List.getD, List.getElem?_take_of_lt hi]
      rw [e, ← hci]
      congr 1
      unfold Addr.add
      split
      · rename_i h; subst h; simp
      · rfl
    · rw [hx] at hw
      have := hw ((lits IntKind.i64 (zs.take l)).length + (lits IntKind.i64 (zs.drop l)).length |> (· * Try.prog.bytesOf 3)) (by simp only [DataW.weights, Try.underlying65]; exact List.mem_cons_self)
      have e1 : (lits (H := H) IntKind.i64 (zs.take l)).length + (lits (H := H) IntKind.i64 (zs.drop l)).length = c := by
        unfold lits
        simp
        omega
      have b8 : Try.prog.bytesOf 3 = 8 := by kernel_rfl
      rw [b8] at this
      have this2 : ((lits (H := H) IntKind.i64 (zs.take l)).length + (lits (H := H) IntKind.i64 (zs.drop l)).length) * 8 ≤ reachBytes := this
      rw [e1] at this2
      unfold reachBytes at this2
      omega
set_option maxRecDepth 100000 in
theorem set_in {n : Nat} {cs : List Value} {x : DataW H × List MemPlace} (h : DataW.trod enc Try.prog W 0 (fun _ => true) true n 113 cs = some x) :
    ∃ s : MSet, cs = [.int .u32 (s.sq : Int), .slice s.a s.n s.c, .int .i64 s.sp, .int .i64 s.de, .int .i64 s.dn] ∧ MSetOk W s ∧ ((∀ m ∈ x.1.weights Try.prog 113, m ≤ reachBytes) → s.n * 8 ≤ 140737488355328) := by
  obtain ⟨xs, n, _, rfl, hl, hlen, hf⟩ := DataW.trod_struct Try.underlying113 h
  have hc : Try.prog.cellsOf 113 = 5 := by kernel_rfl
  rw [hc] at hl
  obtain ⟨c0, c1, c2, c3, c4, rfl⟩ := five_list hl
  obtain ⟨x0, x1, x2, x3, x4, rfl⟩ := five_list (l := xs) (by rw [hlen]; rfl)
  have hg : ∀ (j : Nat) (ty : TypeId) (off : Nat), ((#[] : Array Field) = #[]) → (match Try.prog.underlying 113 with | some (.struct fs) => (fs[j]?).map (fun f => (f.type, f.offset)) | _ => none) = some (ty, off) → DataW.trod enc Try.prog W 0 (fun _ => true) true n ty (([c0, c1, c2, c3, c4].drop off).take (Try.prog.cellsOf ty)) = [x0, x1, x2, x3, x4][j]? := by
    intro j ty off _ hj
    rw [Try.underlying113] at hj
    simp only [Option.map_eq_some_iff, Prod.mk.injEq] at hj
    obtain ⟨f, hf1, rfl, rfl⟩ := hj
    exact hf j f hf1
  have h0 := hg 0 24 0 rfl rfl
  have h1 := hg 1 65 1 rfl rfl
  have h2 := hg 2 3 2 rfl rfl
  have h3 := hg 3 3 3 rfl rfl
  have h4 := hg 4 3 4 rfl rfl
  have ki : Try.prog.cellsOf 3 = 1 := by kernel_rfl
  have ku : Try.prog.cellsOf 24 = 1 := by kernel_rfl
  have ks : Try.prog.cellsOf 65 = 1 := by kernel_rfl
  simp only [ki, ku, ks, List.drop_zero, List.drop_succ_cons, List.take_succ_cons, List.take_zero, List.getElem?_cons_zero, List.getElem?_cons_succ] at h0 h1 h2 h3 h4
  obtain ⟨y0, e0, _, w0⟩ := DataW.trod_int Try.underlying24 h0
  obtain ⟨a, m, c, L, rfl, hrow, hw1⟩ := rowI_in h1
  obtain ⟨y2, e2, _, w2⟩ := DataW.trod_int Try.underlying3 h2
  obtain ⟨y3, e3, _, w3⟩ := DataW.trod_int Try.underlying3 h3
  obtain ⟨y4, e4, _, w4⟩ := DataW.trod_int Try.underlying3 h4
  simp only [List.cons.injEq, and_true] at e0 e2 e3 e4
  subst e0 e2 e3 e4
  obtain ⟨q, rfl, hq⟩ := wfm_u32 w0
  refine ⟨⟨q, a, m, c, y2, y3, y4, L⟩, rfl, ⟨hrow, hq, wfm_int w2, wfm_int w3, wfm_int w4⟩, fun hw => hw1 fun k hk => hw k ?_⟩
  simp only [DataW.weights, Try.underlying113]
  exact DataW.weights_mem_each (j := 1) rfl rfl k hk
set_option maxRecDepth 100000 in
theorem sets_in (hv : Value.okWide Try.prog W .any base 133 v) (h : DataW.Trod enc Try.prog W 0 (fun _ => true) true 133 v d p) (hw : ∀ m ∈ d.weights Try.prog 133, m ≤ reachBytes) :
    ∃ a len cap S, v = .slice a len cap ∧ RowM W a len cap S := by
  obtain ⟨a, len, cap, rfl⟩ := okWide_slice Try.underlying133 hv
  obtain ⟨fuel, hf⟩ := h
  rcases open_slice Try.underlying133 hf with ⟨hcs, _⟩ | ⟨x, l, c, m, n', D, Pl, hcs, _, hl, hm, hmm, hxx, hx⟩
  · simp [Value.cells] at hcs
    obtain ⟨rfl, rfl, rfl⟩ := hcs
    exact ⟨_, _, _, fun _ => ⟨0, none, 0, 0, 0, 0, 0, []⟩, rfl, ⟨Nat.le_refl _, by unfold maxLen; omega, fun h => by omega⟩⟩
  · simp [Value.cells] at hcs
    obtain ⟨rfl, rfl, rfl⟩ := hcs
    simp only [Prod.mk.injEq] at hxx
    have hmc : m = cap := by simpa using hmm
    rw [hxx.1] at hw
    simp only [DataW.weights, Try.underlying133, List.mem_cons, List.mem_append] at hw
    have c5 : Try.prog.cellsOf 113 = 5 := by kernel_rfl
    rw [c5] at hx
    have each : ∀ i, i < len → ∃ s : MSet, (W.cell? ((x.add (i * 5)).add 0) = some (.int .u32 (s.sq : Int)) ∧ W.cell? ((x.add (i * 5)).add 1) = some (.slice s.a s.n s.c) ∧ W.cell? ((x.add (i * 5)).add 2) = some (.int .i64 s.sp) ∧ W.cell? ((x.add (i * 5)).add 3) = some (.int .i64 s.de) ∧ W.cell? ((x.add (i * 5)).add 4) = some (.int .i64 s.dn)) ∧ MSetOk W s ∧ s.n * 8 ≤ 140737488355328 := by
      intro i hi
      obtain ⟨cs', h1, h2⟩ := hx i (by omega)
      obtain ⟨_, hlen, hat⟩ := World.cells?_some h1
      obtain ⟨s, rfl, hok, hsw⟩ := set_in h2
      refine ⟨s, ⟨hat 0 (by omega), hat 1 (by omega), hat 2 (by omega), hat 3 (by omega), hat 4 (by omega)⟩, hok, hsw fun k hk => hw k (.inr (.inl ?_))⟩
      exact weightsAll_mem (j := i) (by simp [hi]) k hk
    obtain ⟨f, hf2⟩ := choose_lt each
    refine ⟨_, _, _, f, rfl, ⟨hl, hm, fun h0 => ?_⟩⟩
    obtain ⟨b, off, spot⟩ := x
    have hspot : spot = none := by
      have h1 := (hf2 0 h0).1.1
      have h2 := World.cell?_spot h1
      simpa [Addr.add] using h2
    subst hspot
    refine ⟨b, off, rfl, fun i hi => ?_⟩
    obtain ⟨h1, h2, h3⟩ := hf2 i hi
    rw [addM_at, addM_at, addM_at, addM_at, addM_at] at h1
    exact ⟨h1, h2, h3⟩
end
end Go.Proofs.Ytallambldbhibaa
