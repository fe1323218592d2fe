/- StageSpoilt's case that comes in. -/
import Derived.Test.YtallambldbhibaaFrame
import Derived.Test.YtallambldbhibaaStgIn
import Derived.Test.YtallambldbhibaaStageSpoiltWalk
namespace Go.Proofs.Ytallambldbhibaa
open Go.ChangeShapes Go.WideShapes Go.ChangeAt Go.RowKit

theorem listN5 {α : Type} {l : List α} (h : l.length = 5) : ∃ a0 a1 a2 a3 a4, l = [a0, a1, a2, a3, a4] := by
  match l, h with
  | [a0, a1, a2, a3, a4], _ => exact ⟨a0, a1, a2, a3, a4, rfl⟩
section
variable {H : Type} {enc : TypeId × Value → H} {W : World} {v : Value} {d : DataW H} {p : List MemPlace} {base : Nat}
theorem page_in {fuel : Nat} {u : Value} {y : DataW H × List MemPlace} (hf : DataW.trod enc Try.prog W 0 (fun _ => true) true fuel 37 [u] = some y) :
    ∃ a len cap bs, u = .slice a len cap ∧ InB W a len cap bs := by
  rcases open_ints Try.underlying37 Try.underlying5 (by kernel_rfl) hf with ⟨hcs, _⟩ | ⟨x, l, c, zs, hcs, _, hl, hm, hz, _, hcell, hwz⟩
  · simp at hcs
    subst hcs
    exact ⟨_, _, _, [], rfl, ⟨rfl, (fun x hx => by cases hx), (fun h => by omega)⟩, by omega, by unfold maxLen; omega, fun _ => rfl⟩
  · simp at hcs
    subst hcs
    exact ⟨_, _, _, _, rfl, row_of hl (by simpa using hz) hcell hwz, hl, hm, fun h => by cases h⟩
set_option maxRecDepth 100000 in
theorem spoilt_in (hv : Value.okWide Try.prog W .any base 103 v) (h : DataW.Trod enc Try.prog W 0 (fun _ => true) true 103 v d p) :
    ∃ (x0 x1 x2 : Int) (bo : Bool) (a : Option Addr) (len cap : Nat) (bs : List Nat), v = .agg #[.int .i64 x0, .int .i64 x1, .int .i64 x2, .bool bo, .slice a len cap] ∧ InB W a len cap bs := by
  obtain ⟨cs, rfl, hsz⟩ := okWide_struct Try.underlying103 hv
  obtain ⟨fuel, hf⟩ := h
  have hc : Try.prog.cellsOf 103 = 5 := by kernel_rfl
  rw [hc] at hsz
  obtain ⟨v0, v1, v2, v3, v4, hl⟩ := listN5 (l := cs.toList) (by simpa using hsz)
  obtain ⟨l⟩ := cs
  simp only at hl
  subst hl
  obtain ⟨n, _, hg⟩ := part_in Try.underlying103 hf
  have ki : Try.prog.cellsOf 3 = 1 := by kernel_rfl
  have kb : Try.prog.cellsOf 4 = 1 := by kernel_rfl
  have ks : Try.prog.cellsOf 37 = 1 := by kernel_rfl
  obtain ⟨y0, h0⟩ := hg 0 3 0 rfl
  obtain ⟨y1, h1⟩ := hg 1 3 1 rfl
  obtain ⟨y2, h2⟩ := hg 2 3 2 rfl
  obtain ⟨y3, h3⟩ := hg 3 4 3 rfl
  obtain ⟨y4, h4⟩ := hg 4 37 4 rfl
  simp only [Value.cells, ki, kb, ks, List.drop_zero, List.drop_succ_cons, List.take_succ_cons, List.take_zero] at h0 h1 h2 h3 h4
  obtain ⟨z0, e0, _, _⟩ := DataW.trod_int Try.underlying3 h0
  obtain ⟨z1, e1, _, _⟩ := DataW.trod_int Try.underlying3 h1
  obtain ⟨z2, e2, _, _⟩ := DataW.trod_int Try.underlying3 h2
  obtain ⟨z3, e3, _⟩ := DataW.trod_bool Try.underlying4 h3
  obtain ⟨a, len, cap, bs, rfl, hb⟩ := page_in h4
  simp only [List.cons.injEq, and_true] at e0 e1 e2 e3
  subst e0 e1 e2 e3
  exact ⟨z0, z1, z2, z3, a, len, cap, bs, rfl, hb⟩
end
theorem stageSpoilt_all (ch nv av : Int) (bo : Bool) (pa : Option Addr) (m pc : Nat) (p : List Nat) (w : World) (h : InB w pa m pc p) :
    Calls Try.prog 9 #[.agg #[.int .i64 ch, .int .i64 nv, .int .i64 av, .bool bo, .slice pa m pc]] w fun e w' => e = .returned (.bool true) ∧ Below w.heap.size w w' := by
  by_cases hm : m ≤ 200
  · cases bo with
    | true => exact stageSpoilt_both ch nv av pa m pc p w hm h.1 h.2.2.2
    | false => exact stageSpoilt_one ch nv av pa m pc p w hm h.1 h.2.2.2
  · exact stageSpoilt_big ch nv av bo pa m pc w (Nat.lt_of_not_le hm) (Nat.le_trans h.2.1 h.2.2.1)
end Go.Proofs.Ytallambldbhibaa
