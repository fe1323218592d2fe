/- names.Split. -/
import Derived.Test.YtdpkinppkhnjkaaDoorNCheck
import Derived.Lib.SplitLaws
namespace Go.Proofs.YtdpkinppkhnjkaaDoor
open Go.RowKit

def slash : ByteArray := ⟨#[47]⟩
def partsOf (s : ByteArray) : List ByteArray := Lib.splitB slash 0 (Lib.countB s slash) s
/-- The names behind some parts: those that are there, and an error. -/
def stackGo : List ByteArray → List ByteArray → List ByteArray × Int
  | [], acc => (acc, 0)
  | p :: ps, acc =>
    if p.toList = [] ∨ p.toList = [46] then stackGo ps acc
    else if p.toList = [46, 46] then stackGo ps acc.dropLast
    else if checkOf p ≠ 0 then ([], checkOf p)
    else stackGo ps (acc ++ [p])
def goRes (a : List ByteArray × Int) : List ByteArray × Int := if a.2 ≠ 0 then ([], a.2) else if 12 < a.1.length then ([], 36) else (a.1, 0)
theorem goRes_err {a : List ByteArray × Int} (h : a.2 ≠ 0) : goRes a = ([], a.2) := by unfold goRes; rw [if_pos h]
theorem goRes_deep {a : List ByteArray × Int} (h : a.2 = 0) (h1 : 12 < a.1.length) : goRes a = ([], 36) := by unfold goRes; rw [if_neg (fun e => e h), if_pos h1]
theorem goRes_ok {a : List ByteArray × Int} (h : a.2 = 0) (h1 : ¬ 12 < a.1.length) : goRes a = (a.1, 0) := by unfold goRes; rw [if_neg (fun e => e h), if_neg h1]
def splitOf (s : ByteArray) : List ByteArray × Int :=
  if Lib.hasPrefix s.data.toList [47] = false then ([], 22) else if 200 < s.size then ([], 36)
  else goRes (stackGo (partsOf s) [])
/-- A slice of texts of the call's own. -/
def StrsOwn (B : Nat) (w : World) (sv : Value) (l : List ByteArray) : Prop := w.ownsRow B 9 1 sv l.length (l.map Value.string)
def SplitRet (w : World) (r : List ByteArray × Int) (e : Ending) (w' : World) : Prop := ∃ sv, e = .returned (.tuple #[sv, .int .i64 r.2]) ∧ StrsOwn w.heap.size w' sv r.1 ∧ Below w.heap.size w w'
theorem info_str : (Tryd.prog.info? 9).map (fun i => (i.zero, i.size, i.bytes)) = some (some (.string ⟨#[]⟩), 1, 16) := by kernel_rfl
theorem strs_nil (B : Nat) (w : World) : StrsOwn B w (.slice none 0 0) [] := World.ownsRow_nil _ _ _ _
theorem parts_row (w : World) (l : List ByteArray) (t : TypeId) (k : Nat) (hk : k < l.length) : (w.alloc (.cells (l.map Value.string).toArray t)).cell? ⟨w.heap.size, k, none⟩ = some (.string l[k]) := by
  rw [World.cell?_alloc_mark w (l.map Value.string).toArray t (0, 0) k]
  simp [hk]
theorem splitB_size (sep : ByteArray) : ∀ (k : Nat) (s : ByteArray), ∀ p ∈ Lib.splitB sep 0 k s, p.size ≤ s.size
  | 0, s, p, hp => by simp [Lib.splitB] at hp; rw [hp]; exact Nat.le_refl _
  | k + 1, s, p, hp => by
    unfold Lib.splitB at hp
    split at hp
    · simp at hp; rw [hp]; exact Nat.le_refl _
    · rw [List.mem_cons] at hp
      rcases hp with rfl | hp
      · simp; omega
      · have := splitB_size sep k _ p hp
        simp at this
        omega
theorem news_one (w : World) (v : Value) (t : TypeId) : ∀ (j : Nat) (u : Value), [v][j]? = some u → (w.alloc (.cells #[v] t)).cell? ((⟨w.heap.size, 0, none⟩ : Addr).add j) = some u := by
  intro j u hu
  match j, hu with
  | 0, hu => simp at hu; subst hu; exact cell_new1 w v t
theorem owns_cap {B : Nat} {w : World} {e : TypeId} {sz : Nat} {a : Option Addr} {n c m : Nat} {xs : List Value} (h : w.ownsRow B e sz (.slice a n c) m xs) : n ≤ c := by
  rcases h.2 with ⟨h0, h1⟩ | ⟨g, cap, cur, e1, _, _, e4, _⟩
  · simp only [Value.slice.injEq] at h0; omega
  · simp only [Value.slice.injEq] at e1; omega
theorem run_upto (a : Option Addr) (n c j : Nat) (hj : j ≤ c) (w : World) : (Instr.slice 35 (.slice a n c) none (some (.int .i64 (j : Int))) none).run Tryd.prog w = .ok (.slice a j c) w := by
  have hz : (sizeOf (Tryd.prog.elem 35)).run Tryd.prog w = .ok 1 w := by kernel_rfl
  rw [run_slice_h (P := Tryd.prog) w 35 a n c Tryd.underlying35 .i64 (j : Int) (by omega) (by omega), hz]
  simp only [Result.andThen, sliced, Int.toNat_natCast, Nat.zero_mul, Nat.sub_zero]
  congr 2
  split
  · rfl
  · cases a with
    | none => rfl
    | some x => simp [Addr.add]
theorem owns_take {B : Nat} {w : World} {a : Option Addr} {c j : Nat} {l : List ByteArray} (h : StrsOwn B w (.slice a l.length c) l) (hj : j ≤ l.length) : StrsOwn B w (.slice a j c) (l.take j) := by
  have hlen : (l.take j).length = j := by simp; omega
  unfold StrsOwn at h ⊢
  rw [hlen]
  refine ⟨by simp; omega, ?_⟩
  rcases h.2 with ⟨h0, h1⟩ | ⟨g, cap, cur, e1, e2, e3, e4, e5, e6, e7⟩
  · simp only [Value.slice.injEq] at h0
    obtain ⟨rfl, _, rfl⟩ := h0
    have : j = 0 := by omega
    subst this
    exact .inl ⟨rfl, rfl⟩
  · simp only [Value.slice.injEq] at e1
    obtain ⟨rfl, _, rfl⟩ := e1
    refine .inr ⟨g, c, cur, rfl, e2, e3, by omega, e5, e6, ?_⟩
    have h7 := congrArg (List.take (j * 1)) e7
    rw [List.take_take, Nat.min_eq_left (by omega)] at h7
    rw [h7, List.map_take, Nat.mul_one]
end Go.Proofs.YtdpkinppkhnjkaaDoor
