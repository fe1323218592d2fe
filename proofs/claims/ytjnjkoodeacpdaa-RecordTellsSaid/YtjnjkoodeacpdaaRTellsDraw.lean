/- RecordTells' last statement, of a logical block's: what each operation yields. -/
import Derived.Test.YtjnjkoodeacpdaaRTellsWalk
import Derived.Test.YtjnjkoodeacpdaaRSealA
import Derived.Test.YtjnjkoodeacpdaaInv
namespace Go.Proofs.Ytjnjkoodeacpdaa
open Go.RowKit

/-- What operation j yields. -/
def TellV (e b i c l B : Nat) (j : Nat) (v : Value) : Prop :=
  match j with
  | 0 => v = .bool true
  | 1 => v = .bool false
  | 2 => v = .bool false
  | 3 => v = undef
  | 4 => v = undef
  | 5 => v = undef
  | 6 => v = .bool false
  | 7 => v = .bool false
  | 8 => v = .bool true
  | 9 => v = .bool true
  | 10 => v = .agg #[.int .u32 ((e : Nat) : Int), .int .u32 ((b : Nat) : Int), .int .i64 ((i : Nat) : Int), .int .i64 ((c : Nat) : Int), .int .u32 ((l : Nat) : Int)]
  | 11 => v = .iface 110 (.agg #[.int .u32 ((e : Nat) : Int), .int .u32 ((b : Nat) : Int), .int .i64 ((i : Nat) : Int), .int .i64 ((c : Nat) : Int), .int .u32 ((l : Nat) : Int)])
  | 12 => v = .agg #[.int .u32 ((e : Nat) : Int), .int .u32 ((b : Nat) : Int), .int .i64 ((i : Nat) : Int), .int .i64 ((c : Nat) : Int), .int .u32 ((l : Nat) : Int)]
  | 13 => v = .bool true
  | 14 => v = .bool true
  | 15 => v = .bool true
  | 16 => v = .agg #[.int .u32 ((e : Nat) : Int), .int .u32 ((b : Nat) : Int), .int .i64 ((i : Nat) : Int), .int .i64 ((c : Nat) : Int), .int .u32 ((l : Nat) : Int)]
  | 17 => v = .pointer (some ⟨B, 1, none⟩)
  | 18 => v = .int .u32 ((e : Nat) : Int)
  | 19 => v = .pointer (some ⟨B, 2, none⟩)
  | 20 => v = .int .u32 ((b : Nat) : Int)
  | 21 => v = .pointer (some ⟨B, 3, none⟩)
  | 22 => v = .int .u16 ((i : Nat) : Int)
  | 23 => v = .int .i64 ((i : Nat) : Int)
  | 24 => v = .pointer (some ⟨B, 4, none⟩)
  | 25 => v = .int .u16 ((c : Nat) : Int)
  | 26 => v = .int .i64 ((c : Nat) : Int)
  | 27 => v = .pointer (some ⟨B, 5, none⟩)
  | 28 => v = .int .u32 ((l : Nat) : Int)
  | 29 => v = .agg #[.int .u32 ((e : Nat) : Int), .int .u32 ((b : Nat) : Int), .int .i64 ((i : Nat) : Int), .int .i64 ((c : Nat) : Int), .int .u32 ((l : Nat) : Int)]
  | 30 => v = .bool true
  | 31 => v = .bool true
  | 32 => v = .bool true
  | 33 => v = .bool true
  | _ => True
def tellSlot (j : Nat) : Nat := if j = 33 then 2 else 110 + j
structure TellI (e b i c l B : Nat) (a0 : Act) (W1 : World) (L : Nat → Prop) (a : Act) (w : World) : Prop where
  sz : a.tmps.size = 143
  df : a.defers = []
  old : ∀ k, k < 110 → k ≠ 2 → a.tmps.getD k undef = a0.tmps.getD k undef
  bel : Below W1.heap.size W1 w
  val : ∀ j, j < 34 → L j → TellV e b i c l B j (a.tmps.getD (tellSlot j) undef)
theorem TellI.put {e b i c l B : Nat} {a0 a : Act} {W1 w : World} {L : Nat → Prop} (hI : TellI e b i c l B a0 W1 L a w) (j : Nat) (v : Value) (w' : World) (hj : j < 34) (hb : Below w.heap.size w w') (hv : TellV e b i c l B j v := by exact rfl) :
    TellI e b i c l B a0 W1 (fun k => L k ∨ k = j) (a.put (some (tellSlot j)) v) w' := by
  have hs : tellSlot j < 143 := by unfold tellSlot; split <;> omega
  refine ⟨(put_size _ _ _).trans hI.sz, (put_defers _ _ _).trans hI.df, fun k hk hk2 => ?_, bel_trans hI.bel hb, fun q hq hL => ?_⟩
  · rw [put_ne _ _ _ _ (by unfold tellSlot; split <;> omega)]; exact hI.old k hk hk2
  · by_cases e : q = j
    · subst e; rw [put_same _ _ _ (by rw [hI.sz]; exact hs)]; exact hv
    · rw [put_ne _ _ _ _ (by unfold tellSlot; split <;> split <;> omega)]
      exact hI.val q hq (hL.resolve_right e)
theorem frame143 (a : Act) (hs : a.tmps.size = 143) (hd : a.defers = []) : ∃ f : Nat → Value, a = ⟨#[f 0, f 1, f 2, f 3, f 4, f 5, f 6, f 7, f 8, f 9, f 10, f 11, f 12, f 13, f 14, f 15, f 16, f 17, f 18, f 19, f 20, f 21, f 22, f 23, f 24, f 25, f 26, f 27, f 28, f 29, f 30, f 31, f 32, f 33, f 34, f 35, f 36, f 37, f 38, f 39, f 40, f 41, f 42, f 43, f 44, f 45, f 46, f 47, f 48, f 49, f 50, f 51, f 52, f 53, f 54, f 55, f 56, f 57, f 58, f 59, f 60, f 61, f 62, f 63, f 64, f 65, f 66, f 67, f 68, f 69, f 70, f 71, f 72, f 73, f 74, f 75, f 76, f 77, f 78, f 79, f 80, f 81, f 82, f 83, f 84, f 85, f 86, f 87, f 88, f 89, f 90, f 91, f 92, f 93, f 94, f 95, f 96, f 97, f 98, f 99, f 100, f 101, f 102, f 103, f 104, f 105, f 106, f 107, f 108, f 109, f 110, f 111, f 112, f 113, f 114, f 115, f 116, f 117, f 118, f 119, f 120, f 121, f 122, f 123, f 124, f 125, f 126, f 127, f 128, f 129, f 130, f 131, f 132, f 133, f 134, f 135, f 136, f 137, f 138, f 139, f 140, f 141, f 142], []⟩ ∧ ∀ k, a.tmps.getD k undef = f k := by
  refine ⟨fun k => a.tmps.getD k undef, ?_, fun _ => rfl⟩
  obtain ⟨t, d⟩ := a
  simp only at hs hd
  subst hd
  congr 1
  apply Array.ext
  · simp [hs]
  · intro i h1 h2
    have h3 : t[i] = t.getD i undef := by simp [h1]
    rw [h3]
    rw [hs] at h1
    match i, h1 with
    | 0, _ => rfl
    | 1, _ => rfl
    | 2, _ => rfl
    | 3, _ => rfl
    | 4, _ => rfl
    | 5, _ => rfl
    | 6, _ => rfl
    | 7, _ => rfl
    | 8, _ => rfl
    | 9, _ => rfl
    | 10, _ => rfl
    | 11, _ => rfl
    | 12, _ => rfl
    | 13, _ => rfl
    | 14, _ => rfl
    | 15, _ => rfl
    | 16, _ => rfl
    | 17, _ => rfl
    | 18, _ => rfl
    | 19, _ => rfl
    | 20, _ => rfl
    | 21, _ => rfl
    | 22, _ => rfl
    | 23, _ => rfl
    | 24, _ => rfl
    | 25, _ => rfl
    | 26, _ => rfl
    | 27, _ => rfl
    | 28, _ => rfl
    | 29, _ => rfl
    | 30, _ => rfl
    | 31, _ => rfl
    | 32, _ => rfl
    | 33, _ => rfl
    | 34, _ => rfl
    | 35, _ => rfl
    | 36, _ => rfl
    | 37, _ => rfl
    | 38, _ => rfl
    | 39, _ => rfl
    | 40, _ => rfl
    | 41, _ => rfl
    | 42, _ => rfl
    | 43, _ => rfl
    | 44, _ => rfl
    | 45, _ => rfl
    | 46, _ => rfl
    | 47, _ => rfl
    | 48, _ => rfl
    | 49, _ => rfl
    | 50, _ => rfl
    | 51, _ => rfl
    | 52, _ => rfl
    | 53, _ => rfl
    | 54, _ => rfl
    | 55, _ => rfl
    | 56, _ => rfl
    | 57, _ => rfl
    | 58, _ => rfl
    | 59, _ => rfl
    | 60, _ => rfl
    | 61, _ => rfl
    | 62, _ => rfl
    | 63, _ => rfl
    | 64, _ => rfl
    | 65, _ => rfl
    | 66, _ => rfl
    | 67, _ => rfl
    | 68, _ => rfl
    | 69, _ => rfl
    | 70, _ => rfl
    | 71, _ => rfl
    | 72, _ => rfl
    | 73, _ => rfl
    | 74, _ => rfl
    | 75, _ => rfl
    | 76, _ => rfl
    | 77, _ => rfl
    | 78, _ => rfl
    | 79, _ => rfl
    | 80, _ => rfl
    | 81, _ => rfl
    | 82, _ => rfl
    | 83, _ => rfl
    | 84, _ => rfl
    | 85, _ => rfl
    | 86, _ => rfl
    | 87, _ => rfl
    | 88, _ => rfl
    | 89, _ => rfl
    | 90, _ => rfl
    | 91, _ => rfl
    | 92, _ => rfl
    | 93, _ => rfl
    | 94, _ => rfl
    | 95, _ => rfl
    | 96, _ => rfl
    | 97, _ => rfl
    | 98, _ => rfl
    | 99, _ => rfl
    | 100, _ => rfl
    | 101, _ => rfl
    | 102, _ => rfl
    | 103, _ => rfl
    | 104, _ => rfl
    | 105, _ => rfl
    | 106, _ => rfl
    | 107, _ => rfl
    | 108, _ => rfl
    | 109, _ => rfl
    | 110, _ => rfl
    | 111, _ => rfl
    | 112, _ => rfl
    | 113, _ => rfl
    | 114, _ => rfl
    | 115, _ => rfl
    | 116, _ => rfl
    | 117, _ => rfl
    | 118, _ => rfl
    | 119, _ => rfl
    | 120, _ => rfl
    | 121, _ => rfl
    | 122, _ => rfl
    | 123, _ => rfl
    | 124, _ => rfl
    | 125, _ => rfl
    | 126, _ => rfl
    | 127, _ => rfl
    | 128, _ => rfl
    | 129, _ => rfl
    | 130, _ => rfl
    | 131, _ => rfl
    | 132, _ => rfl
    | 133, _ => rfl
    | 134, _ => rfl
    | 135, _ => rfl
    | 136, _ => rfl
    | 137, _ => rfl
    | 138, _ => rfl
    | 139, _ => rfl
    | 140, _ => rfl
    | 141, _ => rfl
    | 142, _ => rfl
    | i + 143, h => omega

end Go.Proofs.Ytjnjkoodeacpdaa
