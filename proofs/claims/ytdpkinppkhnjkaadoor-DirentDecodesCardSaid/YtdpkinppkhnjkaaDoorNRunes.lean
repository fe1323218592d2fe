/- A text's letters, plain and as a slice of runes. -/
import Derived.Test.YtdpkinppkhnjkaaDoorNFirst
import Derived.Lib.RuneCount
import Derived.Laws.IdiomStrings
namespace Go.Proofs.YtdpkinppkhnjkaaDoor
open Go.RowKit

/-- The letters from a place on: where each begins, itself, how many bytes it has. -/
def scan (s : ByteArray) : Nat → Nat → List (Nat × Nat × Nat)
  | 0, _ => []
  | f + 1, pos => if pos < s.size then (pos, (Utf8.decode s pos).1, (Utf8.decode s pos).2) :: scan s f (pos + (Utf8.decode s pos).2) else []
theorem scan_end (s : ByteArray) (f pos : Nat) (h : ¬ pos < s.size) : scan s f pos = [] := by cases f <;> simp [scan, h]
theorem scan_len (s : ByteArray) : ∀ f pos, (scan s f pos).length ≤ f
  | 0, _ => by simp [scan]
  | f + 1, pos => by
    have ih := scan_len s f (pos + (Utf8.decode s pos).2)
    unfold scan
    split
    · simp; omega
    · simp
/-- Enough steps give all letters, whatever the number of steps. -/
theorem scan_more (s : ByteArray) : ∀ f g pos, s.size ≤ pos + f → s.size ≤ pos + g → scan s f pos = scan s g pos := by
  intro f
  induction f with
  | zero => intro g pos h1 h2; rw [scan_end s g pos (by omega)]; rfl
  | succ f ih =>
    intro g pos h1 h2
    cases g with
    | zero => rw [scan_end s (f + 1) pos (by omega)]; rfl
    | succ g =>
      unfold scan
      by_cases hp : pos < s.size
      · have hw := Lib.decode_width_pos s pos hp
        rw [if_pos hp, if_pos hp, ih g _ (by omega) (by omega)]
      · rw [if_neg hp, if_neg hp]
def lets (s : ByteArray) : List (Nat × Nat × Nat) := scan s s.size 0
def runesOf (s : ByteArray) : List Nat := (lets s).map (·.2.1)
theorem runesOf_le (s : ByteArray) : (runesOf s).length ≤ s.size := by unfold runesOf lets; rw [List.length_map]; exact scan_len s _ _
theorem scan_rune (s : ByteArray) : ∀ f pos, ∀ x ∈ scan s f pos, x.2.1 ≤ 1114111
  | 0, _, x, hx => by cases hx
  | f + 1, pos, x, hx => by
    unfold scan at hx
    split at hx
    · rw [List.mem_cons] at hx
      rcases hx with rfl | hx
      · exact Lib.rune_le s pos
      · exact scan_rune s f _ x hx
    · cases hx
theorem runesOf_rune (s : ByteArray) : ∀ x ∈ runesOf s, x ≤ 1114111 := fun x hx => by
  unfold runesOf at hx
  rw [List.mem_map] at hx
  obtain ⟨y, hy, rfl⟩ := hx
  exact scan_rune s _ _ y hy
def runeV (x : Nat) : Value := .int .i32 (x : Int)
theorem runesFrom_scan (s : ByteArray) : ∀ f pos acc, (Conv.runesFrom s f pos acc).toList = acc.toList ++ (scan s f pos).map (fun x => runeV x.2.1)
  | 0, _, acc => by simp [Conv.runesFrom, scan]
  | f + 1, pos, acc => by
    unfold Conv.runesFrom scan
    split
    · simp only
      rw [runesFrom_scan s f _ _]
      simp [runeV]
    · simp
theorem runesFrom_of (s : ByteArray) : (Conv.runesFrom s s.size 0 #[]).toList = (runesOf s).map runeV := by
  rw [runesFrom_scan]; simp [runesOf, lets]
theorem runesFrom_size (s : ByteArray) : (Conv.runesFrom s s.size 0 #[]).size = (runesOf s).length := by
  rw [← Array.length_toList, runesFrom_of, List.length_map]
/-- The room that the conversion takes, and the world behind it. -/
def capR (w : World) (s : ByteArray) : Nat := grownCap w (runesOf s).length 0 21
def runesW (w : World) (s : ByteArray) : World := w.drew.alloc (.cells (Conv.runesFrom s s.size 0 #[] ++ Array.replicate (capR w s - (runesOf s).length) (.int .i32 0)) 21)
theorem conv_runes (s : ByteArray) (hs : s.size ≤ 70368744177664) (w : World) : (convert 9 74 (.string s)).run Tryd.prog w = .ok (.slice (some ⟨w.heap.size, 0, none⟩) (runesOf s).length (capR w s)) (runesW w s) := by
  have h := run_runes_of_string (P := Tryd.prog) w 9 74 21 s Tryd.underlying9 Tryd.underlying74 Tryd.underlying21 (by rw [runesFrom_size]; have := runesOf_le s; omega)
  rw [h, runesFrom_size]
  rfl
theorem runes_row (w : World) (s : ByteArray) (hs : s.size ≤ 70368744177664) : Below w.heap.size w (runesW w s) ∧ Row32 (runesW w s) (some ⟨w.heap.size, 0, none⟩) (runesOf s).length (capR w s) (runesOf s) := by
  have hb : Below w.heap.size w (runesW w s) := ((Below.refl _ w).drew).alloc (Nat.le_refl _) _
  have hcap : (runesOf s).length ≤ capR w s ∧ capR w s ≤ maxLen := ⟨grownCap_ge _ _ _ _, grownCap_le_maxLen _ _ _ _ (by have := runesOf_le s; unfold maxLen; omega)⟩
  refine ⟨hb, rfl, runesOf_rune s, hcap.1, hcap.2, fun _ => ⟨w.heap.size, 0, rfl, fun i hi => ?_⟩⟩
  have h0 := World.cell?_alloc_mark w.drew (Conv.runesFrom s s.size 0 #[] ++ Array.replicate (capR w s - (runesOf s).length) (.int .i32 0)) 21 (0, 0) (0 + i)
  rw [show w.drew.heap.size = w.heap.size from rfl] at h0
  show (w.drew.alloc _).cell? _ = _
  rw [h0, Array.getElem?_append_left (by rw [runesFrom_size]; omega), Nat.zero_add, ← Array.getElem?_toList, runesFrom_of, List.getElem?_map, List.getElem?_eq_getElem hi, getD_in _ _ hi]
  rfl

end Go.Proofs.YtdpkinppkhnjkaaDoor
