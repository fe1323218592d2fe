/- record.Seal's memory. -/
import Derived.Test.YtnkkeffjnamcgaaRSealR
namespace Go.Proofs.Ytnkkeffjnamcgaa
open Go.RowKit

theorem wr_new0 (w : World) : WR w.heap.size (w.alloc (.cells #[.slice none 0 0] 128)) w.heap.size (.slice none 0 0) [] :=
  ⟨Nat.le_refl _, heap_alloc_new w _, own_nil _ _, fun h => by cases h⟩
theorem row_cut {w : World} {a : Option Addr} {len : Nat} {bs : List Nat} (h : Row w a len bs) (n : Nat) (hn : n ≤ len) : Row w a n (bs.take n) := by
  obtain ⟨h1, h2, h3⟩ := h
  refine ⟨by rw [List.length_take, h1]; omega, fun x hx => h2 x (List.mem_of_mem_take hx), fun h0 => ?_⟩
  obtain ⟨b, off, h4, h5⟩ := h3 (by omega)
  refine ⟨b, off, h4, fun i hi => ?_⟩
  rw [h5 i (by omega)]
  simp [List.getD_eq_getElem?_getD, hi]
/-- The header's cells. -/
def HdrAt (h : RH) (B : Nat) (w : World) : Prop := w.cell? ⟨B, 0, none⟩ = some (.int .u8 (h.ki : Int)) ∧ w.cell? ⟨B, 1, none⟩ = some (.int .u32 (h.ep : Int)) ∧ w.cell? ⟨B, 2, none⟩ = some (.int .u32 (h.ba : Int)) ∧ w.cell? ⟨B, 3, none⟩ = some (.int .u16 (h.ix : Int)) ∧ w.cell? ⟨B, 4, none⟩ = some (.int .u16 (h.ct : Int)) ∧ w.cell? ⟨B, 5, none⟩ = some (.int .u32 (h.bl : Int)) ∧ w.cell? ⟨B, 6, none⟩ = some (.int .u32 (h.mo : Int))
theorem hdr_new (h : RH) (w : World) : HdrAt h w.heap.size (w.alloc (.cells #[.int .u8 (h.ki : Int), .int .u32 (h.ep : Int), .int .u32 (h.ba : Int), .int .u16 (h.ix : Int), .int .u16 (h.ct : Int), .int .u32 (h.bl : Int), .int .u32 (h.mo : Int)] 27)) := by
  refine ⟨?_, ?_, ?_, ?_, ?_, ?_, ?_⟩
  all_goals (rw [World.cell?_alloc_mark w #[.int .u8 (h.ki : Int), .int .u32 (h.ep : Int), .int .u32 (h.ba : Int), .int .u16 (h.ix : Int), .int .u16 (h.ct : Int), .int .u32 (h.bl : Int), .int .u32 (h.mo : Int)] 27 (0, 0)]; rfl)
theorem HdrAt.below {h : RH} {B B' : Nat} {w w' : World} (hh : HdrAt h B w) (hb : Below B' w w') (hlt : B < B') : HdrAt h B w' := by
  have hc : ∀ k, w'.cell? ⟨B, k, none⟩ = w.cell? ⟨B, k, none⟩ := fun k => hb.cell (p := ⟨B, k, none⟩) hlt
  unfold HdrAt
  simp only [hc]
  exact hh
theorem seal_start {h : RH} {w W1 : World} (e : W1 = (w.alloc (.cells #[.int .u8 (h.ki : Int), .int .u32 (h.ep : Int), .int .u32 (h.ba : Int), .int .u16 (h.ix : Int), .int .u16 (h.ct : Int), .int .u32 (h.bl : Int), .int .u32 (h.mo : Int)] 27)).alloc (.cells #[.slice none 0 0] 128)) :
    Below w.heap.size w W1 ∧ WR (w.heap.size + 1) W1 (w.heap.size + 1) (.slice none 0 0) [] ∧ HdrAt h w.heap.size W1 ∧ W1.heap.size = w.heap.size + 2 := by
  subst e
  have h1 := hdr_new h w
  have h2 := wr_new0 (w.alloc (.cells #[.int .u8 (h.ki : Int), .int .u32 (h.ep : Int), .int .u32 (h.ba : Int), .int .u16 (h.ix : Int), .int .u16 (h.ct : Int), .int .u32 (h.bl : Int), .int .u32 (h.mo : Int)] 27))
  have hz : (w.alloc (.cells #[.int .u8 (h.ki : Int), .int .u32 (h.ep : Int), .int .u32 (h.ba : Int), .int .u16 (h.ix : Int), .int .u16 (h.ct : Int), .int .u32 (h.bl : Int), .int .u32 (h.mo : Int)] 27)).heap.size = w.heap.size + 1 := by simp
  rw [hz] at h2
  exact ⟨bel_alloc (bel_alloc (Below.refl _ w) _) _, h2, h1.below (bel_alloc (Below.refl _ _) _) (by omega), by simp⟩

theorem frame58 (a : Act) (hs : a.tmps.size = 58) (hd : a.defers = []) : ∃ f : Nat → Value, a = ⟨#[f 0, f 1, f 2, f 3, f 4, f 5, f 6, f 7, f 8, f 9, f 10, f 11, f 12, f 13, f 14, f 15, f 16, f 17, f 18, f 19, f 20, f 21, f 22, f 23, f 24, f 25, f 26, f 27, f 28, f 29, f 30, f 31, f 32, f 33, f 34, f 35, f 36, f 37, f 38, f 39, f 40, f 41, f 42, f 43, f 44, f 45, f 46, f 47, f 48, f 49, f 50, f 51, f 52, f 53, f 54, f 55, f 56, f 57], []⟩ ∧ ∀ k, a.tmps.getD k undef = f k := by
  refine ⟨fun k => a.tmps.getD k undef, ?_, fun _ => rfl⟩
  obtain ⟨t, d⟩ := a
  simp only at hs hd
  subst hd
  congr 1
  apply Array.ext
  · simp [hs]
  · intro i h1 h2
    have h3 : t[i] = t.getD i undef := by simp [h1]
    rw [h3]
    rw [hs] at h1
    match i, h1 with
    | 0, _ => rfl
    | 1, _ => rfl
    | 2, _ => rfl
    | 3, _ => rfl
    | 4, _ => rfl
    | 5, _ => rfl
    | 6, _ => rfl
    | 7, _ => rfl
    | 8, _ => rfl
    | 9, _ => rfl
    | 10, _ => rfl
    | 11, _ => rfl
    | 12, _ => rfl
    | 13, _ => rfl
    | 14, _ => rfl
    | 15, _ => rfl
    | 16, _ => rfl
    | 17, _ => rfl
    | 18, _ => rfl
    | 19, _ => rfl
    | 20, _ => rfl
    | 21, _ => rfl
    | 22, _ => rfl
    | 23, _ => rfl
    | 24, _ => rfl
    | 25, _ => rfl
    | 26, _ => rfl
    | 27, _ => rfl
    | 28, _ => rfl
    | 29, _ => rfl
    | 30, _ => rfl
    | 31, _ => rfl
    | 32, _ => rfl
    | 33, _ => rfl
    | 34, _ => rfl
    | 35, _ => rfl
    | 36, _ => rfl
    | 37, _ => rfl
    | 38, _ => rfl
    | 39, _ => rfl
    | 40, _ => rfl
    | 41, _ => rfl
    | 42, _ => rfl
    | 43, _ => rfl
    | 44, _ => rfl
    | 45, _ => rfl
    | 46, _ => rfl
    | 47, _ => rfl
    | 48, _ => rfl
    | 49, _ => rfl
    | 50, _ => rfl
    | 51, _ => rfl
    | 52, _ => rfl
    | 53, _ => rfl
    | 54, _ => rfl
    | 55, _ => rfl
    | 56, _ => rfl
    | 57, _ => rfl
    | i + 58, h => omega
theorem row_new2 (w : World) {K : IntKind} {M n m : Nat} {t : TypeId} (hn : n < M) (hm : m < M) : RowK K M (w.alloc (.cells #[.int K (n : Int), .int K (m : Int)] t)) (some ⟨w.heap.size, 0, none⟩) 2 [n, m] := by
  obtain ⟨c0, c1⟩ := cell_new2 w (.int K (n : Int)) (.int K (m : Int)) t
  refine ⟨rfl, fun x hx => ?_, fun _ => ⟨_, 0, rfl, fun i hi => ?_⟩⟩
  · simp at hx; omega
  · rcases (by omega : i = 0 ∨ i = 1) with rfl | rfl
    · exact c0
    · exact c1
theorem cell_three (w : World) (v0 v1 v2 : Value) (t : TypeId) : (w.alloc (.cells #[v0, v1, v2] t)).cell? ⟨w.heap.size, 0, none⟩ = some v0 ∧ (w.alloc (.cells #[v0, v1, v2] t)).cell? ⟨w.heap.size, 1, none⟩ = some v1 ∧ (w.alloc (.cells #[v0, v1, v2] t)).cell? ⟨w.heap.size, 2, none⟩ = some v2 := by
  refine ⟨?_, ?_, ?_⟩
  all_goals (rw [World.cell?_alloc_mark w #[v0, v1, v2] t (0, 0)]; rfl)
/-- The sum of three parts. -/
theorem of_three (b cap : Nat) (a0 a1 a2 : Option Addr) (l0 l1 l2 c0 c1 c2 : Nat) (b0 b1 b2 : List Nat) (w : World)
    (h0 : w.cell? ⟨b, 0, none⟩ = some (.slice a0 l0 c0)) (h1 : w.cell? ⟨b, 1, none⟩ = some (.slice a1 l1 c1)) (h2 : w.cell? ⟨b, 2, none⟩ = some (.slice a2 l2 c2))
    (r0 : Row w a0 l0 b0) (r1 : Row w a1 l1 b1) (r2 : Row w a2 l2 b2) (k0 : l0 ≤ maxLen) (k1 : l1 ≤ maxLen) (k2 : l2 ≤ maxLen) :
    Calls Try.prog 61 #[.slice (some ⟨b, 0, none⟩) 3 cap] w fun e w' => e = .returned (.int .u32 ((Crc.of (b0 ++ b1 ++ b2) : Nat) : Int)) ∧ w = w' := by
  have h := of_any 3 (some ⟨b, 0, none⟩) cap (fun i => [a0, a1, a2].getD i none) (fun i => [l0, l1, l2].getD i 0) (fun i => [c0, c1, c2].getD i 0) (fun i => [b0, b1, b2].getD i []) w (by unfold maxLen; omega)
    (fun _ => ⟨b, 0, rfl, fun i hi => ?_⟩) (fun i hi => ?_)
  · have e : flat (fun i => [b0, b1, b2].getD i []) 3 = b0 ++ b1 ++ b2 := by simp [flat]
    rw [e] at h
    exact h
  · rcases (by omega : i = 0 ∨ i = 1 ∨ i = 2) with rfl | rfl | rfl
    · exact h0
    · exact h1
    · exact h2
  · rcases (by omega : i = 0 ∨ i = 1 ∨ i = 2) with rfl | rfl | rfl
    · exact ⟨k0, r0⟩
    · exact ⟨k1, r1⟩
    · exact ⟨k2, r2⟩

end Go.Proofs.Ytnkkeffjnamcgaa
