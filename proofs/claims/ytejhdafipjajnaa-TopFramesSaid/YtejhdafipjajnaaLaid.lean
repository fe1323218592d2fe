/- gabionlaw01.laid: it answers true, and writes nothing that was there. -/
import Derived.Test.YtejhdafipjajnaaWriterText
namespace Go.Proofs.Ytejhdafipjajnaa
open Go.RowKit

theorem wr_new (w : World) : WR w.heap.size (w.alloc (.cells #[.slice none 0 0] 28)) w.heap.size (.slice none 0 0) [] := by
  refine ⟨Nat.le_refl _, heap_alloc_new w _, own_nil _ _, fun h => by cases h⟩
theorem rowK_new {K : IntKind} {M n : Nat} (w : World) (t : TypeId) (hn : n < M) : RowK K M (w.alloc (.cells #[.int K (n : Int)] t)) (some ⟨w.heap.size, 0, none⟩) 1 [n] :=
  ⟨rfl, fun y hy => by simp at hy; omega, fun _ => ⟨_, 0, rfl, fun i hi => by obtain rfl : i = 0 := by omega
                                                                              exact cell_new1 _ _ _⟩⟩
theorem rowK_new_at {K : IntKind} {M n b : Nat} {w : World} (t : TypeId) (hn : n < M) (hb : w.heap.size = b) : RowK K M (w.alloc (.cells #[.int K (n : Int)] t)) (some ⟨b, 0, none⟩) 1 [n] := by
  subst hb; exact rowK_new w t hn
theorem row_lit5 (w : World) : Row (w.alloc (.cells #[.int .u8 1, .int .u8 2, .int .u8 2, .int .u8 97, .int .u8 98] 5)) (some ⟨w.heap.size, 0, none⟩) 5 [1, 2, 2, 97, 98] := by
  refine ⟨rfl, by decide, fun _ => ⟨_, 0, rfl, fun i hi => ?_⟩⟩
  rw [World.cell?_alloc_mark]
  rcases (show i = 0 ∨ i = 1 ∨ i = 2 ∨ i = 3 ∨ i = 4 from by omega) with rfl | rfl | rfl | rfl | rfl <;> rfl
theorem moved_trans_below {B : Nat} {w w' : World} {pw : Nat} {sv sv' : Value} {bs : List Nat} (h : Moved w pw sv sv' w') (hw : WR B w pw sv bs) (hB : B ≤ w.heap.size) : Below B w w' := h.below hw hB

set_option maxHeartbeats 800000 in
theorem laid_any (w : World) :
    Calls Try.prog 7 #[] w fun e w' => e = .returned (.bool true) ∧ Below w.heap.size w w' := by
  go_enter Try.func7, Try.ntmps7
  go_wp2_with fail
  refine (wU16_any w.heap.size w.heap.size (.slice none 0 0) [] _ (wr_keep (wr_new w) ((Below.refl _ _).alloc (Nat.le_refl _) _)) (by simp; omega) _ 1 1 [513] (rowK_new_at 38 (by omega) (by simp)) (fun _ x hx => by cases hx; exact ⟨by simp, fun h => by cases h⟩) (by omega) (by simp)).mono ?_
  rintro e w1 ⟨rfl, sv1, hw1, hm1⟩
  have e1 : ([] : List Nat) ++ [513].flatMap (Crc.les 2) = [1, 2] := by decide
  rw [e1] at hw1
  have hz1 : w.heap.size ≤ w1.heap.size := by have := hm1.size; simp at this; omega
  have hb1 : Below w.heap.size w w1 := ((Below.refl _ w).alloc (Nat.le_refl _) _).trans ((moved_of_below ((Below.refl _ _).alloc (Nat.le_refl _) _) w.heap.size (.slice none 0 0)).trans hm1 |>.below (wr_new w) (by simp))
  clear e1
  go_wp2_with fail
  refine (wText_any w.heap.size w.heap.size sv1 [1, 2] _ hw1 hz1 _ (by decide) (by simp)).mono ?_
  rintro e w2 ⟨rfl, sv2, hw2, hm2⟩
  have e2 : [1, 2] ++ textOf (sbytes ⟨#[97, 98]⟩) = [1, 2, 2, 97, 98] := by decide
  rw [e2] at hw2
  have hb2 : Below w.heap.size w w2 := hb1.trans (hm2.below hw1 hz1)
  clear e2
  go_wp2_with fail
  refine (wBytes_any w.heap.size w.heap.size sv2 _ _ hw2 (by simp)).mono ?_
  rintro e w3 ⟨sv3, rfl, ho3, hb3⟩
  obtain ⟨a3, c3, hsv3, hr3, _⟩ := row_of_own ho3
  subst hsv3
  have hb23 := bel_trans hb2 hb3
  clear hw1 hw2
  go_wp2_with fail
  refine (same_any _ _ _ _ _ _ _ _ (row_alloc hr3 _) (row_lit5 w3)).mono ?_
  rintro e w' ⟨rfl, rfl⟩
  go_wp2
  go_ret
  exact ⟨rfl, bel_alloc hb23 _⟩

end Go.Proofs.Ytejhdafipjajnaa
