/- RecordBytes: the walk. -/
import Derived.Test.YtjnjkoodeacpdaaRSealed
import Derived.Test.YtjnjkoodeacpdaaRSum
import Derived.Test.YtjnjkoodeacpdaaRFrame
namespace Go.Proofs.Ytjnjkoodeacpdaa
open Go.RowKit

theorem at64 (x : Int) : ∃ r : Nat, wrap64 ((IntKind.u64.wrap x).tmod 64) = (r : Int) ∧ r < 64 := by
  have h0 := wrap_u64_nonneg x
  have e : (IntKind.u64.wrap x).tmod 64 = (IntKind.u64.wrap x) % 64 := Int.tmod_eq_emod_of_nonneg h0
  rw [e]
  generalize IntKind.u64.wrap x = m at *
  refine ⟨(m % 64).toNat, ?_, by omega⟩
  rw [IntWalk.wrap64_in (m % 64) ⟨by omega, by omega⟩]
  omega
set_option maxRecDepth 100000 in
set_option maxHeartbeats 1600000 in
theorem recordBytes_walk (h : RH) (a : Option Addr) (len cap : Nat) (bs : List Nat) (x : Int) (c : Nat) (w : World) (hin : h.Fits ∧ InB w a len cap bs ∧ c < 256) :
    Calls Try.prog 15 #[.agg (h.cells ++ #[.slice a len cap, .int .i64 x, .int .u8 ((c : Nat) : Int)])] w fun e w' => e = .returned (.bool true) ∧ Below w.heap.size w w' := by
  obtain ⟨hf, ⟨hr, hlc, hcm, hn⟩, hc⟩ := hin
  obtain ⟨r, hrr, hr64⟩ := at64 x
  have e0 : h.cells ++ #[.slice a len cap, .int .i64 x, .int .u8 ((c : Nat) : Int)] = #[.int .u8 (h.ki : Int), .int .u32 (h.ep : Int), .int .u32 (h.ba : Int), .int .u16 (h.ix : Int), .int .u16 (h.ct : Int), .int .u32 (h.bl : Int), .int .u32 (h.mo : Int), .slice a len cap, .int .i64 x, .int .u8 ((c : Nat) : Int)] := rfl
  rw [e0]
  clear e0
  go_enter Try.func15, Try.ntmps15
  go_wp2_with fail
  obtain ⟨W1, hW1⟩ : ∃ W1, W1 = w.alloc (.cells #[.int .u8 (h.ki : Int), .int .u32 (h.ep : Int), .int .u32 (h.ba : Int), .int .u16 (h.ix : Int), .int .u16 (h.ct : Int), .int .u32 (h.bl : Int), .int .u32 (h.mo : Int), .slice a len cap, .int .i64 x, .int .u8 ((c : Nat) : Int)] 119) := ⟨_, rfl⟩
  have c0 : W1.cell? ⟨w.heap.size, 0, none⟩ = some (.int .u8 (h.ki : Int)) := by rw [hW1, World.cell?_alloc_mark w #[.int .u8 (h.ki : Int), .int .u32 (h.ep : Int), .int .u32 (h.ba : Int), .int .u16 (h.ix : Int), .int .u16 (h.ct : Int), .int .u32 (h.bl : Int), .int .u32 (h.mo : Int), .slice a len cap, .int .i64 x, .int .u8 ((c : Nat) : Int)] 119 (0, 0)]; rfl
  have c1 : W1.cell? ⟨w.heap.size, 1, none⟩ = some (.int .u32 (h.ep : Int)) := by rw [hW1, World.cell?_alloc_mark w #[.int .u8 (h.ki : Int), .int .u32 (h.ep : Int), .int .u32 (h.ba : Int), .int .u16 (h.ix : Int), .int .u16 (h.ct : Int), .int .u32 (h.bl : Int), .int .u32 (h.mo : Int), .slice a len cap, .int .i64 x, .int .u8 ((c : Nat) : Int)] 119 (0, 0)]; rfl
  have c2 : W1.cell? ⟨w.heap.size, 2, none⟩ = some (.int .u32 (h.ba : Int)) := by rw [hW1, World.cell?_alloc_mark w #[.int .u8 (h.ki : Int), .int .u32 (h.ep : Int), .int .u32 (h.ba : Int), .int .u16 (h.ix : Int), .int .u16 (h.ct : Int), .int .u32 (h.bl : Int), .int .u32 (h.mo : Int), .slice a len cap, .int .i64 x, .int .u8 ((c : Nat) : Int)] 119 (0, 0)]; rfl
  have c3 : W1.cell? ⟨w.heap.size, 3, none⟩ = some (.int .u16 (h.ix : Int)) := by rw [hW1, World.cell?_alloc_mark w #[.int .u8 (h.ki : Int), .int .u32 (h.ep : Int), .int .u32 (h.ba : Int), .int .u16 (h.ix : Int), .int .u16 (h.ct : Int), .int .u32 (h.bl : Int), .int .u32 (h.mo : Int), .slice a len cap, .int .i64 x, .int .u8 ((c : Nat) : Int)] 119 (0, 0)]; rfl
  have c4 : W1.cell? ⟨w.heap.size, 4, none⟩ = some (.int .u16 (h.ct : Int)) := by rw [hW1, World.cell?_alloc_mark w #[.int .u8 (h.ki : Int), .int .u32 (h.ep : Int), .int .u32 (h.ba : Int), .int .u16 (h.ix : Int), .int .u16 (h.ct : Int), .int .u32 (h.bl : Int), .int .u32 (h.mo : Int), .slice a len cap, .int .i64 x, .int .u8 ((c : Nat) : Int)] 119 (0, 0)]; rfl
  have c5 : W1.cell? ⟨w.heap.size, 5, none⟩ = some (.int .u32 (h.bl : Int)) := by rw [hW1, World.cell?_alloc_mark w #[.int .u8 (h.ki : Int), .int .u32 (h.ep : Int), .int .u32 (h.ba : Int), .int .u16 (h.ix : Int), .int .u16 (h.ct : Int), .int .u32 (h.bl : Int), .int .u32 (h.mo : Int), .slice a len cap, .int .i64 x, .int .u8 ((c : Nat) : Int)] 119 (0, 0)]; rfl
  have c6 : W1.cell? ⟨w.heap.size, 6, none⟩ = some (.int .u32 (h.mo : Int)) := by rw [hW1, World.cell?_alloc_mark w #[.int .u8 (h.ki : Int), .int .u32 (h.ep : Int), .int .u32 (h.ba : Int), .int .u16 (h.ix : Int), .int .u16 (h.ct : Int), .int .u32 (h.bl : Int), .int .u32 (h.mo : Int), .slice a len cap, .int .i64 x, .int .u8 ((c : Nat) : Int)] 119 (0, 0)]; rfl
  have c7 : W1.cell? ⟨w.heap.size, 7, none⟩ = some (.slice a len cap) := by rw [hW1, World.cell?_alloc_mark w #[.int .u8 (h.ki : Int), .int .u32 (h.ep : Int), .int .u32 (h.ba : Int), .int .u16 (h.ix : Int), .int .u16 (h.ct : Int), .int .u32 (h.bl : Int), .int .u32 (h.mo : Int), .slice a len cap, .int .i64 x, .int .u8 ((c : Nat) : Int)] 119 (0, 0)]; rfl
  have c8 : W1.cell? ⟨w.heap.size, 8, none⟩ = some (.int .i64 x) := by rw [hW1, World.cell?_alloc_mark w #[.int .u8 (h.ki : Int), .int .u32 (h.ep : Int), .int .u32 (h.ba : Int), .int .u16 (h.ix : Int), .int .u16 (h.ct : Int), .int .u32 (h.bl : Int), .int .u32 (h.mo : Int), .slice a len cap, .int .i64 x, .int .u8 ((c : Nat) : Int)] 119 (0, 0)]; rfl
  have c9 : W1.cell? ⟨w.heap.size, 9, none⟩ = some (.int .u8 ((c : Nat) : Int)) := by rw [hW1, World.cell?_alloc_mark w #[.int .u8 (h.ki : Int), .int .u32 (h.ep : Int), .int .u32 (h.ba : Int), .int .u16 (h.ix : Int), .int .u16 (h.ct : Int), .int .u32 (h.bl : Int), .int .u32 (h.mo : Int), .slice a len cap, .int .i64 x, .int .u8 ((c : Nat) : Int)] 119 (0, 0)]; rfl
  have hb1 : Below w.heap.size w W1 := by rw [hW1]; exact bel_alloc (Below.refl _ w) _
  have hz1 : W1.heap.size = w.heap.size + 1 := by rw [hW1]; simp
  rw [← hW1]
  clear hW1
  have HZ1 := Lib.hid hz1
  have n1 : W1.heap.size ≠ w.heap.size := by omega
  clear hz1
  go_region_held3 (fun w' => w'.cell? ⟨w.heap.size, 0, none⟩ = some (.int .u8 (h.ki : Int)) ∧ w'.cell? ⟨w.heap.size, 1, none⟩ = some (.int .u32 (h.ep : Int)) ∧ w'.cell? ⟨w.heap.size, 2, none⟩ = some (.int .u32 (h.ba : Int)) ∧ w'.cell? ⟨w.heap.size, 3, none⟩ = some (.int .u16 (h.ix : Int)) ∧ w'.cell? ⟨w.heap.size, 4, none⟩ = some (.int .u16 (h.ct : Int)) ∧ w'.cell? ⟨w.heap.size, 5, none⟩ = some (.int .u32 (h.bl : Int)) ∧ w'.cell? ⟨w.heap.size, 6, none⟩ = some (.int .u32 (h.mo : Int)) ∧ w'.cell? ⟨w.heap.size, 7, none⟩ = some (.slice a len cap) ∧ w'.cell? ⟨w.heap.size, 8, none⟩ = some (.int .i64 x) ∧ w'.cell? ⟨w.heap.size, 9, none⟩ = some (.int .u8 ((c : Nat) : Int))) (go_keep) (fail)
  obtain ⟨p, hp⟩ : ∃ p, p = W1.heap.size := ⟨_, rfl⟩
  obtain ⟨W2, hW2⟩ : ∃ W2, W2 = (W1.alloc (.cells #[.int .u8 (h.ki : Int), .int .u32 (h.ep : Int), .int .u32 (h.ba : Int), .int .u16 (h.ix : Int), .int .u16 (h.ct : Int), .int .u32 (h.bl : Int), .int .u32 (h.mo : Int)] 86)).drew := ⟨_, rfl⟩
  have hb12 : Below W1.heap.size W1 W2 := by rw [hW2]; exact (bel_alloc (Below.refl _ W1) _).drew
  have hh2 : HdrAt h p W2 := by rw [hW2, hp]; exact hdr_new h W1
  have hz2 : W2.heap.size = p + 1 := by rw [hW2, hp]; show (W1.alloc _).heap.size = _; simp
  have hb2 := bel_trans hb1 hb12
  have hwp : w.heap.size ≤ p := by have := hb1.size; omega
  rw [← hW2, ← hp]
  clear hW2 hp hb12 hb1 HZ1 n1 c0 c1 c2 c3 c4 c5 c6 c7 c8 c9
  go_wp2_with fail
  refine (sealed_any W2).mono ?_
  rintro e w3 ⟨rfl, hb3⟩
  have hh3 := hh2.below hb3 (by omega)
  have hb03 := bel_trans hb2 hb3
  have hz3 := hb3.size
  clear hb2 hb3 hh2
  have hcm' := hcm
  unfold maxLen at hcm'
  by_cases hl : 600 < len
  · have d1 : decide ((600 : Int) < (len : Int)) = true := decide_eq_true (by omega)
    go_wp2_with fail
    refine (sealed_any w3).mono ?_
    rintro e w4 ⟨rfl, hb4⟩
    have hb04 := bel_trans hb03 hb4
    go_wp2
    go_ret
    exact ⟨rfl, hb04⟩
  · have d1 : decide ((600 : Int) < (len : Int)) = false := decide_eq_false (by omega)
    obtain ⟨c0, c1, c2, c3, c4, c5, c6⟩ := hh3
    have hrow3 := row_keep hr hb03 (Nat.le_refl _)
    go_wp2_with fail
    have hrow4 := row_alloc hrow3 (.cells #[.int .u8 1, .int .u8 2, .int .u8 3] 5)
    have hb04 := bel_alloc hb03 (.cells #[.int .u8 1, .int .u8 2, .int .u8 3] 5)
    have h123 : Row (w3.alloc (.cells #[.int .u8 1, .int .u8 2, .int .u8 3] 5)) (some ⟨w3.heap.size, 0, none⟩) 3 [1, 2, 3] := by
      obtain ⟨k0, k1, k2⟩ := cell_three w3 (.int .u8 1) (.int .u8 2) (.int .u8 3) 5
      refine ⟨rfl, fun x hx => by simp at hx; omega, fun _ => ⟨_, 0, rfl, fun i hi => ?_⟩⟩
      rcases (by omega : i = 0 ∨ i = 1 ∨ i = 2) with rfl | rfl | rfl
      · exact k0
      · exact k1
      · exact k2
    have hseal := seal_any h hf a len cap bs (some ⟨w3.heap.size, 0, none⟩) 3 3 [1, 2, 3] (w3.alloc (.cells #[.int .u8 1, .int .u8 2, .int .u8 3] 5)) hrow4 (by omega) h123 (by omega) (by unfold maxLen; omega) (fun e => by cases e) (by omega)
    unfold RH.cells at hseal
    refine hseal.mono ?_
    rintro e w5 ⟨sv, rfl, ho5, hb5⟩
    obtain ⟨g, gc, rfl, hg0, hg1, hB5, _⟩ := ownB_of ho5 (by rw [sealB_len]; omega)
    rw [sealB_len] at hB5 ⊢
    have hb05 := bel_trans hb04 hb5
    have hgl : 64 ≤ gc ∧ gc ≤ 9223372036854775807 := by
      have h9 := hB5.1
      rcases h9.1.2 with ⟨e, _⟩ | ⟨g', cap', cur, e, _, _, q1, q2, _⟩
      · cases e
      · simp only [Value.slice.injEq] at e
        obtain ⟨_, _, rfl⟩ := e
        rw [sealB_len] at q1
        unfold maxLen at q2
        exact ⟨q1, q2⟩
    have hwg : w.heap.size ≤ g := Nat.le_trans hb04.size hg0
    clear hseal h123 hrow4 hrow3 hb04 hb03 hb5 ho5 hg0 c0 c1 c2 c3 c4 c5 c6
    have hri : (r : Int) < 64 := by omega
    have hr0 : (0 : Int) ≤ (r : Int) := by omega
    have hck := ownB_cell hB5 r hr64
    have hfk := ownB_frozen hB5 r
    obtain ⟨y, hy⟩ : ∃ y, (sealB h bs [1, 2, 3]).getD r 0 = y := ⟨_, rfl⟩
    rw [hy] at hck
    have HY := Lib.hid hy
    have hB6 := ownB_set hB5 r c hc
    have HB6 := Lib.hid hB6
    have HB5 := Lib.hid hb05
    clear hB5 hB6 hb05 hy
    by_cases hyc : y = c
    · subst hyc
      go_wp2
      go_ret
      exact ⟨rfl, HB5.out⟩
    · have hne : ((y : Int) == (c : Int)) = false := by rw [beq_eq_false_iff_ne]; omega
      have hno : ¬ OpenOk bs ((sealB h bs [1, 2, 3]).set r c) := not_open_set hf hr.2.1 (fun x hx => by simp at hx; omega) r c hr64 hc (by rw [HY.out]; omega)
      have hoz : openH bs ((sealB h bs [1, 2, 3]).set r c) = RH.zero := by unfold openH; rw [if_neg hno]
      have HNO := Lib.hid (decide_eq_false hno)
      have HOZ := Lib.hid hoz
      have HB7 : Hid (Below w.heap.size w (w5.setCell ⟨g, r, none⟩ (.int .u8 (c : Int)))) := Lib.hid (HB5.out.setCell (p := ⟨g, r, none⟩) hwg _)
      have hr7 := row_keep hr HB7.out (Nat.le_refl _)
      clear hno hoz
      go_wp2_with fail
      refine (open_any a len cap bs (some ⟨g, 0, none⟩) 64 gc _ _ hr7 (by omega) (row_ownB HB6.out) hgl.1 (by unfold maxLen; omega)).mono ?_
      rintro e w8 ⟨rfl, hb8⟩
      rw [HNO.out, HOZ.out]
      have hb08 := bel_trans HB7.out hb8
      unfold RH.zero RH.cells
      go_wp2
      go_ret
      exact ⟨rfl, bel_alloc hb08 _⟩

end Go.Proofs.Ytjnjkoodeacpdaa
