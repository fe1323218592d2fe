/- PointNils: the walk. -/
import Derived.Test.YthgcjiocelcblaaK39
namespace Go.Proofs.Ythgcjiocelcblaa
open Go.RowKit Go.Deep

theorem fold_zero : PtD.fold (fun _ => PtD.zero) 2 = PtD.zero := by simp [PtD.fold, PtD.step, PtD.zero]
/-- What Read answers at a place, of members that hold nothing. -/
theorem rdNone_any {B : Nat} {s : RS} {n : Nat} {w : World} (h : Mem2 B s n 0 (fun _ => PtD.zero) w) (y : Int) (hy : y = 0 ∨ y = 1) :
    Calls Try.prog 8 #[.iface 23 (.pointer (some ⟨s.rb, 0, none⟩)), .int .i64 y] w (RdIs false 0 0 [] [] 0 w) := by
  rcases hy with rfl | rfl
  · exact ptRead_any h.ram 0 (by omega) h.s0 h.live (by rw [h.sz_]; omega)
  · exact ptRead_any h.ram 1 (by omega) h.s1 h.live (by rw [h.sz_]; omega)
set_option maxRecDepth 100000 in
set_option maxHeartbeats 4000000 in
theorem pointNils_any (z y : Int) (w : World) :
    Calls Try.prog 3 #[.int .i64 z, .int .i64 y] w fun e w' => e = .returned (.bool true) ∧ Below w.heap.size w w' := by
  have HWR := Lib.hid written_any
  have HLN := Lib.hid ptLast_nil
  have HRN := Lib.hid (ptRead_nil 0)
  have HWN : Hid (∀ x : World, Calls Try.prog 9 #[.nilIface, .agg #[.int .u32 0, .int .u32 0, .slice none 0 0, .slice none 0 0]] x fun e w' => e = .returned (.int .i64 60) ∧ Below x.heap.size x w') := Lib.hid fun x => ptWrite_nil 0 0 _ _ x
  have HRD : Hid (∀ (B : Nat) (s : RS) (n : Nat) (x x' : World), Mem2 B s n 0 (fun _ => PtD.zero) x → Below x.heap.size x x' → Calls Try.prog 8 #[.iface 23 (.pointer (some ⟨s.rb, 0, none⟩)), .int .i64 y] x' fun e w' => (∃ v1 v2, e = .returned (.tuple #[.agg #[.int .u32 0, .int .u32 0, v1, v2], .bool false, .int .u32 0, .int .i64 (if y = 0 ∨ y = 1 then 0 else 34)]) ∧ (∃ a n c, v1 = .slice a n c) ∧ ∃ a n c, v2 = .slice a n c) ∧ Below x'.heap.size x' w') := Lib.hid fun B s n x x' h hb => by
    by_cases c : y = 0 ∨ y = 1
    · rw [if_pos c]
      refine (rdNone_any (h.step hb) y c).mono ?_
      rintro e w' ⟨hbe, v1, v2, rfl, ho1, ho2⟩
      exact ⟨⟨v1, v2, rfl, ownU_sl ho1, ownU_sl ho2⟩, hbe⟩
    · rw [if_neg c]
      exact (ptRead_range ⟨s.rb, 0, none⟩ y ⟨fun e => c (.inl e), fun e => c (.inr e)⟩ x').mono fun e w' h => ⟨⟨_, _, h.1, ⟨_, _, _, rfl⟩, ⟨_, _, _, rfl⟩⟩, h.2⟩
  obtain ⟨f, hf⟩ : ∃ f : Int, f = (if y = 0 ∨ y = 1 then 0 else 34) := ⟨_, rfl⟩
  rw [← hf] at HRD
  have hcase : (y == 0) = true ∧ f = 0 ∨ (y == 0) = false ∧ (y == 1) = true ∧ f = 0 ∨ (y == 0) = false ∧ (y == 1) = false ∧ f = 34 := by
    rw [hf]
    by_cases c0 : y = 0
    · exact .inl ⟨by simpa using c0, if_pos (.inl c0)⟩
    · by_cases c1 : y = 1
      · exact .inr (.inl ⟨by simpa using c0, by simpa using c1, if_pos (.inr c1)⟩)
      · exact .inr (.inr ⟨by simpa using c0, by simpa using c1, if_neg (by rintro (h | h); exact c0 h; exact c1 h)⟩)
  have HCA := Lib.hid hcase
  clear hcase hf
  go_enter Try.func3, Try.ntmps3
  go_wp2_with fail
  ((with_reducible refine (HWR.out _).mono ?_))
  rintro e w1 ⟨rfl, hb1⟩
  have HB1 := Lib.hid hb1
  clear hb1
  go_wp2_with fail
  ((with_reducible refine (ptShape_any z w1).mono ?_))
  rintro e w2 ⟨rfl, hb2⟩
  have hn35 := ptG_in z
  obtain ⟨n, hn⟩ : ∃ n, n = ptG z := ⟨_, rfl⟩
  rw [← hn] at hn35 ⊢
  have HN5 : Hid (3 ≤ n ∧ n ≤ 5) := Lib.hid ⟨hn35.1, hn35.2.1⟩
  have HNEW : Hid (Calls Try.prog 5 #[.agg #[.int .i64 (n : Int), .int .i64 20, .int .i64 6, .int .i64 256]] w2 (NewRet n 20 6 256 w2)) := Lib.hid (ramNew_any n 20 6 256 w2 (ptGood n HN5.out))
  have HB2 := Lib.hid (bel_trans HB1.out hb2)
  clear hb2 hn35 hn
  go_wp2_with fail
  ((with_reducible refine HNEW.out.mono ?_))
  rintro e w3 ⟨rb, pb, gb, rfl, hr, hb3⟩
  have HM3 := Lib.hid (mem2_new hr hb3.size HN5.out)
  have HB3 := Lib.hid (bel_trans HB2.out hb3)
  have hrb : (rsNew rb pb gb n 20 6 256).rb = rb := rfl
  obtain ⟨s, hs⟩ : ∃ s, s = rsNew rb pb gb n 20 6 256 := ⟨_, rfl⟩
  rw [← hs] at HM3 hrb
  subst hrb
  have hla := mem2_last HM3.out
  rw [fold_zero] at hla
  have HLA : Hid (Calls Try.prog 7 #[.iface 23 (.pointer (some ⟨s.rb, 0, none⟩))] w3 (RdIs false 0 0 [] [] 0 w3)) := Lib.hid hla
  clear hr hb3 hs hla
  go_wp2_with fail
  ((with_reducible refine HLA.out.mono ?_))
  rintro e w4 ⟨hb4, v1, v2, rfl, ho1, ho2⟩
  obtain ⟨qa, qn, qc, rfl⟩ := ownU_sl ho1
  obtain ⟨ra, rn, rc, rfl⟩ := ownU_sl ho2
  obtain ⟨w5, hw5⟩ : ∃ x, x = w4.alloc (.cells #[.int .u32 0, .int .u32 0, .slice qa qn qc, .slice ra rn rc] 31) := ⟨_, rfl⟩
  have hb5 : Below w3.heap.size w3 w5 := bel_trans hb4 (by rw [hw5]; exact bel_alloc (Below.refl _ _) _)
  have HR5 := Lib.hid (HRD.out _ s n w3 w5 HM3.out hb5)
  have HB5 := Lib.hid (bel_trans HB3.out hb5)
  clear hb4 ho1 ho2 hb5
  go_upto_region 5 with fail
  rw [← hw5]
  clear hw5
  go_wp2_with fail
  ((with_reducible refine HR5.out.mono ?_))
  rintro e w6 ⟨⟨v1, v2, rfl, ⟨a1, n1, c1, rfl⟩, ⟨a2, n2, c2, rfl⟩⟩, hb6⟩
  obtain ⟨w7, hw7⟩ : ∃ x, x = w6.alloc (.cells #[.int .u32 0, .int .u32 0, .slice a1 n1 c1, .slice a2 n2 c2] 31) := ⟨_, rfl⟩
  have HB7 := Lib.hid (show Below w.heap.size w w7 from bel_trans (bel_trans HB5.out hb6) (by rw [hw7]; exact bel_alloc (Below.refl _ _) _))
  clear hb6
  go_upto_region 6 with fail
  rw [← hw7]
  clear hw7
  go_wp2_with fail
  ((with_reducible refine (HLN.out _).mono ?_))
  rintro e w8 ⟨rfl, hb8⟩
  obtain ⟨w9, hw9⟩ : ∃ x, x = w8.alloc (.cells #[.int .u32 0, .int .u32 0, .slice none 0 0, .slice none 0 0] 31) := ⟨_, rfl⟩
  have HB9 := Lib.hid (show Below w.heap.size w w9 from bel_trans (bel_trans HB7.out hb8) (by rw [hw9]; exact bel_alloc (Below.refl _ _) _))
  clear hb8
  go_upto_region 7 with fail
  rw [← hw9]
  clear hw9
  go_wp2_with fail
  ((with_reducible refine (HRN.out _).mono ?_))
  rintro e w10 ⟨rfl, hb10⟩
  obtain ⟨w11, hw11⟩ : ∃ x, x = w10.alloc (.cells #[.int .u32 0, .int .u32 0, .slice none 0 0, .slice none 0 0] 31) := ⟨_, rfl⟩
  have HB11 := Lib.hid (show Below w.heap.size w w11 from bel_trans (bel_trans HB9.out hb10) (by rw [hw11]; exact bel_alloc (Below.refl _ _) _))
  clear hb10
  go_upto_region 8 with fail
  rw [← hw11]
  clear hw11
  rcases HCA.out with ⟨q0, rfl⟩ | ⟨q0, q1, rfl⟩ | ⟨q0, q1, rfl⟩
  all_goals
    go_wp2_with fail
    ((with_reducible refine (HWN.out _).mono ?_))
    rintro e w12 ⟨rfl, hb12⟩
    have HB12 := Lib.hid (bel_trans HB11.out hb12)
    clear hb12
    go_wp2_with fail
    go_ret
    exact ⟨rfl, HB12.out⟩
theorem pointNils_all (z y : Int) (w : World) (_ : (Lit.int .i64 z).wf = true) (_ : (Lit.int .i64 y).wf = true) :
    Calls Try.prog 3 #[.int .i64 z, .int .i64 y] w fun e w' => e = .returned (.bool true) ∧ Below w.heap.size w w' := pointNils_any z y w
end Go.Proofs.Ythgcjiocelcblaa
