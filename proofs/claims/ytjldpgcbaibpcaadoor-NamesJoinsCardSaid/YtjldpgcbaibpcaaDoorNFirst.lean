/- names.first. -/
import Derived.Test.YtjldpgcbaibpcaaDoorNBrackets
namespace Go.Proofs.YtjldpgcbaibpcaaDoor
open Go.RowKit

theorem part_new {w w1 : World} {x y z : Value} {t : TypeId} (hb : Below (w.alloc (.cells #[x, y, z] t)).heap.size (w.alloc (.cells #[x, y, z] t)) w1) : w1.heap[w.heap.size]? = some (.cells #[x, y, z] t (0, 0)) := by
  rw [hb.block w.heap.size (by simp)]
  show (w.heap.push _)[w.heap.size]? = _
  simp
theorem spans_new (w1 : World) (c : Nat) (hc : c ≤ 1114111) (B : Nat) (hB : B ≤ w1.heap.size) : SpansOwn B (w1.alloc (.cells #[.int .i32 (c : Int), .int .i32 (c : Int)] 87)) (.slice (some ⟨w1.heap.size, 0, none⟩) 1 1) [(c, c)] := by
  refine ⟨⟨rfl, .inr ⟨w1.heap.size, 1, #[.int .i32 (c : Int), .int .i32 (c : Int)], rfl, hB, ?_, Nat.le_refl _, by unfold maxLen; omega, rfl, rfl⟩⟩, fun s hs => by simp at hs; subst hs; exact ⟨hc, hc⟩⟩
  show (w1.heap.push _)[w1.heap.size]? = _
  simp
theorem spans_mono {B B' : Nat} {w : World} {tv : Value} {l : List (Nat × Nat)} (h : SpansOwn B w tv l) (hB : B' ≤ B) : SpansOwn B' w tv l := by
  refine ⟨⟨h.1.1, ?_⟩, h.2⟩
  rcases h.1.2 with h0 | ⟨g, cap, cur, h1, h2, h3⟩
  · exact .inl h0
  · exact .inr ⟨g, cap, cur, h1, Nat.le_trans hB h2, h3⟩
theorem sub_drop1 {b off n c : Nat} {ns : List Nat} (hk : 1 ≤ n) : Sub (some ⟨b, off, none⟩) n c ns (.slice (some (cutA b off c 1)) (n - 1) (c - 1)) (ns.drop 1) := sub_cut hk
theorem spans_set3 {B : Nat} {w wr : World} {tv : Value} {l : List (Nat × Nat)} (h : SpansOwn B wr tv l) (hg : tv.ownBlock ≠ some w.heap.size) (x y z : Value) : SpansOwn B (((wr.setCell ⟨w.heap.size, 0, none⟩ x).setCell ⟨w.heap.size, 1, none⟩ y).setCell ⟨w.heap.size, 2, none⟩ z) tv l :=
  ⟨owns_set (owns_set (owns_set h.1 _ _ hg _) _ _ hg _) _ _ hg _, h.2⟩
theorem sub_after {b off n c : Nat} {ns r : List Nat} {v : Value} (hk : 1 ≤ n) (h : Sub (some (cutA b off c 1)) (n - 1) (c - 1) (ns.drop 1) v r) : Sub (some ⟨b, off, none⟩) n c ns v r := fun w hw => h w (row32_cut hw hk)
set_option maxRecDepth 100000 in
set_option maxHeartbeats 1000000 in
theorem first_any (a : Option Addr) (n cap : Nat) (ns : List Nat) (w : World) (h : Row32 w a n cap ns) (hn : n ≤ 100000) (h0 : 0 < n) :
    Calls Tryd.prog 42 #[.slice a n cap] w (BracketsOut a n cap ns w (Nm.first ns)) := by
  have HH := Lib.hid h
  obtain ⟨hl, hx, hc, hm, hr⟩ := h
  obtain ⟨b, off, rfl, hcell⟩ := hr h0
  have hc0 := hcell 0 h0
  rw [Nat.add_zero] at hc0
  have hb0 := hx (ns.getD 0 0) (by rw [getD_in _ _ (by omega)]; exact List.getElem_mem _)
  obtain ⟨x, hx0⟩ : ∃ x, ns.getD 0 0 = x := ⟨_, rfl⟩
  rw [hx0] at hc0 hb0
  have hc1 : (w.alloc (.cells #[.bool false, .bool false, .slice none 0 0] 76)).cell? ⟨b, off, none⟩ = some (.int .i32 (x : Int)) := below_cell (bel_alloc (Below.refl _ w) _) hc0
  have HX := Lib.hid hx0
  have hsl := fun w => run_cut1 w b off n cap h0
  have hnm : n ≤ 9223372036854775807 := by omega
  have HL := Lib.hid hl
  obtain ⟨ans, hans⟩ : ∃ ans, Nm.first ns = ans := ⟨_, rfl⟩
  rw [hans]
  have HANS := Lib.hid hans
  have hbw : Below w.heap.size w (w.alloc (.cells #[.bool false, .bool false, .slice none 0 0] 76)) := bel_alloc (Below.refl _ w) _
  have HBW := Lib.hid hbw
  clear hcell hr hx hx0 hans hl hbw
  by_cases e1 : x = 42
  · have hA : ans = some (⟨true, false, []⟩, ns.drop 1) := by rw [← HANS.out]; unfold Nm.first; rw [if_pos (by rw [HX.out]; exact e1)]
    have HA := Lib.hid hA
    subst e1
    clear hA
    go_enter Tryd.func42, Tryd.ntmps42
    go_wp2
    go_region
    go_wp2
    exact bodyPost_ret (v := .tuple #[.agg #[.bool true, .bool false, .slice none 0 0], .slice (some (cutA b off cap 1)) (n - 1) (cap - 1), .bool true]) (by simp [results, Tryd.results42, go_sem]) rfl (by rw [HA.out]; exact ⟨_, _, rfl, ⟨World.ownsRow_nil _ _ _ _, fun s hs => by cases hs⟩, sub_drop1 h0, (bel_alloc (Below.refl _ w) _).drew⟩)
  by_cases e2 : x = 63
  · have hA : ans = some (⟨false, true, []⟩, ns.drop 1) := by rw [← HANS.out]; unfold Nm.first; rw [if_neg (by rw [HX.out]; exact e1), if_pos (by rw [HX.out]; exact e2)]
    have HA := Lib.hid hA
    subst e2
    clear hA
    go_enter Tryd.func42, Tryd.ntmps42
    go_wp2
    go_region
    go_wp2
    exact bodyPost_ret (v := .tuple #[.agg #[.bool false, .bool true, .slice none 0 0], .slice (some (cutA b off cap 1)) (n - 1) (cap - 1), .bool true]) (by simp [results, Tryd.results42, go_sem]) rfl (by rw [HA.out]; exact ⟨_, _, rfl, ⟨World.ownsRow_nil _ _ _ _, fun s hs => by cases hs⟩, sub_drop1 h0, (bel_alloc (Below.refl _ w) _).drew⟩)
  by_cases e3 : x = 91
  · have hA : ans = Nm.brackets (ns.drop 1) := by rw [← HANS.out]; unfold Nm.first; rw [if_neg (by rw [HX.out]; exact e1), if_neg (by rw [HX.out]; exact e2), if_pos (by rw [HX.out]; exact e3)]
    have HA := Lib.hid hA
    subst e3
    have hR1 := row32_below (row32_cut (k := 1) HH.out h0) HBW.out
    have HR1 := Lib.hid hR1
    have hldrop : (ns.drop 1).length = n - 1 := by simp [HL.out]
    have HLD := Lib.hid hldrop
    clear hA hR1 hldrop
    cases hb : Nm.brackets (ns.drop 1) with
    | none =>
      have HBR := brackets_any _ _ _ _ _ HR1.out (by omega)
      rw [hb] at HBR
      have HB := Lib.hid HBR
      have HN := Lib.hid hb
      clear HBR hb
      go_enter Tryd.func42, Tryd.ntmps42
      go_wp2_with fail
      refine HB.out.mono ?_
      rintro e w1 ⟨x2, n2, c2, rfl, hb1⟩
      obtain ⟨s0, s1, s2, sf0, sf1, sf2⟩ := cells3 (part_new hb1)
      go_wp2
      exact bodyPost_ret (v := .tuple #[.agg #[.bool false, .bool false, .slice x2 n2 c2], .slice none 0 0, .bool false]) (by simp [results, Tryd.results42, go_sem, s0, s1, s2]) rfl (by rw [HA.out, HN.out]; exact ⟨_, _, _, rfl, bel_three (bel_trans (bel_alloc (Below.refl _ w) _) hb1) _ _ _⟩)
    | some pr =>
      obtain ⟨p, r⟩ := pr
      have HBR := brackets_any _ _ _ _ _ HR1.out (by omega)
      rw [hb] at HBR
      have HB := Lib.hid HBR
      have HN := Lib.hid hb
      clear HBR hb
      go_enter Tryd.func42, Tryd.ntmps42
      go_wp2_with fail
      refine HB.out.mono ?_
      rintro e w1 ⟨tv, v, rfl, hsp, hsub, hb1⟩
      obtain ⟨s0, s1, s2, sf0, sf1, sf2⟩ := cells3 (part_new hb1)
      obtain ⟨ta, tc, htv⟩ := owns_shape hsp.1
      subst htv
      obtain ⟨va, vc, rfl, _⟩ := hsub _ HR1.out
      have hne : (Value.slice ta p.these.length tc).ownBlock ≠ some w.heap.size := fun e => by have := (hsp.1.lt _ e).1; simp at this; omega
      go_wp2
      exact bodyPost_ret (v := .tuple #[.agg #[.bool p.any, .bool p.not, .slice ta p.these.length tc], .slice va r.length vc, .bool true]) (by simp [results, Tryd.results42, go_sem, s0, s1, s2]) rfl (by rw [HA.out, HN.out]; exact ⟨_, _, rfl, spans_mono (spans_set3 hsp hne _ _ _) (by simp), sub_after h0 hsub, bel_three (bel_trans (bel_alloc (Below.refl _ w) _) hb1) _ _ _⟩)
  · have d1 : ((x : Int) == 42) = false := by rw [beq_eq_false_iff_ne]; omega
    have d2 : ((x : Int) == 63) = false := by rw [beq_eq_false_iff_ne]; omega
    have d3 : ((x : Int) == 91) = false := by rw [beq_eq_false_iff_ne]; omega
    have hfirst : Nm.first ns = (Nm.letter ns).map fun cr => (⟨false, false, [(cr.1, cr.1)]⟩, cr.2) := by
      unfold Nm.first
      rw [if_neg (by rw [HX.out]; exact e1), if_neg (by rw [HX.out]; exact e2), if_neg (by rw [HX.out]; exact e3)]
    have HLE := letter_any (some ⟨b, off, none⟩) n cap ns _ (row32_below HH.out HBW.out) h0
    unfold LetterOut at HLE
    clear e1 e2 e3
    cases hlt : Nm.letter ns with
    | none =>
      rw [hlt] at HLE hfirst
      have HB := Lib.hid HLE
      have HN := Lib.hid (hfirst.symm.trans HANS.out)
      clear HLE hfirst hlt
      go_enter Tryd.func42, Tryd.ntmps42
      go_wp2_with fail
      refine HB.out.mono ?_
      rintro e w1 ⟨rfl, hb1⟩
      obtain ⟨s0, s1, s2, sf0, sf1, sf2⟩ := cells3 (heap_alloc_keep (part_new hb1) (Below.refl _ w1) (.cells #[.int .i32 0, .int .i32 0] 87))
      go_wp2
      exact bodyPost_ret (v := .tuple #[.agg #[.bool false, .bool false, .slice (some ⟨w1.heap.size, 0, none⟩) 1 1], .slice none 0 0, .bool false]) (by simp [results, Tryd.results42, go_sem, s0, s1, s2]) rfl (by rw [← HN.out]; exact ⟨_, _, _, rfl, bel_three (bel_alloc (bel_trans (bel_alloc (Below.refl _ w) _) hb1) _) _ _ _⟩)
    | some cr =>
      obtain ⟨c, r⟩ := cr
      rw [hlt] at HLE hfirst
      have HB := Lib.hid HLE
      have HN := Lib.hid (hfirst.symm.trans HANS.out)
      clear HLE hfirst hlt
      go_enter Tryd.func42, Tryd.ntmps42
      go_wp2_with fail
      refine HB.out.mono ?_
      rintro e w1 ⟨⟨v, rfl, hsub, hb1⟩, hc9⟩
      obtain ⟨s0, s1, s2, sf0, sf1, sf2⟩ := cells3 (heap_alloc_keep (part_new hb1) (Below.refl _ w1) (.cells #[.int .i32 (c : Int), .int .i32 (c : Int)] 87))
      obtain ⟨va, vc, rfl, _⟩ := hsub _ HH.out
      have hz1 := hb1.size
      have hsp := spans_new w1 c hc9 w.heap.size (by simp at hz1; omega)
      have hne : (Value.slice (some ⟨w1.heap.size, 0, none⟩) 1 1).ownBlock ≠ some w.heap.size := fun e => by have := Option.some.inj e; simp at hz1; simp at this; omega
      go_wp2
      exact bodyPost_ret (v := .tuple #[.agg #[.bool false, .bool false, .slice (some ⟨w1.heap.size, 0, none⟩) 1 1], .slice va r.length vc, .bool true]) (by simp [results, Tryd.results42, go_sem, s0, s1, s2]) rfl (by rw [← HN.out]; exact ⟨_, _, rfl, spans_set3 hsp hne _ _ _, hsub, bel_three (bel_alloc (bel_trans (bel_alloc (Below.refl _ w) _) hb1) _) _ _ _⟩)

end Go.Proofs.YtjldpgcbaibpcaaDoor
