/- point.Write of a point that doesn't fit. -/
import Derived.Test.YthgcjiocelcblaaGreatK39
namespace Go.Proofs.YthgcjiocelcblaaGreat
open Go.RowKit Go.Deep

section
variable {B : Nat} {s : RS} {w : World}
set_option maxRecDepth 100000 in
set_option maxHeartbeats 4000000 in
theorem ptWrite_no (h : Ram B s w) (sq ba : Nat) (ma : Option Addr) (mn mc : Nat) (ml : List Nat) (ea : Option Addr) (en ec : Nat) (el : List Nat) (hp : PT.Ok ⟨sq, ba, ma, mn, mc, ml, ea, en, ec, el⟩ w) (hm : mn ≤ 1000) (he : en ≤ 1000)
    (hbig : s.pg * (s.n - 1) < manyOf s.sz (16 + 4 * ml.length + 4 * el.length)) :
    Calls Tryz.prog 21 #[.iface 51 (.pointer (some ⟨s.rb, 0, none⟩)), .agg #[.int .u32 (sq : Int), .int .u32 (ba : Int), .slice ma mn mc, .slice ea en ec]] w fun e w' => e = .returned (.int .i64 28) ∧ Below w.heap.size w w' := by
  have hg := h.geo
  have HG := Lib.hid hg
  have hn3 : 3 ≤ s.n := by have := hg.1; omega
  have hn16 : s.n ≤ 16 := by have := hg.2.1; omega
  have hsz0 : 256 ≤ s.sz := by have := hg.2.2.2.2.2.2.1; omega
  have hsz1 : s.sz ≤ 1024 := by have := hg.2.2.2.2.2.2.2.1; omega
  have tm := fun k => m_geo k ⟨s.rb, 0, none⟩
  have HGE := Lib.hid fun (x : World) (hx : Below w.heap.size w x) => ramGeo (h.step hx)
  have HCK := Lib.hid fun (x : World) => check_good (s.n : Int) (s.bl : Int) (s.pg : Int) (s.sz : Int) x hg
  have HPG := Lib.hid fun (x : World) (hx : Below w.heap.size w x) => ptPages_any (s.n : Int) (s.bl : Int) (s.pg : Int) s.sz sq ba ma mn mc ml ea en ec el x (hp.step hx) hm he hsz0 hsz1
  have HN := Lib.hid (And.intro hn3 (And.intro hn16 hbig))
  clear h hg hn3 hn16 hsz0 hsz1 hp hbig hm he
  go_enter Tryz.func21, Tryz.ntmps21
  go_upto_region 3 with fail
  obtain ⟨w1, hw1⟩ : ∃ x, x = wr3 w (.iface 51 (.pointer (some ⟨s.rb, 0, none⟩))) (.int .u32 (sq : Int)) (.int .u32 (ba : Int)) (.slice ma mn mc) (.slice ea en ec) := ⟨_, rfl⟩
  have hX1 := wr3_of w (.iface 51 (.pointer (some ⟨s.rb, 0, none⟩))) (.int .u32 (sq : Int)) (.int .u32 (ba : Int)) (.slice ma mn mc) (.slice ea en ec)
  have hb1 : Below w.heap.size w w1 := by rw [hw1]; exact bel_alloc (bel_alloc (bel_alloc (Below.refl _ _) _) _) _
  have hz1 : w1.heap.size = w.heap.size + 3 := by rw [hw1]; simp [wr3]
  rw [← hw1] at hX1
  have HX1 := Lib.hid hX1
  have HB1 := Lib.hid (And.intro hb1 hz1)
  unfold wr3 at hw1
  rw [← hw1]
  obtain ⟨A, hA⟩ : ∃ A, A = w.heap.size := ⟨_, rfl⟩
  rw [← hA] at HX1 HB1 HGE HPG ⊢
  have HA := Lib.hid hA
  clear hX1 hb1 hz1 hw1 hA
  obtain ⟨c0, c1, c2, c3, c4, c5, c6, c7⟩ := HX1.out.c
  go_wp2_with fail
  ((with_reducible refine (HGE.out _ HB1.out.1).mono ?_))
  rintro e w2 ⟨rfl, hb2⟩
  have HX2 := Lib.hid (HX1.out.at_ (y := w2) fun k h1 h2 => hb2.block k (by have := HB1.out.2; omega))
  have HB2 := Lib.hid (And.intro (HB1.out.1.trans (hb2.mono (by have := HB1.out.2; omega))) (show A + 3 ≤ w2.heap.size by have := HB1.out.2; have := hb2.size; omega))
  clear hb2 c0 c1 c2 c3 c4 c5 c6 c7
  go_upto_region 4 with fail
  have hgx := heap_alloc_new w2 (.cells #[.int .i64 (s.n : Int), .int .i64 (s.bl : Int), .int .i64 (s.pg : Int), .int .i64 (s.sz : Int)] 49)
  have hb3 := bel_alloc (Below.refl w2.heap.size w2) (.cells #[.int .i64 (s.n : Int), .int .i64 (s.bl : Int), .int .i64 (s.pg : Int), .int .i64 (s.sz : Int)] 49)
  obtain ⟨gb, hgb⟩ : ∃ x, x = w2.heap.size := ⟨_, rfl⟩
  obtain ⟨w3, hw3⟩ : ∃ x, x = w2.alloc (.cells #[.int .i64 (s.n : Int), .int .i64 (s.bl : Int), .int .i64 (s.pg : Int), .int .i64 (s.sz : Int)] 49) := ⟨_, rfl⟩
  rw [← hw3, ← hgb] at hgx
  rw [← hw3] at hb3
  rw [← hw3, ← hgb]
  have HX3 := Lib.hid (HX2.out.at_ (y := w3) fun k h1 h2 => hb3.block k (by have := HB2.out.2; omega))
  have HB3 := Lib.hid (And.intro (HB2.out.1.trans (hb3.mono (by have := HB2.out.2; omega))) (show A + 3 ≤ gb ∧ gb < w3.heap.size from ⟨by have := HB2.out.2; omega, (Array.getElem?_eq_some_iff.1 hgx).1⟩))
  have HG3 := Lib.hid hgx
  obtain ⟨g0, g1, g2, g3⟩ := four_at hgx
  clear hgx hb3 hgb hw3 HX2 HB2
  go_wp2_with fail
  ((with_reducible refine (HCK.out _).mono ?_))
  rintro e w4 ⟨rfl, hb4⟩
  have HX4 := Lib.hid (HX3.out.at_ (y := w4) fun k h1 h2 => hb4.block k (by have := HB3.out.2; omega))
  have HB4 := Lib.hid (And.intro (HB3.out.1.trans (hb4.mono (by have := HB3.out.2; omega))) (And.intro HB3.out.2.1 (Nat.lt_of_lt_of_le HB3.out.2.2 hb4.size)))
  have HG4 := Lib.hid ((hb4.block gb HB3.out.2.2).trans HG3.out)
  clear hb4 g0 g1 g2 g3 HX3 HB3 HG3
  obtain ⟨g0, g1, g2, g3⟩ := four_at HG4.out
  obtain ⟨c0, c1, c2, c3, c4, c5, c6, c7⟩ := HX4.out.c
  go_wp2_with fail
  ((with_reducible refine (HPG.out _ HB4.out.1).mono ?_))
  rintro e w5 ⟨sv, L, rfl, hown, hLn, hb5, hLi⟩
  obtain ⟨la, lc, rfl, hcl⟩ := cellsSP_own hown
  have HX5 := Lib.hid (HX4.out.at_ (y := w5) fun k h1 h2 => hb5.block k (by have := HB4.out.2; omega))
  have HG5 := Lib.hid ((hb5.block gb HB4.out.2.2).trans HG4.out)
  have HL5 := Lib.hid (And.intro hown (And.intro hLn (And.intro hLi hcl)))
  have HB5 := Lib.hid (And.intro (HB4.out.1.trans (hb5.mono (by have := HB4.out.2; omega))) (And.intro HB4.out.2.1 (And.intro (Nat.lt_of_lt_of_le HB4.out.2.2 hb5.size) (show w4.heap.size ≤ w5.heap.size from hb5.size))))
  clear hown hLn hb5 hLi hcl g0 g1 g2 g3 c0 c1 c2 c3 c4 c5 c6 c7
  obtain ⟨g0, g1, g2, g3⟩ := four_at HG5.out
  obtain ⟨c0, c1, c2, c3, c4, c5, c6, c7⟩ := HX5.out.c
  have HPA := Lib.hid fun (x : World) => pages_any (s.n : Int) (s.bl : Int) (s.pg : Int) (s.sz : Int) x (by have := HN.out.1; omega) (by have := HN.out.2.1; omega) (by have := HG.out.2.2.2.2.1; omega) (by have := HG.out.2.2.2.2.2.1; omega)
  have q8 : decide ((s.pg : Int) * ((s.n : Int) - 1) < (L.length : Int)) = true := by
    have h1 := HN.out.2.2
    rw [← HL5.out.2.1] at h1
    have h2 : ((s.pg * (s.n - 1) : Nat) : Int) = (s.pg : Int) * ((s.n : Int) - 1) := by rw [Int.natCast_mul, Int.natCast_sub (by have := HN.out.1; omega)]; rfl
    rw [← h2]
    simp only [decide_eq_true_eq]
    exact Int.ofNat_lt.2 h1
  go_wp2_with fail
  ((with_reducible refine (HPA.out _).mono ?_))
  rintro e w6 ⟨rfl, hb6⟩
  have hX6 := HX5.out.at_ (y := w6) fun k h1 h2 => hb6.block k (by have := HB5.out.2; omega)
  have HB6 := Lib.hid (HB5.out.1.trans (hb6.mono (by have := HB5.out.2; omega)))
  have HXX := Lib.hid hX6
  clear hb6 g0 g1 g2 g3 c0 c1 c2 c3 c4 c5 c6 c7
  obtain ⟨c0, c1, c2, c3, c4, c5, c6, c7⟩ := hX6.c
  clear hX6
  go_wp2_with fail
  exact bodyPost_ret (v := .int .i64 28) (by simp [results, Tryz.results21, go_sem, c5]) rfl ⟨rfl, by rw [HA.out] at HB6; exact HB6.out.setCell (p := ⟨A + 1 + 1, 0, none⟩) (by rw [HA.out]; show w.heap.size ≤ w.heap.size + 1 + 1; omega) _⟩
end
end Go.Proofs.YthgcjiocelcblaaGreat
