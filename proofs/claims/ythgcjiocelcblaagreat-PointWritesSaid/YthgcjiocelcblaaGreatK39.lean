/- point.Write: a point is written in the one of two segments that its number tells. -/
import Derived.Test.YthgcjiocelcblaaGreatK37
namespace Go.Proofs.YthgcjiocelcblaaGreat
open Go.RowKit Go.Deep

theorem m_erase (k : Nat) (a : Addr) (w : World) : (method (k + 2) 51 (.pointer (some a)) "Erase").run Tryz.prog w = .ok (134, .pointer (some a)) w := by kernel_rfl
theorem na_erase (k : Nat) (a : Addr) (w : World) : (nilAhead (k + 2) 51 (.pointer (some a)) "Erase").run Tryz.prog w = .ok (some false) w := by kernel_rfl
/-- A segment: R stripes, and nothing behind them. -/
def SegIs (s : RS) (seg R : Nat) (C : Nat → RH × List Nat) : Prop := (∀ r, r < R → RowX s seg r (fun q => C (r * (s.n - 1) + q))) ∧ ∀ r, R ≤ r → r < s.pg → ∀ m, m < s.n → s.F (m, seg, r) = none
def PtWrote (B : Nat) (s : RS) (sq ba : Nat) (ml el : List Nat) (w : World) (e : Ending) (w' : World) : Prop :=
  ∃ s', e = .returned (.int .i64 0) ∧ Ram B s' w' ∧ RStep s w s' w' ∧ s'.gone = s.gone ∧ s'.ol.length ≤ s.ol.length + s.n * s.pg ∧ (∀ k, k.2.1 ≠ 2 + sq % 2 → s'.F k = s.F k) ∧
    SegIs s' (2 + sq % 2) (rowsOf s.n (manyOf s.sz (16 + 4 * ml.length + 4 * el.length))) (ptC s.sz sq (manyOf s.sz (16 + 4 * ml.length + 4 * el.length)) (ptX s.sz sq ba ml el))
section
variable {B : Nat} {s : RS} {w : World}
attribute [local go_sem] Oper.semAt_some
set_option maxRecDepth 100000 in
set_option maxHeartbeats 4000000 in
theorem ptWrite_any (h : Ram B s w) (hB : B ≤ w.heap.size) (sq ba : Nat) (ma : Option Addr) (mn mc : Nat) (ml : List Nat) (ea : Option Addr) (en ec : Nat) (el : List Nat) (hp : PT.Ok ⟨sq, ba, ma, mn, mc, ml, ea, en, ec, el⟩ w) (hm : mn ≤ 1000) (he : en ≤ 1000)
    (hfit : manyOf s.sz (16 + 4 * ml.length + 4 * el.length) ≤ s.pg * (s.n - 1)) (hol : s.ol.length + s.n * s.pg ≤ 1000) (hone : deads s (ordL 0 s.n s.first) ≤ 1) (hs1000 : s.sz ≤ 1000) :
    Calls Tryz.prog 21 #[.iface 51 (.pointer (some ⟨s.rb, 0, none⟩)), .agg #[.int .u32 (sq : Int), .int .u32 (ba : Int), .slice ma mn mc, .slice ea en ec]] w (PtWrote B s sq ba ml el w) := by
  refine (callsIn_wide (n := 3)).1 ?_
  have hg := h.geo
  have HG := Lib.hid hg
  have hn3 : 3 ≤ s.n := by have := hg.1; omega
  have hn16 : s.n ≤ 16 := by have := hg.2.1; omega
  have hsz0 : 256 ≤ s.sz := by have := hg.2.2.2.2.2.2.1; omega
  have hsz1 : s.sz ≤ 1024 := by have := hg.2.2.2.2.2.2.2.1; omega
  have hsq := hp.sq_
  have tm := fun k => m_geo k ⟨s.rb, 0, none⟩
  have tm2 := fun k => m_erase k ⟨s.rb, 0, none⟩
  have tn2 := fun k => na_erase k ⟨s.rb, 0, none⟩
  have HGE := Lib.hid fun (x : World) (hx : Below w.heap.size w x) => ramGeo (h.step hx)
  have HCK := Lib.hid fun (x : World) => check_good (s.n : Int) (s.bl : Int) (s.pg : Int) (s.sz : Int) x hg
  have HPG := Lib.hid fun (x : World) (hx : Below w.heap.size w x) => ptPages_any (s.n : Int) (s.bl : Int) (s.pg : Int) s.sz sq ba ma mn mc ml ea en ec el x (hp.step hx) hm he hsz0 hsz1
  have HWI := Lib.hid fun (x : World) => width_any (s.n : Int) (s.bl : Int) (s.pg : Int) (s.sz : Int) x (by omega) (by omega)
  have HR := Lib.hid h
  have HZ1 := Lib.hid hs1000
  clear hs1000
  have HP := Lib.hid hp
  have HN := Lib.hid (And.intro hn3 (And.intro hn16 (And.intro hsz0 (And.intro hsz1 (And.intro hB (And.intro hfit (And.intro hol (And.intro hone (And.intro hm (And.intro he hsq))))))))))
  clear h hg hn3 hn16 hsz0 hsz1 hp hB hfit hol hone hm he hsq
  refine callsIn_of_wp_marks Tryz.func21 rfl trivial ?_ rfl
  simp only [Tryz.ntmps21, List.size_toArray, List.length_cons, List.length_nil, Nat.reduceAdd, Nat.reduceSub, Array.replicate_succ, Array.replicate_zero, List.push_toArray, List.append_toArray, List.nil_append, List.cons_append]
  refine wpIn_wide.2 ?_
  go_upto_region 3 with fail
  obtain ⟨w1, hw1⟩ : ∃ x, x = wr3 w (.iface 51 (.pointer (some ⟨s.rb, 0, none⟩))) (.int .u32 (sq : Int)) (.int .u32 (ba : Int)) (.slice ma mn mc) (.slice ea en ec) := ⟨_, rfl⟩
  have hX1 := wr3_of w (.iface 51 (.pointer (some ⟨s.rb, 0, none⟩))) (.int .u32 (sq : Int)) (.int .u32 (ba : Int)) (.slice ma mn mc) (.slice ea en ec)
  have hb1 : Below w.heap.size w w1 := by rw [hw1]; exact bel_alloc (bel_alloc (bel_alloc (Below.refl _ _) _) _) _
  have hz1 : w1.heap.size = w.heap.size + 3 := by rw [hw1]; simp [wr3]
  rw [← hw1] at hX1
  have HX1 := Lib.hid hX1
  have HB1 := Lib.hid (And.intro hb1 hz1)
  unfold wr3 at hw1
  rw [← hw1]
  obtain ⟨A, hA⟩ : ∃ A, A = w.heap.size := ⟨_, rfl⟩
  rw [← hA] at HX1 HB1 HGE HPG ⊢
  have HA := Lib.hid hA
  clear hX1 hb1 hz1 hw1 hA
  obtain ⟨c0, c1, c2, c3, c4, c5, c6, c7⟩ := HX1.out.c
  go_wp2_with fail
  ((with_reducible refine (HGE.out _ HB1.out.1).mono ?_))
  rintro e w2 ⟨rfl, hb2⟩
  have HX2 := Lib.hid (HX1.out.at_ (y := w2) fun k h1 h2 => hb2.block k (by have := HB1.out.2; omega))
  have HB2 := Lib.hid (And.intro (HB1.out.1.trans (hb2.mono (by have := HB1.out.2; omega))) (show A + 3 ≤ w2.heap.size by have := HB1.out.2; have := hb2.size; omega))
  clear hb2 c0 c1 c2 c3 c4 c5 c6 c7
  go_upto_region 4 with fail
  have hgx := heap_alloc_new w2 (.cells #[.int .i64 (s.n : Int), .int .i64 (s.bl : Int), .int .i64 (s.pg : Int), .int .i64 (s.sz : Int)] 49)
  have hb3 := bel_alloc (Below.refl w2.heap.size w2) (.cells #[.int .i64 (s.n : Int), .int .i64 (s.bl : Int), .int .i64 (s.pg : Int), .int .i64 (s.sz : Int)] 49)
  obtain ⟨gb, hgb⟩ : ∃ x, x = w2.heap.size := ⟨_, rfl⟩
  obtain ⟨w3, hw3⟩ : ∃ x, x = w2.alloc (.cells #[.int .i64 (s.n : Int), .int .i64 (s.bl : Int), .int .i64 (s.pg : Int), .int .i64 (s.sz : Int)] 49) := ⟨_, rfl⟩
  rw [← hw3, ← hgb] at hgx
  rw [← hw3] at hb3
  rw [← hw3, ← hgb]
  have HX3 := Lib.hid (HX2.out.at_ (y := w3) fun k h1 h2 => hb3.block k (by have := HB2.out.2; omega))
  have HB3 := Lib.hid (And.intro (HB2.out.1.trans (hb3.mono (by have := HB2.out.2; omega))) (show A + 3 ≤ gb ∧ gb < w3.heap.size from ⟨by have := HB2.out.2; omega, (Array.getElem?_eq_some_iff.1 hgx).1⟩))
  have HG3 := Lib.hid hgx
  obtain ⟨g0, g1, g2, g3⟩ := four_at hgx
  clear hgx hb3 hgb hw3 HX2 HB2
  go_wp2_with fail
  ((with_reducible refine (HCK.out _).mono ?_))
  rintro e w4 ⟨rfl, hb4⟩
  have HX4 := Lib.hid (HX3.out.at_ (y := w4) fun k h1 h2 => hb4.block k (by have := HB3.out.2; omega))
  have HB4 := Lib.hid (And.intro (HB3.out.1.trans (hb4.mono (by have := HB3.out.2; omega))) (And.intro HB3.out.2.1 (Nat.lt_of_lt_of_le HB3.out.2.2 hb4.size)))
  have HG4 := Lib.hid ((hb4.block gb HB3.out.2.2).trans HG3.out)
  clear hb4 g0 g1 g2 g3 HX3 HB3 HG3
  obtain ⟨g0, g1, g2, g3⟩ := four_at HG4.out
  obtain ⟨c0, c1, c2, c3, c4, c5, c6, c7⟩ := HX4.out.c
  go_wp2_with fail
  ((with_reducible refine (HPG.out _ HB4.out.1).mono ?_))
  rintro e w5 ⟨sv, L, rfl, hown, hLn, hb5, hLi⟩
  obtain ⟨la, lc, rfl, hcl⟩ := cellsSP_own hown
  have HX5 := Lib.hid (HX4.out.at_ (y := w5) fun k h1 h2 => hb5.block k (by have := HB4.out.2; omega))
  have HG5 := Lib.hid ((hb5.block gb HB4.out.2.2).trans HG4.out)
  have HL5 := Lib.hid (And.intro hown (And.intro hLn (And.intro hLi hcl)))
  have HB5 := Lib.hid (And.intro (HB4.out.1.trans (hb5.mono (by have := HB4.out.2; omega))) (And.intro HB4.out.2.1 (And.intro (Nat.lt_of_lt_of_le HB4.out.2.2 hb5.size) (show w4.heap.size ≤ w5.heap.size from hb5.size))))
  clear hown hLn hb5 hLi hcl g0 g1 g2 g3 c0 c1 c2 c3 c4 c5 c6 c7
  obtain ⟨g0, g1, g2, g3⟩ := four_at HG5.out
  obtain ⟨c0, c1, c2, c3, c4, c5, c6, c7⟩ := HX5.out.c
  have HPA := Lib.hid fun (x : World) => pages_any (s.n : Int) (s.bl : Int) (s.pg : Int) (s.sz : Int) x (by have := HN.out.1; omega) (by have := HN.out.2.1; omega) (by have := HG.out.2.2.2.2.1; omega) (by have := HG.out.2.2.2.2.2.1; omega)
  have q8 : decide ((s.pg : Int) * ((s.n : Int) - 1) < (L.length : Int)) = false := by
    have h1 := HN.out.2.2.2.2.2.1
    rw [← HL5.out.2.1] at h1
    have h2 : ((s.pg * (s.n - 1) : Nat) : Int) = (s.pg : Int) * ((s.n : Int) - 1) := by rw [Int.natCast_mul, Int.natCast_sub (by have := HN.out.1; omega)]; rfl
    rw [← h2]
    simp only [decide_eq_false_iff_not, Int.not_lt]
    exact Int.ofNat_le.2 h1
  go_wp2_with fail
  ((with_reducible refine (HPA.out _).mono ?_))
  rintro e w6 ⟨rfl, hb6⟩
  have HX6 := Lib.hid (HX5.out.at_ (y := w6) fun k h1 h2 => hb6.block k (by have := HB5.out.2; omega))
  have HG6 := Lib.hid ((hb6.block gb HB5.out.2.2.1).trans HG5.out)
  have HB6 := Lib.hid (And.intro (HB5.out.1.trans (hb6.mono (by have := HB5.out.2; omega))) (And.intro HB5.out.2.1 (And.intro (Nat.lt_of_lt_of_le HB5.out.2.2.1 hb6.size) (show Below w5.heap.size w5 w6 from hb6))))
  clear hb6 g0 g1 g2 g3 c0 c1 c2 c3 c4 c5 c6 c7
  obtain ⟨g0, g1, g2, g3⟩ := four_at HG6.out
  obtain ⟨c0, c1, c2, c3, c4, c5, c6, c7⟩ := HX6.out.c
  go_upto_region 11 with fail
  rw [show (2 : Int) + (sq : Int) % 2 = ((2 + sq % 2 : Nat) : Int) by omega]
  obtain ⟨seg, hseg⟩ : ∃ x, x = 2 + sq % 2 := ⟨_, rfl⟩
  rw [← hseg]
  have hsx := heap_alloc_new w6 (.cells #[.int .i64 (seg : Int)] 3)
  have hb7 := bel_alloc (Below.refl w6.heap.size w6) (.cells #[.int .i64 (seg : Int)] 3)
  obtain ⟨sb, hsb⟩ : ∃ x, x = w6.heap.size := ⟨_, rfl⟩
  obtain ⟨w7, hw7⟩ : ∃ x, x = w6.alloc (.cells #[.int .i64 (seg : Int)] 3) := ⟨_, rfl⟩
  rw [← hw7, ← hsb] at hsx
  rw [← hw7] at hb7
  rw [← hw7, ← hsb]
  have HX7 := Lib.hid (HX6.out.at_ (y := w7) fun k h1 h2 => hb7.block k (by have := HB6.out.2; omega))
  have HG7 := Lib.hid ((hb7.block gb HB6.out.2.2.1).trans HG6.out)
  have HB7 := Lib.hid (And.intro (HB6.out.1.trans (hb7.mono (by have := HB6.out.2; omega))) (And.intro HB6.out.2.1 (And.intro (Nat.lt_of_lt_of_le HB6.out.2.2.1 hb7.size) (And.intro (HB6.out.2.2.2.trans (hb7.mono HB6.out.2.2.2.size)) (show A + 3 ≤ sb by have := HB6.out.2; omega)))))
  have HS7 := Lib.hid (And.intro hsx (Array.getElem?_eq_some_iff.1 hsx).1)
  have HSEG := Lib.hid hseg
  clear hb7 hsx hsb hw7 hseg g0 g1 g2 g3 c0 c1 c2 c3 c4 c5 c6 c7 HX6 HG6 HB6 q8
  obtain ⟨c0, _, _, _, _, c5, c6, c7⟩ := HX7.out.c
  have s0 : w7.cell? ⟨sb, 0, none⟩ = some (.int .i64 (seg : Int)) := by simp [World.cell?, HS7.out.1]
  have HR7 : Hid (Ram B s w7) := Lib.hid (HR.out.step (by have := HB7.out.1; rw [HA.out] at this; exact this))
  have HER := Lib.hid (ramErase HR7.out seg (by have := HSEG.out; omega))
  go_wp2_with fail
  ((with_reducible refine HER.out.mono ?_))
  rintro e w8 ⟨rfl, hr8, hs8⟩
  have HR8 := Lib.hid hr8
  have HS8 := Lib.hid hs8
  clear hr8 hs8 c0 c5 c6 c7 s0
  have hlow : ∀ j, A ≤ j → ¬ s.ob j := fun j hj => HR.out.fresh (by rw [← HA.out]; exact hj)
  have hkey : ∀ j, A ≤ j → j < w7.heap.size → w8.heap[j]? = w7.heap[j]? := fun j h1 h2 => (HS8.out.block j h2 (hlow j h1)).2
  have HLOW := Lib.hid hlow
  have HX8 := Lib.hid (HX7.out.at_ (y := w8) fun j h1 h2 => hkey j h1 (by have := HX7.out.lt; omega))
  have HG8 := Lib.hid ((hkey gb (by have := HB7.out.2.1; omega) HB7.out.2.2.1).trans HG7.out)
  have HSB8 := Lib.hid ((hkey sb (by have := HB7.out.2.2.2.2; omega) HS7.out.2).trans HS7.out.1)
  clear hlow hkey
  -- the pages
  have HML : Hid (0 < L.length ∧ L.length ≤ 40) := Lib.hid (by
    have hF := pgF s.sz (16 + 4 * ml.length + 4 * el.length) HN.out.2.2.1 HN.out.2.2.2.1 (by omega) (by
      have h1 : ml.length = mn := HP.out.ml_.1
      have h2 : el.length = en := HP.out.el_.1
      have h3 := HN.out.2.2.2.2.2.2.2.2.1
      have h4 := HN.out.2.2.2.2.2.2.2.2.2.1
      omega)
    rw [HL5.out.2.1]
    exact ⟨hF.pos, hF.m40⟩)
  have hpg5 : Pgs s w5 la L := by
    obtain ⟨q1, q2, q3, q4⟩ := HL5.out
    have hge : w.heap.size ≤ w4.heap.size := HB4.out.1.size
    refine ⟨⟨q4, fun p hp => ?_⟩, ⟨?_, fun p hp => ?_⟩, fun x hx => ?_, fun p hp x hx => ?_⟩
    · obtain ⟨i, hi, rfl⟩ := mem_getD hp
      have hm40 : L.length < 65536 := by have := HML.out; omega
      exact ⟨(q3 i hi).2.2.2.1, by rw [(q3 i hi).1]; exact (ptHdr_fits HN.out.2.2.2.2.2.2.2.2.2.2 (by omega) hm40).1⟩
    · have := HML.out; omega
    · obtain ⟨i, hi, rfl⟩ := mem_getD hp
      rw [(q3 i hi).2.2.1]; have := HN.out.2.2.1; omega
    · rcases q1.2 with ⟨q, q0⟩ | ⟨g, cap, cur, e, hgl, _⟩
      · have := HML.out; omega
      · simp only [Value.slice.injEq] at e
        rw [e.1] at hx
        cases hx
        exact HR.out.fresh (Nat.le_trans hge hgl)
    · obtain ⟨i, hi, rfl⟩ := mem_getD hp
      exact HR.out.fresh (Nat.le_trans hge ((q3 i hi).2.2.2.2 x hx))
  have HPG5 := Lib.hid hpg5
  clear hpg5
  obtain ⟨lg, hla, hlc⟩ : ∃ lg, la = some ⟨lg, 0, none⟩ ∧ L.length ≤ lc := by
    rcases HL5.out.1.2 with ⟨q, q0⟩ | ⟨g, cap, cur, e, _, _, hc, _⟩
    · have := HPG5.out.len.1; omega
    · simp only [Value.slice.injEq] at e
      exact ⟨g, e.1, by rw [e.2.2]; exact hc⟩
  subst hla
  have HLC := Lib.hid hlc
  clear hlc
  obtain ⟨c0, c1, c2, c3, c4, c5, c6, c7⟩ := HX8.out.c
  have hsl := (Array.getElem?_eq_some_iff.1 HSB8.out).1
  go_upto_region 15 with fail
  have hrx := heap_alloc_new w8 (.cells #[.int .i64 0] 3)
  have hb9 := bel_alloc (Below.refl w8.heap.size w8) (.cells #[.int .i64 0] 3)
  obtain ⟨rb, hrb⟩ : ∃ x, x = w8.heap.size := ⟨_, rfl⟩
  obtain ⟨w9, hw9⟩ : ∃ x, x = w8.alloc (.cells #[.int .i64 0] 3) := ⟨_, rfl⟩
  rw [← hw9, ← hrb] at hrx
  rw [← hw9] at hb9
  rw [← hw9, ← hrb]
  have HG9 := Lib.hid ((hb9.block gb (Array.getElem?_eq_some_iff.1 HG8.out).1).trans HG8.out)
  have HB9 := Lib.hid (And.intro hb9 (And.intro hrx (And.intro hrb (Array.getElem?_eq_some_iff.1 hrx).1)))
  clear hrx hb9 hrb hw9 c0 c1 c2 c3 c4 c5 c6 c7 hsl
  obtain ⟨g0, g1, g2, g3⟩ := four_at HG9.out
  have HWI := Lib.hid fun (x : World) => width_any (s.n : Int) (s.bl : Int) (s.pg : Int) (s.sz : Int) x (by have := HN.out.1; omega) (by have := HN.out.2.1; omega)
  have HCH : Hid (∀ x : World, Calls Tryz.prog 38 #[.slice (some ⟨lg, 0, none⟩) L.length lc, .int .i64 ((s.n : Int) - 1)] x (ChunkRetP (.slice (some ⟨lg, 0, none⟩) L.length lc) (s.n - 1) x)) := Lib.hid fun x => by
    have h := chunkP_any (.slice (some ⟨lg, 0, none⟩) L.length lc) ⟨_, _, _, rfl⟩ (s.n - 1) (by have := HN.out.1; omega) (by have := HN.out.2.1; omega) x
    rw [Int.natCast_sub (by have := HN.out.1; omega)] at h
    exact h
  go_wp2_with fail
  ((with_reducible refine (HWI.out _).mono ?_))
  rintro e wa ⟨rfl, hba⟩
  have HBA := Lib.hid hba
  clear hba g0 g1 g2 g3
  go_wp2_with fail
  ((with_reducible refine (HCH.out _).mono ?_))
  rintro e wb ⟨bs, bn, rfl, hck, hbs, hbn, hbb⟩
  have hb8b : Below w8.heap.size w8 wb := (HB9.out.1.trans (HBA.out.mono HB9.out.1.size)).trans (hbb.mono (Nat.le_trans HB9.out.1.size HBA.out.size))
  have hsz8 : A ≤ w8.heap.size := by have := HX8.out.lt; omega
  have hW : WrS B s w A gb sb rb bs bn (.iface 51 (.pointer (some ⟨s.rb, 0, none⟩))) (.int .u32 (sq : Int)) (.int .u32 (ba : Int)) (.slice ma mn mc) (.slice ea en ec) (.slice (some ⟨lg, 0, none⟩) L.length lc) seg (some ⟨lg, 0, none⟩) L 0 0 (s.cut seg s.n 0) wb := by
    have h78 : Below w.heap.size w w7 := by have := HB7.out.1; rw [HA.out] at this; exact this
    refine ⟨HR8.out.step hb8b, ((RStep.of_below h78).trans HS8.out).trans (RStep.of_below hb8b), rfl, by show s.ol.length = s.ol.length + 0 * s.n; omega, fun q hq => if_neg fun c => hq c.1, ?_, HX8.out.at_ fun j h1 h2 => hb8b.block j (by have := HX8.out.lt; omega), (hb8b.block gb (Array.getElem?_eq_some_iff.1 HG8.out).1).trans HG8.out, (hb8b.block sb (Array.getElem?_eq_some_iff.1 HSB8.out).1).trans HSB8.out, ?_, hck, fun j hj => ?_⟩
    · have h57 := HB7.out.2.2.2.1
      exact (((HPG5.out.step h57).rstep HS8.out).step hb8b)
    · exact ((hbb.block rb (Nat.lt_of_lt_of_le HB9.out.2.2.2 HBA.out.size)).trans ((HBA.out.block rb HB9.out.2.2.2).trans HB9.out.2.1))
    · refine HLOW.out j ?_
      have e1 := HB9.out.2.2.1
      have e2 := HB9.out.1.size
      have e3 := HBA.out.size
      rcases hj with ⟨q1, q2⟩ | rfl | rfl | rfl | rfl | rfl
      · exact q1
      · have := HB7.out.2.1; omega
      · have := HB7.out.2.2.2.2; omega
      · omega
      · omega
      · omega
  have HW := Lib.hid hW
  obtain ⟨kb1, kb2⟩ := ckP_lt hck
  obtain ⟨m, hm⟩ : ∃ m, m = rowsOf s.n L.length := ⟨_, rfl⟩
  have hst := ckP_stops 2 (by omega) lg 0 L.length lc (s.n - 1) m bs bn (by have := HML.out; omega) HLC.out (by have := HN.out.1; omega) (by have := HN.out.2.1; omega) (fun r => by rw [hm]; exact rows_iff HN.out.1 r) wb hck
  have henc : ckPEnc lg 0 L.length (s.n - 1) m = fun x => #[.slice (some ⟨lg, min x (m - 1) * (s.n - 1) * 8, none⟩) (ckN L.length (s.n - 1) (min x (m - 1))) (ckN L.length (s.n - 1) (min x (m - 1)))] := by
    funext x
    unfold ckPEnc
    rw [Nat.zero_add]
  rw [henc] at hst
  have HM := Lib.hid hm
  have HNE : Hid (A + 3 ≤ gb ∧ gb < rb ∧ A + 3 ≤ sb ∧ sb < rb ∧ rb < bs ∧ rb < bn) := Lib.hid (by
    have e1 := HB9.out.2.2.1
    have e2 := HBA.out.size
    have e3 := HB9.out.2.2.2
    have e4 := (Array.getElem?_eq_some_iff.1 HG8.out).1
    have e5 := (Array.getElem?_eq_some_iff.1 HSB8.out).1
    have e6 := HB7.out.2.1
    have e7 := HB7.out.2.2.2.2
    omega)
  clear henc
  have hszb : w.heap.size ≤ wb.heap.size := HW.out.st.size
  have HSZB := Lib.hid hszb
  have HKB := Lib.hid kb1
  clear hm hck hbs hbn hbb hb8b hsz8 hW
  go_wp2
  refine (wpIn_wide (n := 3)).1 ?_
  refine wpIn_rangeFunc_ownG (n := 3) rfl (by omega) (gf := 54) (lb := #[.pointer (some ⟨bs, 0, none⟩), .pointer (some ⟨bn, 0, none⟩)]) rfl trivial (enters_of Tryz.func54 (by kernel_rfl) rfl)
    hst twoKept_t (twoKept_b kb1 kb2) (Below.refl _ _) (fun _ => rfl)
    (fun pre W => ∃ s', WrS B s w A gb sb rb bs bn (.iface 51 (.pointer (some ⟨s.rb, 0, none⟩))) (.int .u32 (sq : Int)) (.int .u32 (ba : Int)) (.slice ma mn mc) (.slice ea en ec) (.slice (some ⟨lg, 0, none⟩) L.length lc) seg (some ⟨lg, 0, none⟩) L pre.length pre.length s' W ∧ (∀ r, r < pre.length → RowX s' seg r (fun q => ptC s.sz sq L.length (ptX s.sz sq ba ml el) (min (pre.getD r 0) (m - 1) * (s.n - 1) + q))) ∧ ∀ r, pre.length ≤ r → ∀ i, s'.F (i, seg, r) = (s.cut seg s.n 0).F (i, seg, r))
    (fun _ _ _ => False)
    (fun pre W W2 row hs hg hr => by
      obtain ⟨s', q1, q2⟩ := hs
      exact ⟨s', q1.grown HR.out hszb hg hr, q2⟩)
    (fun c => Own.from (fun _ _ _ _ hs _ _ => hs) _)
    ⟨s.cut seg s.n 0, HW.out, fun r hr => absurd hr (Nat.not_lt_zero r), fun _ _ _ => rfl⟩
    (fun x => { tmps := #[.iface 51 (.pointer (some ⟨s.rb, 0, none⟩)), .agg #[.int .u32 (sq : Int), .int .u32 (ba : Int), .slice ma mn mc, .slice ea en ec], .pointer (some ⟨A, 0, none⟩), .pointer (some ⟨A + 1, 0, none⟩), .pointer (some ⟨A + 1 + 1, 0, none⟩), .pointer (some ⟨gb, 0, none⟩), .int .i64 0, .slice (some ⟨lg, 0, none⟩) L.length lc, .pointer (some ⟨sb, 0, none⟩), .int .i64 0, .pointer (some ⟨rb, 0, none⟩), .slice (some ⟨lg, min x (m - 1) * (s.n - 1) * 8, none⟩) (ckN L.length (s.n - 1) (min x (m - 1))) (ckN L.length (s.n - 1) (min x (m - 1))), undef, .iface 51 (.pointer (some ⟨s.rb, 0, none⟩)), .bool false, .iface 51 (.pointer (some ⟨s.rb, 0, none⟩)), .agg #[.int .i64 (s.n : Int), .int .i64 (s.bl : Int), .int .i64 (s.pg : Int), .int .i64 (s.sz : Int)], .agg #[.int .i64 (s.n : Int), .int .i64 (s.bl : Int), .int .i64 (s.pg : Int), .int .i64 (s.sz : Int)], .int .i64 0, .int .i64 0, .bool false, undef, .agg #[.int .i64 (s.n : Int), .int .i64 (s.bl : Int), .int .i64 (s.pg : Int), .int .i64 (s.sz : Int)], .agg #[.int .u32 (sq : Int), .int .u32 (ba : Int), .slice ma mn mc, .slice ea en ec], .slice (some ⟨lg, 0, none⟩) L.length lc, .slice (some ⟨lg, 0, none⟩) L.length lc, .int .i64 (L.length : Int), .agg #[.int .i64 (s.n : Int), .int .i64 (s.bl : Int), .int .i64 (s.pg : Int), .int .i64 (s.sz : Int)], .int .i64 ((s.pg : Int) * ((s.n : Int) - 1)), .bool false, .pointer (some ⟨A + 1, 0, none⟩), .int .u32 (sq : Int), .int .u32 ((sq : Int) % 2), .int .i64 ((sq : Int) % 2), .int .i64 (seg : Int), .iface 51 (.pointer (some ⟨s.rb, 0, none⟩)), .int .i64 (seg : Int), .int .i64 0, .int .i64 0, .bool false, undef, .slice (some ⟨lg, 0, none⟩) L.length lc, .agg #[.int .i64 (s.n : Int), .int .i64 (s.bl : Int), .int .i64 (s.pg : Int), .int .i64 (s.sz : Int)], .int .i64 ((s.n : Int) - 1), .func (.func 54) #[] #[.pointer (some ⟨bs, 0, none⟩), .pointer (some ⟨bn, 0, none⟩)], .slice (some ⟨lg, min x (m - 1) * (s.n - 1) * 8, none⟩) (ckN L.length (s.n - 1) (min x (m - 1))) (ckN L.length (s.n - 1) (min x (m - 1))), undef, undef, undef, undef, undef, undef, undef, undef, undef, undef, undef, undef, undef], defers := [] }) ?assign ?body ?done ?stop
  case assign =>
    intro l x W K hK
    gi_wp2
    exact hK
  case body =>
    rintro l pre x W ⟨s', hWs, hrows, hrest⟩ hlen
    have HWs := Lib.hid hWs
    have HRO := Lib.hid (And.intro hrows hrest)
    have HLE := Lib.hid hlen
    obtain ⟨xx, hxx⟩ : ∃ y, y = min x (m - 1) := ⟨_, rfl⟩
    obtain ⟨ct, hct⟩ : ∃ y, y = ckN L.length (s.n - 1) xx := ⟨_, rfl⟩
    dsimp only
    rw [← hxx, ← hct]
    have hxr : xx * (s.n - 1) < L.length := by
      have h1 := (rows_iff (n := s.n) (many := L.length) HN.out.1 xx).1
      rw [← HM.out] at h1
      exact h1 (by omega)
    have HCT : Hid (0 < ct ∧ ct + 1 ≤ s.n ∧ xx * (s.n - 1) + ct ≤ L.length) := Lib.hid (by
      have h1 : ct = min (s.n - 1) (L.length - xx * (s.n - 1)) := by rw [hct]; rfl
      have := HN.out.1
      omega)
    have HXX := Lib.hid (And.intro hxx (And.intro hct hxr))
    have HFU : Hid (∀ y, Below W.heap.size W y → Calls Tryz.prog 41 #[.agg #[.int .i64 (s.n : Int), .int .i64 (s.bl : Int), .int .i64 (s.pg : Int), .int .i64 (s.sz : Int)], .agg #[.int .u32 (sq : Int), .int .u32 (ba : Int), .slice ma mn mc, .slice ea en ec], .slice (some ⟨lg, xx * (s.n - 1) * 8, none⟩) ct ct] y (FullRet s.sz sq ct (s.n - 1) ((L.drop (xx * (s.n - 1))).take ct) y)) := Lib.hid fun y hy => by
      have hcl := cellsSP_part (HWs.out.pgs.pg.1.step hy) (xx * (s.n - 1)) ct HCT.out.2.2
      rw [Nat.zero_add] at hcl
      exact full_any s.n (s.bl : Int) (s.pg : Int) s.sz sq ba ma mn mc ea en ec lg (xx * (s.n - 1) * 8) ct ct _ y HN.out.1 (by have := HN.out.2.1; omega) (by have := HN.out.2.2.1; omega) (by have := HN.out.2.2.2.1; omega) HCT.out.1 HCT.out.2.1 (Nat.le_refl _) (by rw [List.length_take, List.length_drop]; have := HCT.out.2.2; omega) hcl
    have hS : (fun y : World => (y.cell? ⟨A, 0, none⟩ = some (.iface 51 (.pointer (some ⟨s.rb, 0, none⟩))) ∧ y.cell? ⟨A + 1, 0, none⟩ = some (.int .u32 (sq : Int)) ∧ y.cell? ⟨A + 1, 1, none⟩ = some (.int .u32 (ba : Int)) ∧ y.cell? ⟨A + 1, 2, none⟩ = some (.slice ma mn mc) ∧ y.cell? ⟨A + 1, 3, none⟩ = some (.slice ea en ec) ∧ y.cell? ⟨gb, 0, none⟩ = some (.int .i64 (s.n : Int)) ∧ y.cell? ⟨gb, 1, none⟩ = some (.int .i64 (s.bl : Int)) ∧ y.cell? ⟨gb, 2, none⟩ = some (.int .i64 (s.pg : Int)) ∧ y.cell? ⟨gb, 3, none⟩ = some (.int .i64 (s.sz : Int)) ∧ y.cell? ⟨sb, 0, none⟩ = some (.int .i64 (seg : Int)) ∧ y.cell? ⟨rb, 0, none⟩ = some (.int .i64 (pre.length : Int)))) W.drew := (hWs.step (Below.refl _ _).drew).cells
    clear hst hlen hWs hrows hrest hxx hct hxr
    gi_wp2
    refine wpIn_region_held_round l _ (fun y => (y.cell? ⟨A, 0, none⟩ = some (.iface 51 (.pointer (some ⟨s.rb, 0, none⟩))) ∧ y.cell? ⟨A + 1, 0, none⟩ = some (.int .u32 (sq : Int)) ∧ y.cell? ⟨A + 1, 1, none⟩ = some (.int .u32 (ba : Int)) ∧ y.cell? ⟨A + 1, 2, none⟩ = some (.slice ma mn mc) ∧ y.cell? ⟨A + 1, 3, none⟩ = some (.slice ea en ec) ∧ y.cell? ⟨gb, 0, none⟩ = some (.int .i64 (s.n : Int)) ∧ y.cell? ⟨gb, 1, none⟩ = some (.int .i64 (s.bl : Int)) ∧ y.cell? ⟨gb, 2, none⟩ = some (.int .i64 (s.pg : Int)) ∧ y.cell? ⟨gb, 3, none⟩ = some (.int .i64 (s.sz : Int)) ∧ y.cell? ⟨sb, 0, none⟩ = some (.int .i64 (seg : Int)) ∧ y.cell? ⟨rb, 0, none⟩ = some (.int .i64 (pre.length : Int)))) (by kernel_rfl) (noDefer_of (by kernel_rfl)) ?_
    refine wpAnyH_take (i := 0) (oi := ({ dst := some 46, op := Op.load 81 (Operand.tmp 2), type := 81, pos := "pages.go:32", after := #[], guard := none } : Oper)) (v := .iface 51 (.pointer (some ⟨s.rb, 0, none⟩))) rfl (by kernel_rfl) (by kernel_rfl) (by kernel_rfl) (fun _ _ _ h => h) (Or.inl ⟨by rfl, fun y hy => by obtain ⟨k0, k1, k2, k3, k4, k5, k6, k7, k8, k9, k10⟩ := hy; go_simp⟩) hS ?_
    simp only [Act.put, List.setIfInBounds_toArray, List.set_cons_zero, List.set_cons_succ]
    refine wpAnyH_take (i := 1) (oi := ({ dst := some 47, op := Op.load 3 (Operand.tmp 8), type := 3, pos := "pages.go:32", after := #[], guard := none } : Oper)) (v := .int .i64 (seg : Int)) rfl (by kernel_rfl) (by kernel_rfl) (by kernel_rfl) (fun _ _ _ h => h) (Or.inl ⟨by rfl, fun y hy => by obtain ⟨k0, k1, k2, k3, k4, k5, k6, k7, k8, k9, k10⟩ := hy; go_simp⟩) hS ?_
    simp only [Act.put, List.setIfInBounds_toArray, List.set_cons_zero, List.set_cons_succ]
    refine wpAnyH_take (i := 2) (oi := ({ dst := some 48, op := Op.load 3 (Operand.tmp 10), type := 3, pos := "pages.go:32", after := #[], guard := none } : Oper)) (v := .int .i64 (pre.length : Int)) rfl (by kernel_rfl) (by kernel_rfl) (by kernel_rfl) (fun _ _ _ h => h) (Or.inl ⟨by rfl, fun y hy => by obtain ⟨k0, k1, k2, k3, k4, k5, k6, k7, k8, k9, k10⟩ := hy; go_simp⟩) hS ?_
    simp only [Act.put, List.setIfInBounds_toArray, List.set_cons_zero, List.set_cons_succ]
    refine wpAnyH_take (i := 3) (oi := ({ dst := some 49, op := Op.load 49 (Operand.tmp 5), type := 49, pos := "pages.go:32", after := #[], guard := none } : Oper)) (v := .agg #[.int .i64 (s.n : Int), .int .i64 (s.bl : Int), .int .i64 (s.pg : Int), .int .i64 (s.sz : Int)]) rfl (by kernel_rfl) (by kernel_rfl) (by kernel_rfl) (fun _ _ _ h => h) (Or.inl ⟨by rfl, fun y hy => by obtain ⟨k0, k1, k2, k3, k4, k5, k6, k7, k8, k9, k10⟩ := hy; go_simp⟩) hS ?_
    simp only [Act.put, List.setIfInBounds_toArray, List.set_cons_zero, List.set_cons_succ]
    refine wpAnyH_take (i := 4) (oi := ({ dst := some 50, op := Op.load 25 (Operand.tmp 3), type := 25, pos := "pages.go:32", after := #[], guard := none } : Oper)) (v := .agg #[.int .u32 (sq : Int), .int .u32 (ba : Int), .slice ma mn mc, .slice ea en ec]) rfl (by kernel_rfl) (by kernel_rfl) (by kernel_rfl) (fun _ _ _ h => h) (Or.inl ⟨by rfl, fun y hy => by obtain ⟨k0, k1, k2, k3, k4, k5, k6, k7, k8, k9, k10⟩ := hy; go_simp⟩) hS ?_
    simp only [Act.put, List.setIfInBounds_toArray, List.set_cons_zero, List.set_cons_succ]
    refine wpAnyH_take (i := 5) (oi := ({ dst := some 51, op := Op.move (Operand.tmp 11), type := 84, pos := "pages.go:32", after := #[], guard := none } : Oper)) (v := .slice (some ⟨lg, xx * (s.n - 1) * 8, none⟩) ct ct) rfl (by kernel_rfl) (by kernel_rfl) (by kernel_rfl) (fun _ _ _ h => h) (Or.inl ⟨by rfl, fun y hy => by obtain ⟨k0, k1, k2, k3, k4, k5, k6, k7, k8, k9, k10⟩ := hy; go_simp⟩) hS ?_
    simp only [Act.put, List.setIfInBounds_toArray, List.set_cons_zero, List.set_cons_succ]
    refine wpAnyH_ready (rs := [6]) (by kernel_rfl) (by simp) (AllReadyH.cons (o := ({ dst := some 52, op := Op.call { callee := Callee.value (Operand.func 41), args := #[Operand.tmp 49, Operand.tmp 50, Operand.tmp 51], argTypes := #[49, 25, 84] }, type := 84, pos := "pages.go:32", after := #[{ on := 3, ground := Ground.data }, { on := 4, ground := Ground.data }, { on := 5, ground := Ground.data }], guard := none } : Oper)) rfl (fun K hK => ?_) AllReadyH.nil)
    go_simp
    go_at_call 41
    refine (HFU.out _ (Below.refl _ _).drew).mono ?_
    rintro e y5 ⟨a5, c5, L5, rfl, hl5, hcl5, hF5, hb5⟩
    have hb5' : Below W.heap.size W y5 := (Below.refl W.heap.size W).drew.trans hb5
    have HW5 := Lib.hid (HWs.out.step hb5')
    have HB5 := Lib.hid hb5'
    have hL5 : L5Ok s.n s.sz (fun q => ptC s.sz sq L.length (ptX s.sz sq ba ml el) (xx * (s.n - 1) + q)) a5 L5 y5 := l5_ok HN.out.1 HXX.out.2.2 (by rw [ptX_len (by have := HN.out.2.2.1; omega), HL5.out.2.1]) HN.out.2.2.2.2.2.2.2.2.2.2 (by have := HML.out; omega) (fun i hi => by
      obtain ⟨p1, p2, p3, _, _⟩ := HL5.out.2.2.1 i hi
      exact ⟨p1, p2, p3, (HWs.out.pgs.pg.2 _ (sp_mem L i hi)).1⟩) hb5' hl5 hcl5 HXX.out.2.1 (.inr ⟨_, hF5⟩)
    have HWR := Lib.hid (wr_write HW5.out HN.out.2.2.2.2.1 HN.out.1 (by have h1 := HSEG.out; have h2 := HG.out.2.2.1; omega) (by
      have h1 := HLE.out
      have h2 := HM.out
      have h3 := HN.out.2.2.2.2.2.1
      rw [← HL5.out.2.1] at h3
      rcases Nat.lt_or_ge pre.length s.pg with c | c
      · exact c
      · have h4 := (rows_iff (n := s.n) (many := L.length) HN.out.1 pre.length).1 (by rw [← h2]; exact h1)
        have h5 := Nat.mul_le_mul_right (s.n - 1) c
        omega) HZ1.out HN.out.2.2.2.2.2.2.1 HN.out.2.2.2.2.2.2.2.1 a5 c5 L5 _ hL5)
    have hS5 : (fun y : World => (y.cell? ⟨A, 0, none⟩ = some (.iface 51 (.pointer (some ⟨s.rb, 0, none⟩))) ∧ y.cell? ⟨A + 1, 0, none⟩ = some (.int .u32 (sq : Int)) ∧ y.cell? ⟨A + 1, 1, none⟩ = some (.int .u32 (ba : Int)) ∧ y.cell? ⟨A + 1, 2, none⟩ = some (.slice ma mn mc) ∧ y.cell? ⟨A + 1, 3, none⟩ = some (.slice ea en ec) ∧ y.cell? ⟨gb, 0, none⟩ = some (.int .i64 (s.n : Int)) ∧ y.cell? ⟨gb, 1, none⟩ = some (.int .i64 (s.bl : Int)) ∧ y.cell? ⟨gb, 2, none⟩ = some (.int .i64 (s.pg : Int)) ∧ y.cell? ⟨gb, 3, none⟩ = some (.int .i64 (s.sz : Int)) ∧ y.cell? ⟨sb, 0, none⟩ = some (.int .i64 (seg : Int)) ∧ y.cell? ⟨rb, 0, none⟩ = some (.int .i64 (pre.length : Int)))) y5 := HW5.out.cells
    refine hK.out _ _ hS5 (fun _ => ?_)
    clear hK K hl5 hcl5 hF5 hb5 hb5' hL5
    try simp only [Act.put, List.setIfInBounds_toArray, List.set_cons_zero, List.set_cons_succ]
    refine wpAnyH_ready (rs := [7]) (by kernel_rfl) (by simp) (AllReadyH.cons (o := ({ dst := some 53, op := Op.call { callee := Callee.value (Operand.func 40), args := #[Operand.tmp 46, Operand.tmp 47, Operand.tmp 48, Operand.tmp 52], argTypes := #[99, 3, 3, 84] }, type := 30, pos := "pages.go:32", after := #[{ on := 0, ground := Ground.data }, { on := 1, ground := Ground.data }, { on := 2, ground := Ground.data }, { on := 6, ground := Ground.data }, { on := 6, ground := Ground.chain }], guard := none } : Oper)) rfl (fun K hK => ?_) AllReadyH.nil)
    go_simp
    go_at_call 40
    refine HWR.out.mono ?_
    rintro e y6 ⟨rfl, s2, hW6, hX6, hF6, hs6, hg6⟩
    have HW6 := Lib.hid (And.intro hW6 (And.intro hX6 (And.intro hF6 (And.intro hs6 hg6))))
    have hS6 : (fun y : World => (y.cell? ⟨A, 0, none⟩ = some (.iface 51 (.pointer (some ⟨s.rb, 0, none⟩))) ∧ y.cell? ⟨A + 1, 0, none⟩ = some (.int .u32 (sq : Int)) ∧ y.cell? ⟨A + 1, 1, none⟩ = some (.int .u32 (ba : Int)) ∧ y.cell? ⟨A + 1, 2, none⟩ = some (.slice ma mn mc) ∧ y.cell? ⟨A + 1, 3, none⟩ = some (.slice ea en ec) ∧ y.cell? ⟨gb, 0, none⟩ = some (.int .i64 (s.n : Int)) ∧ y.cell? ⟨gb, 1, none⟩ = some (.int .i64 (s.bl : Int)) ∧ y.cell? ⟨gb, 2, none⟩ = some (.int .i64 (s.pg : Int)) ∧ y.cell? ⟨gb, 3, none⟩ = some (.int .i64 (s.sz : Int)) ∧ y.cell? ⟨sb, 0, none⟩ = some (.int .i64 (seg : Int)) ∧ y.cell? ⟨rb, 0, none⟩ = some (.int .i64 (pre.length : Int)))) y6 := hW6.cells
    refine hK.out _ _ hS6 (fun _ => ?_)
    clear hK K hW6 hX6 hF6 hs6 hg6
    try simp only [Act.put, List.setIfInBounds_toArray, List.set_cons_zero, List.set_cons_succ]
    refine wpAnyH_take (i := 8) (oi := ({ dst := some 12, op := Op.assign (Operand.tmp 53), type := 30, pos := "pages.go:32", after := #[{ on := 7, ground := Ground.data }, { on := 7, ground := Ground.chain }, { on := 0, ground := Ground.phase }, { on := 1, ground := Ground.phase }, { on := 2, ground := Ground.phase }, { on := 3, ground := Ground.phase }, { on := 4, ground := Ground.phase }, { on := 5, ground := Ground.phase }, { on := 6, ground := Ground.phase }, { on := 7, ground := Ground.phase }], guard := none } : Oper)) (v := .int .i64 0) rfl (by kernel_rfl) (by kernel_rfl) (by kernel_rfl) (fun _ _ _ h => h) (Or.inl ⟨by rfl, fun y hy => by obtain ⟨k0, k1, k2, k3, k4, k5, k6, k7, k8, k9, k10⟩ := hy; go_simp⟩) hS6 ?_
    simp only [Act.put, List.setIfInBounds_toArray, List.set_cons_zero, List.set_cons_succ]
    refine wpAnyH_done (by kernel_rfl) ?_ _
    dsimp only [OnlyN]
    have r0 := HW6.out.1.cells.2.2.2.2.2.2.2.2.2.2
    have rf : y6.frozen? ⟨rb, 0, none⟩ = false := by simp [World.frozen?, HW6.out.1.row]
    have hw1 : wrap64 ((pre.length : Int) + 1) = ((pre.length + 1 : Nat) : Int) := by rw [IntWalk.wrap64_in _ (by have h1 := HLE.out; have h2 := HM.out; have h3 := (rows_iff (n := s.n) (many := L.length) HN.out.1 pre.length).1 (by rw [← h2]; exact h1); have h4 := HML.out.2; have h5 := Nat.le_mul_of_pos_right pre.length (show 0 < s.n - 1 by have := HN.out.1; omega); omega)]; omega
    clear hS hS5 hS6
    gi_wp2
    have e1 : ((pre.length : Int) + 1) = ((pre.length + 1 : Nat) : Int) := by omega
    have e2 : (pre ++ [x]).length = pre.length + 1 := by simp
    rw [e1]
    obtain ⟨n1, n2, n3, n4, n5, n6⟩ := HNE.out
    have hrw : w.heap.size ≤ rb := by have := HA.out; omega
    have hbump := HW6.out.1.bump hrw (fun j hj => by rcases hj with ⟨q1, q2⟩ | rfl | rfl | rfl | rfl <;> omega) (pre.length + 1)
    obtain ⟨_, hX6, hF6, hs6, hg6⟩ := HW6.out
    have hbsl := HKB.out
    have h56 : ∀ j, NB A gb sb rb bs bn j → y6.heap[j]? = W.heap[j]? := fun j hj => ((hs6.block j (HW5.out.ltNB j hj) (HW5.out.nob j hj)).2).trans (HB5.out.block j (HWs.out.ltNB j hj))
    have hsz7 : W.heap.size ≤ (y6.setCell ⟨rb, 0, none⟩ (.int .i64 ((pre.length + 1 : Nat) : Int))).heap.size := by have h1 := HB5.out.size; have h2 := hs6.size; simp; omega
    refine ⟨⟨hsz7, fun j o hj ho hc => ?_⟩, ⟨hsz7, (heap_setCell_other y6 ⟨rb, 0, none⟩ bs _ (Nat.ne_of_gt n5)).trans (h56 bs (.inr (.inr (.inr (.inr (.inl rfl)))))), (heap_setCell_other y6 ⟨rb, 0, none⟩ bn _ (Nat.ne_of_gt n6)).trans (h56 bn (.inr (.inr (.inr (.inr (.inr rfl))))))⟩, s2, by rw [e2]; exact hbump, fun r hr => ?_, fun r hr i => ?_⟩
    · have hjl : j < W.heap.size := (Array.getElem?_eq_some_iff.1 ho).1
      have h1 := HB5.out.block j hjl
      have ho5 : y5.heap[j]? = some o := h1.trans ho
      have hnb := HW5.out.nob_other HR.out HSZB.out j o hj ho5 hc
      have h2 := (hs6.block j (Array.getElem?_eq_some_iff.1 ho5).1 hnb).2
      exact ((heap_setCell_other y6 ⟨rb, 0, none⟩ j _ (show j ≠ rb by omega)).trans h2).trans ho5
    · rw [e2] at hr
      obtain ⟨f1, _, _, f4, _, f6, f7, _⟩ := hs6.same
      by_cases c : r < pre.length
      · have h1 := (HRO.out.1 r c).cong f4 f6 f7 hg6 (fun i => hF6 (i, seg, r) fun q => by have := q.2; simp only at this; omega)
        rw [show (pre ++ [x]).getD r 0 = pre.getD r 0 by simp [List.getD, List.getElem?_append_left c]]
        exact h1
      · obtain rfl : r = pre.length := by omega
        rw [show (pre ++ [x]).getD pre.length 0 = x by simp [List.getD], ← HXX.out.1]
        exact hX6
    · rw [e2] at hr
      rw [hF6 (i, seg, r) fun q => by have := q.2; simp only at this; omega]
      exact HRO.out.2 r (by omega) i
  case done =>
    rintro D ys W hD rfl ⟨s', hWs, hrows, hrest⟩ hK
    have HWs := Lib.hid hWs
    have HRO := Lib.hid (And.intro hrows hrest)
    have HK := Lib.hid (And.intro hK hD)
    obtain ⟨c0, _, _, _, _, c5, c6, c7⟩ := hWs.box.c
    have hself := setCell_self hWs.box.r
    clear hst hWs hrows hrest hK hD
    gi_wp2
    refine (wpIn_wide (n := 3)).1 ?_
    gi_wp2
    rw [show A + 1 + 1 = A + 2 from rfl]
    refine ⟨by simp, .inl ⟨_, _, rfl, run_takeDeferred HK.out.1, ?_⟩⟩
    have hWf := HWs.out.grown HR.out HSZB.out (grownBy_putObj' W D (.deferred none)) (fun r e => by cases e; exact ⟨HK.out.2, _, HK.out.1, rfl⟩)
    have hres := hWf.box.c.2.2.2.2.2.1
    rw [upto_length] at hWf
    have hmp : m ≤ s.pg := by
      rcases Nat.lt_or_ge s.pg m with c | c
      · have h1 := (rows_iff (n := s.n) (many := L.length) HN.out.1 s.pg).1 (by rw [← HM.out]; exact c)
        have h3 := HN.out.2.2.2.2.2.1
        rw [← HL5.out.2.1] at h3
        omega
      · exact c
    have hn' := hWf.st.same.2.2.2.1
    refine ⟨.int .i64 0, ?_, s', rfl, hWf.ram, hWf.st, hWf.gone, ?_, fun k hk => hWf.oth k (by rw [HSEG.out]; exact hk), ?_, ?_⟩
    · simp [results, Tryz.results21, go_sem, hres]
    · rw [hWf.ol, Nat.mul_comm m]
      exact Nat.add_le_add_left (Nat.mul_le_mul_left _ hmp) _
    · intro r hr
      rw [← HL5.out.2.1, ← HM.out] at hr
      have h1 := HRO.out.1 r (by rw [upto_length]; exact hr)
      rw [show (upto (fun j => j) m).getD r 0 = r by simp [upto, List.getD, hr], show min r (m - 1) = r by omega] at h1
      rw [← HSEG.out, hn', ← HL5.out.2.1]
      exact h1
    · intro r hr hrp i hi
      rw [← HL5.out.2.1, ← HM.out] at hr
      rw [← HSEG.out, HRO.out.2 r (by rw [upto_length]; exact hr) i]
      exact if_pos ⟨rfl, .inl ⟨by show i < s.n; rw [← hn']; exact hi, by show r < s.pg; rw [← hWf.st.same.2.2.2.2.2.1]; exact hrp⟩⟩
  case stop =>
    rintro D c pre W _ _ h _
    exact h.elim
end
end Go.Proofs.YthgcjiocelcblaaGreat
