/- Parts of the proof: PtRowsG, PtReadG, PtLastG, StTorn. -/
import Derived.Test.YthgcjiocelcblaaGreatK40
import Derived.Test.YthgcjiocelcblaaGreatK43
import Derived.Test.YthgcjiocelcblaaGreatK36
namespace Go.Proofs.YthgcjiocelcblaaGreat
open Go.RowKit Go.Deep

section
variable {B : Nat} {s : RS} {w : World}
attribute [local go_sem] Oper.semAt_some
set_option maxRecDepth 100000 in
set_option maxHeartbeats 4000000 in
theorem ptRowsG_any (h : Ram B s w) (seg R : Nat) (C : Nat → RH × List Nat) (hseg : seg + 5 < s.bl) (hR : R ≤ s.pg) (hs1000 : s.sz ≤ 1000) (Wh : Nat → Prop) (hWR : ∀ r, r < R → Wh r) (hNW : R < s.pg → ¬ Wh R)
    (hW1 : ∀ (W : World) (k : Nat), Below w.heap.size w W → k < s.pg → Wh k → Calls Tryz.prog 62 #[.iface 51 (.pointer (some ⟨s.rb, 0, none⟩)), .int .i64 (seg : Int), .int .i64 (k : Int)] W fun e y => ∃ sv Lr, e = .returned (.tuple #[sv, .int .i64 2, .int .i64 0]) ∧ GotP s.sz (fun j => ((C (k * (s.n - 1) + j)).2, (C (k * (s.n - 1) + j)).1)) W.heap.size (s.n - 1) sv Lr y ∧ Below W.heap.size W y)
    (hW2 : ∀ (W : World) (k : Nat), Below w.heap.size w W → k < s.pg → ¬ Wh k → ∃ kd : Nat, ((kd : Int) != 2) = true ∧ Calls Tryz.prog 62 #[.iface 51 (.pointer (some ⟨s.rb, 0, none⟩)), .int .i64 (seg : Int), .int .i64 (k : Int)] W fun e y => e = .returned (.tuple #[.slice none 0 0, .int .i64 (kd : Int), .int .i64 0]) ∧ Below W.heap.size W y) :
    Calls Tryz.prog 42 #[.iface 51 (.pointer (some ⟨s.rb, 0, none⟩)), .int .i64 (seg : Int)] w (RowsGot s R C w) := by
  refine (callsIn_wide (n := 3)).1 ?_
  have hg := h.geo
  have HG := Lib.hid hg
  have tm := fun k => m_geo k ⟨s.rb, 0, none⟩
  have HGE := Lib.hid fun (x : World) (hx : Below w.heap.size w x) => ramGeo (h.step hx)
  have HCK := Lib.hid fun (x : World) => check_good (s.n : Int) (s.bl : Int) (s.pg : Int) (s.sz : Int) x hg
  have HRW := Lib.hid fun (x : World) => geomRows_any (s.n : Int) (s.bl : Int) (s.sz : Int) (seg : Int) s.pg x (by have := hg.2.2.2.2.2.1; omega)
  have HR := Lib.hid h
  have HN := Lib.hid (And.intro hseg (And.intro hR (And.intro hs1000 (And.intro hWR hNW))))
  have HRW1 := Lib.hid hW1
  have HRW2 := Lib.hid hW2
  clear h hg hseg hR hs1000 hWR hNW hW1 hW2
  refine callsIn_of_wp_marks Tryz.func42 rfl trivial ?_ rfl
  simp only [Tryz.ntmps42, List.size_toArray, List.length_cons, List.length_nil, Nat.reduceAdd, Nat.reduceSub, Array.replicate_succ, Array.replicate_zero, List.push_toArray, List.append_toArray, List.nil_append, List.cons_append]
  refine wpIn_wide.2 ?_
  go_upto_region 1 with fail
  obtain ⟨w1, hw1⟩ : ∃ x, x = rw4 w (.iface 51 (.pointer (some ⟨s.rb, 0, none⟩))) (seg : Int) := ⟨_, rfl⟩
  have hX1 := rw4_of w (.iface 51 (.pointer (some ⟨s.rb, 0, none⟩))) (seg : Int)
  have hb1 : Below w.heap.size w w1 := by rw [hw1]; exact bel_alloc (bel_alloc (bel_alloc (bel_alloc (Below.refl _ _) _) _) _) _
  have hz1 : w1.heap.size = w.heap.size + 4 := by rw [hw1]; simp [rw4]
  rw [← hw1] at hX1
  unfold rw4 at hw1
  rw [← hw1]
  obtain ⟨A, hA⟩ : ∃ A, A = w.heap.size := ⟨_, rfl⟩
  rw [← hA] at hX1 hb1 hz1 HGE ⊢
  have HX1 := Lib.hid hX1
  have HB1 := Lib.hid (And.intro hb1 hz1)
  have HA := Lib.hid hA
  clear hX1 hb1 hz1 hw1 hA
  obtain ⟨c0, c1, _, _, _, _⟩ := HX1.out.c
  go_wp2_with fail
  ((with_reducible refine (HGE.out _ HB1.out.1).mono ?_))
  rintro e w2 ⟨rfl, hb2⟩
  have HX2 := Lib.hid (HX1.out.at_ (y := w2) fun k h1 h2 => hb2.block k (by have := HB1.out.2; omega))
  have HB2 := Lib.hid (HB1.out.1.trans (hb2.mono (by have := HB1.out.2; omega)))
  clear hb2 c0 c1
  go_upto_region 2 with fail
  have hgx := heap_alloc_new w2 (.cells #[.int .i64 (s.n : Int), .int .i64 (s.bl : Int), .int .i64 (s.pg : Int), .int .i64 (s.sz : Int)] 49)
  have hb3 := bel_alloc (Below.refl w2.heap.size w2) (.cells #[.int .i64 (s.n : Int), .int .i64 (s.bl : Int), .int .i64 (s.pg : Int), .int .i64 (s.sz : Int)] 49)
  obtain ⟨gb, hgb⟩ : ∃ x, x = w2.heap.size := ⟨_, rfl⟩
  obtain ⟨w3, hw3⟩ : ∃ x, x = w2.alloc (.cells #[.int .i64 (s.n : Int), .int .i64 (s.bl : Int), .int .i64 (s.pg : Int), .int .i64 (s.sz : Int)] 49) := ⟨_, rfl⟩
  rw [← hw3, ← hgb] at hgx
  rw [← hw3] at hb3
  rw [← hw3, ← hgb]
  have HX3 := Lib.hid (HX2.out.at_ (y := w3) fun k h1 h2 => hb3.block k (by have := HX2.out.lt; omega))
  have HB3 := Lib.hid (And.intro (HB2.out.trans (hb3.mono (by have := HX2.out.lt; omega))) (show A + 4 ≤ gb by have := HX2.out.lt; omega))
  have HG3 := Lib.hid hgx
  obtain ⟨g0, g1, g2, g3⟩ := four_at hgx
  clear hgx hb3 hgb hw3 HX2 HB2
  go_wp2_with fail
  ((with_reducible refine (HCK.out _).mono ?_))
  rintro e w4 ⟨rfl, hb4⟩
  have hgl := (Array.getElem?_eq_some_iff.1 HG3.out).1
  have HX4 := Lib.hid (HX3.out.at_ (y := w4) fun k h1 h2 => hb4.block k (by have := HX3.out.lt; omega))
  have HB4 := Lib.hid (And.intro (HB3.out.1.trans (hb4.mono (by have := HX3.out.lt; omega))) HB3.out.2)
  have HG4 := Lib.hid ((hb4.block gb hgl).trans HG3.out)
  clear hb4 g0 g1 g2 g3 hgl HX3 HB3 HG3
  go_upto_region 6 with fail
  have hlx : Go.Boxed (w4.alloc (.cells #[.slice none 0 0] 84)) w4.heap.size 84 (.slice none 0 0) := Go.Boxed.new _ _ _
  have hb5 := bel_alloc (Below.refl w4.heap.size w4) (.cells #[.slice none 0 0] 84)
  obtain ⟨lb, hlb⟩ : ∃ x, x = w4.heap.size := ⟨_, rfl⟩
  obtain ⟨w5, hw5⟩ : ∃ x, x = w4.alloc (.cells #[.slice none 0 0] 84) := ⟨_, rfl⟩
  rw [← hw5, ← hlb] at hlx
  rw [← hw5, ← hlb] at hb5
  rw [← hw5, ← hlb]
  have hgl := (Array.getElem?_eq_some_iff.1 HG4.out).1
  have HL5 : Hid (Go.Boxed w5 lb 84 (.slice none 0 0) ∧ Below lb w4 w5 ∧ lb = w4.heap.size) := Lib.hid ⟨hlx, hb5, hlb⟩
  obtain ⟨g0, g1, g2, g3⟩ := four_at ((hb5.block gb (by omega)).trans HG4.out)
  have hX5 : Rw4 A (.iface 51 (.pointer (some ⟨s.rb, 0, none⟩))) (seg : Int) w5 := HX4.out.at_ fun k h1 h2 => hb5.block k (by have := HX4.out.lt; omega)
  obtain ⟨c0, c1, _, _, _, _⟩ := hX5.c
  clear hlx hb5 hlb hw5 hX5 hgl
  go_wp2_with fail
  ((with_reducible refine (HRW.out _).mono ?_))
  rintro e w6 ⟨bm, bg, bs, rfl, hrm, q1, q2, q3, hb6⟩
  have HK6 := Lib.hid (And.intro hrm (And.intro q1 (And.intro q2 (And.intro q3 hb6))))
  clear hrm q1 q2 q3 hb6 c0 c1 g0 g1 g2 g3
  go_wp2
  -- the loop
  have hgg := HG.out
  have hpg : 4 ≤ s.pg ∧ s.pg ≤ 32 := by have h1 := hgg.2.2.2.2.1; have h2 := hgg.2.2.2.2.2.1; omega
  have hbl : s.bl ≤ 64 := by have := hgg.2.2.2.1; omega
  have hn3 : 3 ≤ s.n ∧ s.n ≤ 16 := by have h1 := hgg.1; have h2 := hgg.2.1; omega
  have hsz0 : 256 ≤ s.sz := by have := hgg.2.2.2.2.2.2.1; omega
  have HZ := Lib.hid (And.intro hpg (And.intro hbl (And.intro hn3 hsz0)))
  have hl : lb ≤ w4.heap.size := Nat.le_of_eq HL5.out.2.2
  have hlb5 : lb < w5.heap.size := HL5.out.1.lt
  have hlb6 : lb ≤ w6.heap.size := Nat.le_trans (Nat.le_of_lt hlb5) HK6.out.2.2.2.2.size
  have hm3 : bm ≠ lb ∧ bg ≠ lb ∧ bs ≠ lb := by have h1 := HK6.out.2.1; have h2 := HK6.out.2.2.1; have h3 := HK6.out.2.2.2.1; omega
  have HLB := Lib.hid (And.intro hl (And.intro hlb6 hm3))
  have hst := rows_stops 2 (by omega) bm bg bs s.pg (s.n : Int) (s.bl : Int) (s.pg : Int) (s.sz : Int) (seg : Int) hgg (by omega) (by have := HN.out.1; omega) (by omega) w6 HK6.out.1
  obtain ⟨k1, k2, k3⟩ := HK6.out.1.lt
  have hI0 : RowI lb w4 (s.n : Int) (s.bl : Int) (s.pg : Int) (s.sz : Int) (seg : Int) s.pg bm bg bs s.sz (s.n - 1) R C [] (.slice none 0 0) [] w6 := ⟨(HK6.out.2.2.2.2.block lb hlb5).trans HL5.out.1, ownSP_nil _ _, ⟨by simp, fun i hi => absurd hi (Nat.not_lt_zero i), fun p hp => by cases hp⟩, HK6.out.1, HL5.out.2.1.trans (HK6.out.2.2.2.2.mono (Nat.le_of_lt hlb5))⟩
  have HI0 := Lib.hid hI0
  -- stripe.Row, whole and blank
  clear hgg hpg hbl hn3 hsz0 hl hlb5 hm3 hI0
  refine (wpIn_wide (n := 3)).1 ?_
  refine wpIn_rangeFunc_ownG (n := 3) rfl (by omega) (gf := 78) (lb := #[.pointer (some ⟨bm, 0, none⟩), .pointer (some ⟨bg, 0, none⟩), .pointer (some ⟨bs, 0, none⟩)]) rfl trivial (enters_of Tryz.func78 (by kernel_rfl) rfl)
    hst threeKept_t (threeKept_b k1 k2 k3) (Below.refl _ _) (fun _ => rfl)
    (fun pre W => (∃ v L, RowI lb w4 (s.n : Int) (s.bl : Int) (s.pg : Int) (s.sz : Int) (seg : Int) s.pg bm bg bs s.sz (s.n - 1) R C (pre.map fun x => min x (s.pg - 1)) v L W) ∧ ∀ x ∈ pre, Wh (min x (s.pg - 1)))
    (fun c pre W => c = .exit 0 ∧ ∃ ini last, pre = ini ++ [last] ∧ ¬ Wh (min last (s.pg - 1)) ∧ (∃ v L, RowI lb w4 (s.n : Int) (s.bl : Int) (s.pg : Int) (s.sz : Int) (seg : Int) s.pg bm bg bs s.sz (s.n - 1) R C (ini.map fun x => min x (s.pg - 1)) v L W) ∧ ∀ x ∈ ini, Wh (min x (s.pg - 1)))
    (fun pre W W2 row hs hg hr => by
      obtain ⟨⟨v, L, q1⟩, q2⟩ := hs
      exact ⟨⟨v, L, q1.grown HLB.out.2.1 HLB.out.1 hg hr⟩, q2⟩)
    (fun c pre W W2 row hs hg hr => by
      obtain ⟨e, ini, last, p1, p2, ⟨v, L, q1⟩, q2⟩ := hs
      exact ⟨e, ini, last, p1, p2, ⟨v, L, q1.grown HLB.out.2.1 HLB.out.1 hg hr⟩, q2⟩)
    ⟨⟨_, _, HI0.out⟩, fun x hx => by cases hx⟩
    (fun x => { tmps := #[.iface 51 (.pointer (some ⟨s.rb, 0, none⟩)), .int .i64 (seg : Int), .pointer (some ⟨A, 0, none⟩), .pointer (some ⟨A + 1, 0, none⟩), .pointer (some ⟨A + 1 + 1, 0, none⟩), .pointer (some ⟨A + 1 + 1 + 1, 0, none⟩), .pointer (some ⟨gb, 0, none⟩), .int .i64 0, .pointer (some ⟨lb, 0, none⟩), .int .i64 ((min x (s.pg - 1) : Nat) : Int), undef, undef, undef, .iface 51 (.pointer (some ⟨s.rb, 0, none⟩)), .agg #[.int .i64 (s.n : Int), .int .i64 (s.bl : Int), .int .i64 (s.pg : Int), .int .i64 (s.sz : Int)], .agg #[.int .i64 (s.n : Int), .int .i64 (s.bl : Int), .int .i64 (s.pg : Int), .int .i64 (s.sz : Int)], .int .i64 0, .int .i64 0, .bool false, undef, .agg #[.int .i64 (s.n : Int), .int .i64 (s.bl : Int), .int .i64 (s.pg : Int), .int .i64 (s.sz : Int)], .int .i64 (seg : Int), .func (.func 78) #[] #[.pointer (some ⟨bm, 0, none⟩), .pointer (some ⟨bg, 0, none⟩), .pointer (some ⟨bs, 0, none⟩)], .int .i64 ((min x (s.pg - 1) : Nat) : Int), .int .i64 (ParOf (s.n : Int) (s.pg : Int) (seg : Int) ((min x (s.pg - 1) : Nat) : Int)), undef, undef, undef, undef, undef, undef, undef, undef, undef, undef, undef, undef, undef, undef, undef, undef, undef], defers := [] }) ?assign ?body ?done ?stop
  case assign =>
    intro l x W K hK
    obtain ⟨xx, hxx⟩ : ∃ y, y = min x (s.pg - 1) := ⟨_, rfl⟩
    unfold rwEnc
    rw [← hxx]
    dsimp only at hK
    rw [← hxx] at hK
    clear hxx
    gi_wp2
    exact hK
  case body =>
    rintro l pre x W ⟨⟨v, L, hI⟩, hlt⟩ hlen
    obtain ⟨xx, hxx⟩ : ∃ y, y = min x (s.pg - 1) := ⟨_, rfl⟩
    have hxp : xx < s.pg := by have := HZ.out.1; omega
    dsimp only
    rw [← hxx]
    have hB4 : Below A w w4 := HB4.out.1
    have hlA : A ≤ lb := by have h1 := HX4.out.lt; have h2 := HL5.out.2.2; omega
    have hbW : Below w.heap.size w W := by have h1 := hB4.trans (hI.bel.mono hlA); rw [HA.out] at h1; exact h1
    have hX : Rw4 A (.iface 51 (.pointer (some ⟨s.rb, 0, none⟩))) (seg : Int) W := HX4.out.at_ fun k h1 h2 => hI.bel.block k (by have h3 := HX4.out.lt; have h4 := HL5.out.2.2; omega)
    obtain ⟨c0, c1, _, _, _, _⟩ := hX.c
    have hv := hI.box.cell
    have hvf := hI.box.frozen
    have hvl := hI.box.lt
    obtain ⟨va, vc, rfl, _⟩ := cellsSP_own hI.own
    have HI := Lib.hid (And.intro hI (And.intro hlt (And.intro hxx hlen)))
    have hrl := hI.rl.len
    rw [List.length_map] at hrl
    have HRL := Lib.hid hrl
    clear hrl
    have HBD : Hid (pre.length * (s.n - 1) ≤ 480 ∧ s.n ≤ 16) := Lib.hid ⟨by
      have h1 := HZ.out.1.2
      have h2 := HZ.out.2.2.1
      have := Nat.mul_le_mul (show pre.length ≤ 32 by omega) (show s.n - 1 ≤ 15 by omega)
      omega, HZ.out.2.2.1.2⟩
    by_cases hc : Wh xx
    · have HC1 := Lib.hid (HRW1.out W xx hbW hxp hc)
      have HXR := Lib.hid hc
      clear hI hlt hxx hlen hbW hX hc hst k1 k2 k3 hlb6 hB4 hlA hxp
      obtain ⟨i0, hi0, hz0, hz1, hz2⟩ := info_parts info_sp
      gi_wp2_with (first | (gi_at_builtin; refine wpListIn_append_own_at _ rfl _ _ 84 rfl lb 95 i0 _ 8 48 Tryz.underlying84 hi0 hz0 hz1 hz2 rfl (by decide) _ _ _ rfl (HI.out.1.step HLB.out.1 HGT.out.2.2).own ⟨rk, 0, none⟩ Lr.length rc (Lr.flatMap SP.cl) rfl (flatSP_len Lr) (cellsSP_flat HGT.out.2.1) (fun u hu => by obtain ⟨p, _, hp⟩ := List.mem_flatMap.1 hu; exact sp_one p u hp) (by have h1 := HRL.out; have h2 := HLR.out; have h3 := HBD.out; unfold maxLen; omega) (by have h1 := HRL.out; have h2 := HLR.out; have h3 := HBD.out; omega) (Nat.le_trans HLB.out.1 (HI.out.1.step HLB.out.1 HGT.out.2.2).bel.size) ?_) | (refine ⟨trivial, ?_⟩; gi_at_call 62; refine (CallsIn.inRound l (callsIn_wide.2 HC1.out)).mono ?_; rintro e y3 ⟨sv, Lr, rfl, hGt, hb3⟩; obtain ⟨rk, rc, rfl, hrc⟩ := own_addr hGt.1 (by have h1 := hGt.2.1; have h2 := HZ.out.2.2.1; omega); have HGT := Lib.hid (And.intro hGt (And.intro hrc hb3)); have HLR := Lib.hid hGt.2.1; have hv3 := (HI.out.1.step HLB.out.1 hb3).box.cell; have hvl3 := (HI.out.1.step HLB.out.1 hb3).box.lt; have hvf3 := (HI.out.1.step HLB.out.1 hb3).box.frozen; clear hGt hrc hb3 hv hvl hvf c0 c1))
      intro v' w4' ho4 hg4 _ hw4
      rw [HLR.out] at ho4
      obtain ⟨hnew, hbn⟩ := HI.out.1.more (k := xx) HLB.out.1 (by have := HZ.out.2.2.2; omega) HLB.out.2.2 HGT.out.2.2 HGT.out.1 ho4 hg4 hw4
      have hbx4 : Go.Boxed w4' lb 84 (.slice va L.length vc) := (hg4.block lb hvl3 (not_own (HI.out.1.step HLB.out.1 HGT.out.2.2).box (by decide) (HI.out.1.step HLB.out.1 HGT.out.2.2).own)).trans (HI.out.1.step HLB.out.1 HGT.out.2.2).box
      obtain ⟨g', cap', rfl⟩ : ∃ g' cap', v' = .slice g' (L.length + (s.n - 1)) cap' := by
        obtain ⟨a', c', e⟩ := ownsI_shape ho4
        exact ⟨a', c', e⟩
      have hc4 := hbx4.cell
      have hf4 := hbx4.frozen
      have HNEW := Lib.hid (And.intro hnew (And.intro hbn hg4))
      clear hnew hbn hbx4 ho4 hg4 hw4 hv3 hvl3 hvf3
      gi_wp2
      obtain ⟨hnew, hbn, hg4⟩ := HNEW.out
      have hI := HI.out.1
      have hI3 := hI.step HLB.out.1 HGT.out.2.2
      refine ⟨⟨hbn.size, fun j o hj ho hc => ?_⟩, ⟨hbn.size, hnew.mem.1.trans hI.mem.1.symm, hnew.mem.2.1.trans hI.mem.2.1.symm, hnew.mem.2.2.trans hI.mem.2.2.symm⟩, ⟨_, _, by rw [List.map_append, List.map_singleton, ← HI.out.2.2.1]; exact hnew⟩, fun z hz => ?_⟩
      · have h1 : y3.heap[j]? = some o := (HGT.out.2.2.block j (Array.getElem?_eq_some_iff.1 ho).1).trans ho
        have h2 : w4'.heap[j]? = some o := (hg4.block j (Array.getElem?_eq_some_iff.1 h1).1 (fun e => by
          rcases hI3.own.2 with ⟨q, _⟩ | ⟨g, cap, cur, q, _, hgb, _⟩
          · rw [q] at e; simp [Value.ownBlock] at e
          · rw [q] at e
            simp [Value.ownBlock] at e
            rw [e, hgb] at h1
            cases h1
            cases hc)).trans h1
        refine (heap_setCell_other w4' ⟨lb, 0, none⟩ j _ (fun e => ?_)).trans h2
        have e' : j = lb := e
        rw [e', hI.box] at ho
        cases ho
        cases hc
      · rcases List.mem_append.1 hz with hz | hz
        · exact HI.out.2.1 z hz
        · rw [List.mem_singleton.1 hz, ← HI.out.2.2.1]; exact HXR.out
    · obtain ⟨kd, hkd, hC2⟩ := HRW2.out W xx hbW hxp hc
      have HC2 := Lib.hid hC2
      clear hC2
      have HXR := Lib.hid hc
      clear hI hlt hxx hlen hbW hX hc hst k1 k2 k3 hlb6 hB4 hlA hxp
      gi_wp2_with (refine ⟨trivial, ?_⟩; gi_at_call 62; refine (CallsIn.inRound l (callsIn_wide.2 HC2.out)).mono ?_; rintro e y3 ⟨rfl, hb3⟩; have HB3 := Lib.hid hb3; clear hb3 hv hvl hvf c0 c1)
      have hI := HI.out.1
      refine ⟨⟨HB3.out.size, fun j o hj ho hc => (HB3.out.block j (Array.getElem?_eq_some_iff.1 ho).1).trans ho⟩, rfl, pre, x, rfl, by rw [← HI.out.2.2.1]; exact HXR.out, ⟨_, _, hI.step HLB.out.1 HB3.out⟩, HI.out.2.1⟩
  case done =>
    rintro D ys W hD rfl ⟨⟨v, L, hI⟩, hlt⟩ hK
    obtain rfl : R = s.pg := by
      have h1 := hlt (s.pg - 1) (by simp only [upto, List.mem_map, List.mem_range]; exact ⟨s.pg - 1, by have := HZ.out.1; omega, rfl⟩)
      have h2 := HN.out.2.1
      have := HZ.out.1
      rcases Nat.lt_or_ge R s.pg with c | c
      · have h3 := hlt R (by simp only [upto, List.mem_map, List.mem_range]; exact ⟨R, c, rfl⟩)
        rw [show min R (s.pg - 1) = R by omega] at h3
        exact absurd h3 (HN.out.2.2.2.2 c)
      · omega
    clear hlt
    have hX : Rw4 A (.iface 51 (.pointer (some ⟨s.rb, 0, none⟩))) (seg : Int) W := HX4.out.at_ fun k h1 h2 => hI.bel.block k (by have h3 := HX4.out.lt; have h4 := HL5.out.2.2; omega)
    have hRn : s.pg ≤ s.pg := Nat.le_refl _
    obtain ⟨f1, f2⟩ := rows_fin hI hRn (by have := HZ.out.2.2.1; omega)
    obtain ⟨o1, o2, o3⟩ := rows_out hI hX HA.out (by have h3 := HX4.out.lt; have h4 := HL5.out.2.2; omega) HB4.out.1 HLB.out.1 HLB.out.2.1 hD hK rfl rfl (.deferred none)
    have HF := Lib.hid (And.intro f1 (And.intro f2 (And.intro o1 (And.intro o2 (And.intro o3 hI.rl.part)))))
    obtain ⟨_, _, c2, c3, f2', f3'⟩ := hX.c
    have hv := hI.box.cell
    have hb2 : A + 2 < W.heap.size := by have := hX.lt; omega
    have hb3 : A + 3 < W.heap.size := hX.lt
    have hK2 : ((W.setCell ⟨A + 2, 0, none⟩ v).setCell ⟨A + 3, 0, none⟩ (.int .i64 0)).heap[D]? = some (.deferred (some [])) := ((KeepsOthers.setCell W ⟨A + 2, 0, none⟩ v).trans (KeepsOthers.setCell _ ⟨A + 3, 0, none⟩ (.int .i64 0))).same D _ hK rfl
    have hr2 : ((W.setCell ⟨A + 2, 0, none⟩ v).setCell ⟨A + 3, 0, none⟩ (.int .i64 0)).cell? ⟨A + 2, 0, none⟩ = some v := cell_other (World.cell?_setCell_same' _ _ _ (by rw [c2]; rfl)) (by omega)
    have hr3 : ((W.setCell ⟨A + 2, 0, none⟩ v).setCell ⟨A + 3, 0, none⟩ (.int .i64 0)).cell? ⟨A + 3, 0, none⟩ = some (.int .i64 0) := World.cell?_setCell_same' _ _ _ (by rw [cell_other c3 (by omega)]; rfl)
    obtain ⟨va, vc, rfl, _⟩ := cellsSP_own hI.own
    have HRR := Lib.hid (And.intro hr2 (And.intro hr3 hK2))
    clear hst k1 k2 k3 hlb6 hI hX hRn f1 f2 o1 o2 o3 hK hD hK2 hr2 hr3
    gi_wp2
    refine (wpIn_wide (n := 3)).1 ?_
    gi_wp2
    rw [show A + 1 + 1 + 1 = A + 3 from rfl, show A + 1 + 1 = A + 2 from rfl]
    obtain ⟨hr2, hr3, hK2⟩ := HRR.out
    obtain ⟨f1, f2, o1, o2, o3, rp⟩ := HF.out
    refine ⟨by simp, .inl ⟨_, _, rfl, run_takeDeferred hK2, ?_⟩⟩
    have r2 := cell_kept hr2 (grownBy_putObj' _ D (.deferred none)) (fun r e => by cases e; exact ⟨_, hK2, rfl⟩)
    have r3 := cell_kept hr3 (grownBy_putObj' _ D (.deferred none)) (fun r e => by cases e; exact ⟨_, hK2, rfl⟩)
    refine ⟨.tuple #[.slice va L.length vc, .int .i64 0], ?_, _, L, rfl, o1, f1, o2, fun i hi => ⟨(f2 i hi).1, (f2 i hi).2, (rp _ (sp_mem L i hi)).2.1, o3 _ (sp_mem L i hi)⟩⟩
    simp [results, Tryz.results42, go_sem, r2, r3]
  case stop =>
    rintro D c pre W hD ⟨k, hk, rfl⟩ ⟨rfl, ini, last, e1, e2, ⟨v, L, hI⟩, hlt⟩ hK
    obtain ⟨k', rfl⟩ : ∃ k', k = k' + 1 := by
      cases k with
      | zero => simp [upto] at e1
      | succ k' => exact ⟨k', rfl⟩
    rw [upto_succ] at e1
    obtain ⟨rfl, e5⟩ := List.append_inj' e1 rfl
    obtain rfl : k' = last := by simpa using e5
    obtain rfl : R = k' := by
      have hkp : k' < s.pg := by omega
      rw [show min k' (s.pg - 1) = k' by omega] at e2
      rcases Nat.lt_trichotomy R k' with c | c | c
      · have h3 := hlt R (by simp only [upto, List.mem_map, List.mem_range]; exact ⟨R, c, rfl⟩)
        rw [show min R (s.pg - 1) = R by omega] at h3
        exact absurd h3 (HN.out.2.2.2.2 (by omega))
      · exact c
      · exact absurd (HN.out.2.2.2.1 k' c) e2
    clear hlt e1 e2 e5
    have hX : Rw4 A (.iface 51 (.pointer (some ⟨s.rb, 0, none⟩))) (seg : Int) W := HX4.out.at_ fun k h1 h2 => hI.bel.block k (by have h3 := HX4.out.lt; have h4 := HL5.out.2.2; omega)
    have hRn : R ≤ s.pg := HN.out.2.1
    obtain ⟨f1, f2⟩ := rows_fin hI hRn (by have := HZ.out.2.2.1; omega)
    obtain ⟨o1, o2, o3⟩ := rows_out hI hX HA.out (by have h3 := HX4.out.lt; have h4 := HL5.out.2.2; omega) HB4.out.1 HLB.out.1 HLB.out.2.1 hD hK rfl rfl (.deferred none)
    have HF := Lib.hid (And.intro f1 (And.intro f2 (And.intro o1 (And.intro o2 (And.intro o3 hI.rl.part)))))
    obtain ⟨_, _, c2, c3, f2', f3'⟩ := hX.c
    have hv := hI.box.cell
    have hb2 : A + 2 < W.heap.size := by have := hX.lt; omega
    have hb3 : A + 3 < W.heap.size := hX.lt
    have hK2 : ((W.setCell ⟨A + 2, 0, none⟩ v).setCell ⟨A + 3, 0, none⟩ (.int .i64 0)).heap[D]? = some (.deferred (some [])) := ((KeepsOthers.setCell W ⟨A + 2, 0, none⟩ v).trans (KeepsOthers.setCell _ ⟨A + 3, 0, none⟩ (.int .i64 0))).same D _ hK rfl
    have hr2 : ((W.setCell ⟨A + 2, 0, none⟩ v).setCell ⟨A + 3, 0, none⟩ (.int .i64 0)).cell? ⟨A + 2, 0, none⟩ = some v := cell_other (World.cell?_setCell_same' _ _ _ (by rw [c2]; rfl)) (by omega)
    have hr3 : ((W.setCell ⟨A + 2, 0, none⟩ v).setCell ⟨A + 3, 0, none⟩ (.int .i64 0)).cell? ⟨A + 3, 0, none⟩ = some (.int .i64 0) := World.cell?_setCell_same' _ _ _ (by rw [cell_other c3 (by omega)]; rfl)
    obtain ⟨va, vc, rfl, _⟩ := cellsSP_own hI.own
    have HRR := Lib.hid (And.intro hr2 (And.intro hr3 hK2))
    clear hst k1 k2 k3 hlb6 hI hX hRn f1 f2 o1 o2 o3 hK hD hK2 hr2 hr3
    gi_wp2
    refine (wpIn_wide (n := 3)).1 ?_
    gi_wp2
    rw [show A + 1 + 1 + 1 = A + 3 from rfl, show A + 1 + 1 = A + 2 from rfl]
    obtain ⟨hr2, hr3, hK2⟩ := HRR.out
    obtain ⟨f1, f2, o1, o2, o3, rp⟩ := HF.out
    refine ⟨by simp, .inl ⟨_, _, rfl, run_takeDeferred hK2, ?_⟩⟩
    have r2 := cell_kept hr2 (grownBy_putObj' _ D (.deferred none)) (fun r e => by cases e; exact ⟨_, hK2, rfl⟩)
    have r3 := cell_kept hr3 (grownBy_putObj' _ D (.deferred none)) (fun r e => by cases e; exact ⟨_, hK2, rfl⟩)
    refine ⟨.tuple #[.slice va L.length vc, .int .i64 0], ?_, _, L, rfl, o1, f1, o2, fun i hi => ⟨(f2 i hi).1, (f2 i hi).2, (rp _ (sp_mem L i hi)).2.1, o3 _ (sp_mem L i hi)⟩⟩
    simp [results, Tryz.results42, go_sem, r2, r3]
end
end Go.Proofs.YthgcjiocelcblaaGreat

namespace Go.Proofs.YthgcjiocelcblaaGreat
open Go.RowKit Go.Deep

set_option maxRecDepth 100000 in
theorem ptParts_few (b off n c many : Nat) (L : List SP) (w : World) (hn : n = L.length) (hcl : CellsSP w (some ⟨b, off, none⟩) L) (h0 : 0 < n) (hm : n < many) (h1 : (L.getD 0 SP.nil).h.ct = many) (hm2 : many < 65536) :
    Calls Tryz.prog 63 #[.slice (some ⟨b, off, none⟩) n c] w fun e w' => e = .returned (.slice none 0 0) ∧ w' = w := by
  obtain ⟨b', off', e, hp⟩ := hcl (by omega)
  obtain ⟨rfl, rfl⟩ : b = b' ∧ off = off' := by simpa using e
  have h4 := (hp 0 (by omega)).2.2.2.2.1
  rw [h1, Nat.zero_mul, Nat.add_zero] at h4
  have q0 : ((n : Int) == 0) = false := by simp; omega
  have q1 : decide ((n : Int) < (many : Int)) = true := by simp; omega
  have q2 : (0 : Int) < (n : Int) := by omega
  have q3 : (n = 0) = False := eq_false (by omega)
  have q4 : IntKind.i64.wrap (many : Int) = (many : Int) := wrap_of (by omega) (by omega)
  clear hp e hn h1 hcl
  go_enter Tryz.func63, Tryz.ntmps63
  go_wp2
  go_ret
  exact ⟨rfl, rfl⟩
set_option maxRecDepth 100000 in
set_option maxHeartbeats 4000000 in
theorem ptJoin_few (b off n c many most : Nat) (L : List SP) (w : World) (hn : n = L.length) (hcl : CellsSP w (some ⟨b, off, none⟩) L) (h0 : 0 < n) (hm : n < many) (h1 : (L.getD 0 SP.nil).h.ct = many) (hm2 : many < 65536) :
    Calls Tryz.prog 43 #[.slice (some ⟨b, off, none⟩) n c, .int .u32 (most : Int)] w fun e w' => Below w.heap.size w w' ∧ e = .returned (.tuple #[.agg #[.int .u32 0, .int .u32 0, .slice none 0 0, .slice none 0 0], .bool false]) := by
  obtain ⟨W1, hW1⟩ : ∃ x, x = w.alloc (.cells #[.int .u32 0, .int .u32 0, .slice none 0 0, .slice none 0 0] 25) := ⟨_, rfl⟩
  obtain ⟨p0, hp0⟩ : ∃ x, x = w.heap.size := ⟨_, rfl⟩
  have s1 : W1.heap.size = p0 + 1 := by rw [hW1, hp0]; simp
  have hz0 : W1.heap[p0]? = some (.cells (pCs 0 0 (.slice none 0 0) (.slice none 0 0)) 25 (0, 0)) := by rw [hW1, hp0]; exact heap_alloc_new _ _
  have b01 : Below w.heap.size w W1 := by rw [hW1]; exact bel_alloc (Below.refl _ _) _
  have HP := Lib.hid (ptParts_few b off n c many L W1 hn (hcl.step b01) h0 hm h1 hm2)
  have HD := Lib.hid (ptDecode_dies none 0 0 [] W1 ⟨rfl, (fun x hx => by cases hx), fun h => absurd h (by omega)⟩ (fun _ => rfl) (by omega) (fun h => absurd h.1 (by simp)))
  have H0 := Lib.hid (And.intro hz0 (And.intro s1 (And.intro b01 hp0)))
  clear hz0 s1 b01 hn hcl h0 hm h1 hm2
  go_enter Tryz.func43, Tryz.ntmps43
  go_wp2_with fail
  rw [← hW1, ← hp0]
  clear hW1 hp0
  ((with_reducible refine HP.out.mono ?_))
  rintro e w2 ⟨rfl, rfl⟩
  go_wp2_with fail
  go_loopw [6, 15] (fun bv iv wr => bv = .slice none 0 0 ∧ iv = .int .i64 0 ∧ wr = w2) (fun _ _ _ => 0)
  case atStart => exact ⟨rfl, rfl, rfl⟩
  case round =>
    obtain ⟨rfl, rfl, rfl⟩ := hrel
    go_wp2_with fail
    ((with_reducible refine HD.out.mono ?_))
    rintro e w3 ⟨rfl, hb3⟩
    have HB3 := Lib.hid (H0.out.2.2.1.trans (hb3.mono (by have := H0.out.2.1; have := H0.out.2.2.2; omega)))
    have HZ := Lib.hid ((hb3.block p0 (by have := H0.out.2.1; omega)).trans H0.out.1)
    have hzl : p0 < w3.heap.size := (Array.getElem?_eq_some_iff.1 HZ.out).1
    obtain ⟨W4, hW4⟩ : ∃ x, x = w3.alloc (.cells #[.int .u32 0, .int .u32 0, .slice none 0 0, .slice none 0 0] 25) := ⟨_, rfl⟩
    have hb4 : Below w3.heap.size w3 W4 := by rw [hW4]; exact bel_alloc (Below.refl _ _) _
    obtain ⟨⟨z0, z1, z2, z3⟩, f0, f1, f2, f3⟩ := pt4_at ((hb4.block p0 hzl).trans HZ.out)
    have HB4 := Lib.hid (HB3.out.trans (hb4.mono HB3.out.size))
    have HLE : Hid (w.heap.size ≤ p0) := Lib.hid (Nat.le_of_eq H0.out.2.2.2.symm)
    clear hb3 hb4 hzl
    unfold ptNone
    go_upto_region 11 with fail
    rw [← hW4]
    clear hW4
    go_wp2_with fail
    exact bodyPost_ret (v := .tuple #[.agg #[.int .u32 0, .int .u32 0, .slice none 0 0, .slice none 0 0], .bool false]) (by simp [results, Tryz.results43, go_sem, z0, z1, z2, z3]) rfl ⟨pt4_set HB4.out HLE.out _ _ _ _, rfl⟩
/-- What point.rows gave, and what is made of it. -/
structure RdG (w : World) (f : Bool) (sq ba : Nat) (ml el : List Nat) (top tp : Nat) (sv : Value) (L : List SP) (x : World) : Prop where
  own : OwnSP w.heap.size x sv L
  bel : Below w.heap.size w x
  len : L.length ≤ 480
  ep : ∀ i, i < L.length → (L.getD i SP.nil).h.ep = tp
  top_ : top = if L.length = 0 then 0 else tp
  join : ∀ (a : Option Addr) (c : Nat), sv = .slice a L.length c → ∀ y : World, Below x.heap.size x y → Calls Tryz.prog 43 #[.slice a L.length c, .int .u32 (top : Int)] y fun e w' => Below y.heap.size y w' ∧ ∃ v1 v2, e = .returned (.tuple #[.agg #[.int .u32 (sq : Int), .int .u32 (ba : Int), v1, v2], .bool f]) ∧ OwnU y.heap.size w' v1 ml ∧ OwnU y.heap.size w' v2 el
set_option maxRecDepth 100000 in
set_option maxHeartbeats 4000000 in
theorem ptReadG_any (rb which : Nat) (hw : which < 2) {f : Bool} {sq ba top tp : Nat} {ml el : List Nat} {w : World}
    (hRows : ∀ W1 : World, Below w.heap.size w W1 → Calls Tryz.prog 42 #[.iface 51 (.pointer (some ⟨rb, 0, none⟩)), .int .i64 (2 + (which : Int))] W1 fun e x => ∃ sv L, e = .returned (.tuple #[sv, .int .i64 0]) ∧ RdG W1 f sq ba ml el top tp sv L x) :
    Calls Tryz.prog 23 #[.iface 51 (.pointer (some ⟨rb, 0, none⟩)), .int .i64 (which : Int)] w (RdIs f sq ba ml el top w) := by
  obtain ⟨W1, hW1⟩ : ∃ x, x = w.alloc (.cells #[.int .u32 0, .int .u32 0, .slice none 0 0, .slice none 0 0] 25) := ⟨_, rfl⟩
  obtain ⟨p0, hp0⟩ : ∃ x, x = w.heap.size := ⟨_, rfl⟩
  have s1 : W1.heap.size = p0 + 1 := by rw [hW1, hp0]; simp
  have h0 : W1.heap[p0]? = some (.cells (pCs 0 0 (.slice none 0 0) (.slice none 0 0)) 25 (0, 0)) := by rw [hW1, hp0]; exact heap_alloc_new _ _
  have b01 : Below w.heap.size w W1 := by rw [hW1]; exact bel_alloc (Below.refl _ _) _
  have HRW := Lib.hid (hRows W1 b01)
  have H0 := Lib.hid (And.intro h0 (And.intro s1 (And.intro b01 hp0)))
  have mw : IntKind.i64.wrap (2 + (which : Int)) = 2 + (which : Int) := by rw [IntKind.wrap_i64]; omega
  have hq : ((which : Int) != 0) = false ∨ ((which : Int) != 0) = true ∧ ((which : Int) != 1) = false := by
    rcases (show which = 0 ∨ which = 1 by omega) with rfl | rfl
    · exact .inl rfl
    · exact .inr ⟨rfl, rfl⟩
  clear hRows h0 s1 b01 hw
  rcases hq with q0 | ⟨q0, q1⟩
  all_goals
    go_enter Tryz.func23, Tryz.ntmps23
    go_wp2_with fail
    rw [← hW1, ← hp0]
    clear hW1 hp0
    ((with_reducible refine HRW.out.mono ?_))
    rintro e x ⟨sv, L, rfl, hW⟩
    obtain ⟨a, c, rfl, hcl⟩ := cellsSP_own hW.own
    have hJ := hW.join a c rfl
    have hln := hW.len
    obtain ⟨n, hn⟩ : ∃ n, n = L.length := ⟨_, rfl⟩
    rw [← hn] at hln hJ
    rw [← hn]
    have HJ := Lib.hid hJ
    have HCL := Lib.hid hcl
    have hxb := hW.bel
    have HW := Lib.hid (And.intro hW.ep hn)
    have HB := Lib.hid (And.intro (H0.out.2.2.1.trans (hxb.mono (by rw [H0.out.2.1, H0.out.2.2.2]; omega))) (And.intro ((hxb.block p0 (by rw [H0.out.2.1]; omega)).trans H0.out.1) hxb.size))
    have hsq : top = if n = 0 then 0 else tp := by rw [hn]; exact hW.top_
    clear hW hJ hcl hxb hn
    go_wp2_with fail
    go_loopw [6, 34] (fun mv iv wr => ∃ k : Nat, k ≤ n ∧ iv = .int .i64 (k : Int) ∧ mv = .int .u32 ((if k = 0 then 0 else tp : Nat) : Int) ∧ Below x.heap.size x wr) (fun _ iv _ => n - (intOf iv).toNat)
    case atStart => exact ⟨0, Nat.zero_le _, rfl, rfl, Below.refl _ _⟩
    case round =>
      obtain ⟨k, hk, rfl, rfl, hb⟩ := hrel
      by_cases hlt : k < n
      · have t1 : decide (k < n) = true := by simpa using hlt
        obtain ⟨mv, hmv⟩ : ∃ y, y = (if k = 0 then 0 else tp) := ⟨_, rfl⟩
        have hmx : mv ≤ tp := by rw [hmv]; split <;> omega
        rw [← hmv]
        obtain ⟨b, off, ha, hat⟩ := (HCL.out.step hb) (by rw [← HW.out.2]; omega)
        obtain ⟨c0, c1, c2, c3, c4, c5, c6, c7⟩ := hat k (by rw [← HW.out.2]; exact hlt)
        rw [HW.out.1 k (by rw [← HW.out.2]; exact hlt)] at c1
        subst ha
        have i0 : (0 : Int) ≤ (k : Int) := by omega
        have i1 : (k : Int) < (n : Int) := by omega
        have HBK := Lib.hid hb
        have mm : max (mv : Int) (tp : Int) = (tp : Int) := by omega
        clear hb hat hmv
        go_wp2_with fail
        go_roundw
        case rel => exact ⟨k + 1, by omega, by go_num, by rw [if_neg (by omega)], HBK.out.alloc HBK.out.size _⟩
        case measure => simp [intOf]; omega
      · obtain rfl : k = n := by omega
        have t1 : decide (k < k) = false := by simp
        rw [← hsq]
        have HJW := Lib.hid (HJ.out wr hb)
        obtain ⟨g1, g2, g3⟩ := HB.out
        have hbw : Below w.heap.size w wr := g1.trans (hb.mono g1.size)
        have hpx : p0 < x.heap.size := (Array.getElem?_eq_some_iff.1 g2).1
        have HBW := Lib.hid (And.intro hbw (And.intro ((hb.block p0 hpx).trans g2) (show p0 < wr.heap.size from Nat.lt_of_lt_of_le hpx hb.size)))
        clear g1 g2 g3 hbw hpx hb hsq
        go_wp2_with fail
        ((with_reducible refine HJW.out.mono ?_))
        rintro e w3 ⟨hb3, v1, v2, rfl, ho1, ho2⟩
        obtain ⟨qa, qn, qc, rfl⟩ := ownU_sl ho1
        obtain ⟨ra, rn, rc, rfl⟩ := ownU_sl ho2
        have hz3 := (hb3.block p0 HBW.out.2.2).trans HBW.out.2.1
        obtain ⟨⟨z0, z1, z2, z3⟩, f0, f1, f2, f3⟩ := pt4_at hz3
        have HO := Lib.hid (And.intro hb3 (And.intro ho1 ho2))
        have HZ3 := Lib.hid hz3
        clear hb3 ho1 ho2 hz3
        go_upto_region 14 with fail
        obtain ⟨W5, hW5⟩ : ∃ y, y = (((w3.setCell ⟨p0, 0, none⟩ (.int .u32 (sq : Int))).setCell ⟨p0, 1, none⟩ (.int .u32 (ba : Int))).setCell ⟨p0, 2, none⟩ (.slice qa qn qc)).setCell ⟨p0, 3, none⟩ (.slice ra rn rc) := ⟨_, rfl⟩
        rw [← hW5]
        have h5 : W5.heap[p0]? = some (.cells (pCs sq ba (.slice qa qn qc) (.slice ra rn rc)) 25 (0, 0)) := by rw [hW5]; exact pt_put4 HZ3.out _ _ _ _
        have ho1 : OwnU wr.heap.size W5 (.slice qa qn qc) ml := by rw [hW5]; exact ownU_sets HO.out.2.1 HBW.out.2.2 _ _ _ _
        have ho2 : OwnU wr.heap.size W5 (.slice ra rn rc) el := by rw [hW5]; exact ownU_sets HO.out.2.2 HBW.out.2.2 _ _ _ _
        have hb5 : Below w.heap.size w W5 := by rw [hW5]; exact pt4_set (HBW.out.1.trans (HO.out.1.mono HBW.out.1.size)) (Nat.le_of_eq H0.out.2.2.2.symm) _ _ _ _
        clear hW5 z0 z1 z2 z3 f0 f1 f2 f3
        obtain ⟨⟨z0, z1, z2, z3⟩, f0, f1, f2, f3⟩ := pt4_at h5
        have HO5 := Lib.hid (And.intro ho1 (And.intro ho2 hb5))
        clear ho1 ho2 hb5 h5
        go_wp2_with fail
        obtain ⟨ho1, ho2, hb5⟩ := HO5.out
        exact bodyPost_ret (v := .tuple #[.agg #[.int .u32 (sq : Int), .int .u32 (ba : Int), .slice qa qn qc, .slice ra rn rc], .bool f, .int .u32 (top : Int), .int .i64 0]) (by simp [results, Tryz.results23, go_sem, z0, z1, z2, z3]) rfl ⟨pt4_set hb5 (Nat.le_of_eq H0.out.2.2.2.symm) _ _ _ _, _, _, rfl, ownU_base (ownU_sets ho1 HBW.out.2.2 _ _ _ _) HBW.out.1.size, ownU_base (ownU_sets ho2 HBW.out.2.2 _ _ _ _) HBW.out.1.size⟩
/-- Too few pages, or none: no point. -/
theorem RdG.few {w : World} {tp many : Nat} {sv : Value} {L : List SP} {x : World} (hown : OwnSP w.heap.size x sv L) (hb : Below w.heap.size w x) (hl : L.length ≤ 480) (hep : ∀ i, i < L.length → (L.getD i SP.nil).h.ep = tp) (hm : L.length < many) (hm2 : many < 65536) (hct : 0 < L.length → (L.getD 0 SP.nil).h.ct = many) :
    RdG w false 0 0 [] [] (if L.length = 0 then 0 else tp) tp sv L x := by
  refine ⟨hown, hb, hl, hep, rfl, fun a c he y hy => ?_⟩
  rcases Nat.eq_zero_or_pos L.length with c0 | c0
  · rw [c0]
    exact (ptJoin_none a c _ y).mono fun e w' hp => ⟨hp.1, _, _, hp.2, ownU_nil _ _, ownU_nil _ _⟩
  · obtain ⟨g, c', e2, hcl⟩ := own_addr hown c0
    rw [he] at e2
    simp only [Value.slice.injEq] at e2
    obtain ⟨rfl, -, rfl⟩ := e2
    exact (ptJoin_few g 0 L.length c many _ L y rfl (hcl.step hy) c0 hm (hct c0) hm2).mono fun e w' hp => ⟨hp.1, _, _, hp.2, ownU_nil _ _, ownU_nil _ _⟩
end Go.Proofs.YthgcjiocelcblaaGreat

namespace Go.Proofs.YthgcjiocelcblaaGreat
open Go.RowKit Go.Deep

def PtD.stepT (a x : PtD) : PtD := if (x.f && (!a.f || decide (a.q < x.q))) = true then ⟨x.f, x.q, x.b, x.m, x.e, max a.top x.top⟩ else ⟨a.f, a.q, a.b, a.m, a.e, max a.top x.top⟩
def PtD.foldT (x : Nat → PtD) : Nat → PtD
  | 0 => PtD.zero
  | k + 1 => (PtD.foldT x k).stepT (x k)
theorem LastI.keepT {p0 : Nat} {w : World} {a x : PtD} {v1 v2 : Value} {y : World} (h : LastI p0 w a v1 v2 y) (hk : (x.f && (!a.f || decide (a.q < x.q))) = false) :
    a.stepT x = ⟨a.f, a.q, a.b, a.m, a.e, max a.top x.top⟩ ∧ LastI p0 w (a.stepT x) v1 v2 y := by
  have e : a.stepT x = ⟨a.f, a.q, a.b, a.m, a.e, max a.top x.top⟩ := by unfold PtD.stepT; rw [if_neg (by rw [hk]; decide)]
  exact ⟨e, by rw [e]; exact ⟨h.box, h.own1, h.own2, h.bel⟩⟩
theorem LastI.takeT {p0 : Nat} {w : World} {a x : PtD} {v1 v2 u1 u2 : Value} {y : World} (h : LastI p0 w a v1 v2 y) (hp : w.heap.size ≤ p0) (ho1 : OwnU (p0 + 1) y u1 x.m) (ho2 : OwnU (p0 + 1) y u2 x.e) (hk : (x.f && (!a.f || decide (a.q < x.q))) = true) :
    a.stepT x = ⟨x.f, x.q, x.b, x.m, x.e, max a.top x.top⟩ ∧ LastI p0 w (a.stepT x) u1 u2 ((((y.setCell ⟨p0, 0, none⟩ (.int .u32 (x.q : Int))).setCell ⟨p0, 1, none⟩ (.int .u32 (x.b : Int))).setCell ⟨p0, 2, none⟩ u1).setCell ⟨p0, 3, none⟩ u2) := by
  have e : a.stepT x = ⟨x.f, x.q, x.b, x.m, x.e, max a.top x.top⟩ := by unfold PtD.stepT; rw [if_pos hk]
  exact ⟨e, by rw [e]; exact ⟨pt_put4 h.box _ _ _ _, ownU_sets ho1 (Nat.lt_succ_self _) _ _ _ _, ownU_sets ho2 (Nat.lt_succ_self _) _ _ _ _, pt4_set h.bel hp _ _ _ _⟩⟩
set_option maxRecDepth 100000 in
set_option maxHeartbeats 4000000 in
theorem ptLastG_any (rb : Nat) (X : Nat → PtD) (w : World) (hR : ∀ (k : Nat) (x : World), k < 2 → Below w.heap.size w x → Calls Tryz.prog 23 #[.iface 51 (.pointer (some ⟨rb, 0, none⟩)), .int .i64 (k : Int)] x (RdIs (X k).f (X k).q (X k).b (X k).m (X k).e (X k).top x)) :
    Calls Tryz.prog 22 #[.iface 51 (.pointer (some ⟨rb, 0, none⟩))] w (RdIs (PtD.foldT X 2).f (PtD.foldT X 2).q (PtD.foldT X 2).b (PtD.foldT X 2).m (PtD.foldT X 2).e (PtD.foldT X 2).top w) := by
  obtain ⟨W1, hW1⟩ : ∃ x, x = w.alloc (.cells #[.int .u32 0, .int .u32 0, .slice none 0 0, .slice none 0 0] 25) := ⟨_, rfl⟩
  obtain ⟨p0, hp0⟩ : ∃ x, x = w.heap.size := ⟨_, rfl⟩
  have s1 : W1.heap.size = p0 + 1 := by rw [hW1, hp0]; simp
  have hbx : W1.heap[p0]? = some (.cells (pCs 0 0 (.slice none 0 0) (.slice none 0 0)) 25 (0, 0)) := by rw [hW1, hp0]; exact heap_alloc_new _ _
  have b01 : Below w.heap.size w W1 := by rw [hW1]; exact bel_alloc (Below.refl _ _) _
  have HR := Lib.hid hR
  have HI0 : Hid (LastI p0 w PtD.zero (.slice none 0 0) (.slice none 0 0) W1) := Lib.hid ⟨hbx, ownU_nil _ _, ownU_nil _ _, b01⟩
  have HS := Lib.hid (And.intro s1 hp0)
  clear hR hbx b01
  go_enter Tryz.func22, Tryz.ntmps22
  go_wp2_with fail
  rw [← hW1, ← hp0]
  clear hW1 hp0 s1
  go_loopw [3, 4, 11] (fun ov mv iv wr => ∃ (k : Nat) (v1 v2 : Value), k ≤ 2 ∧ iv = .int .i64 (k : Int) ∧ ov = .bool (PtD.foldT X k).f ∧ mv = .int .u32 ((PtD.foldT X k).top : Int) ∧ LastI p0 w (PtD.foldT X k) v1 v2 wr) (fun _ _ iv _ => 2 - (intOf iv).toNat)
  case atStart => exact ⟨0, _, _, Nat.zero_le _, rfl, rfl, rfl, HI0.out⟩
  case round =>
    obtain ⟨k, v1, v2, hk, rfl, rfl, rfl, hI⟩ := hrel
    have HI := Lib.hid hI
    by_cases hlt : k < 2
    · have t1 : decide ((k : Int) < 2) = true := by simp; omega
      have HRK := Lib.hid (HR.out k wr hlt hI.bel)
      have HK := Lib.hid hlt
      obtain ⟨a, ha⟩ : ∃ a, a = PtD.foldT X k := ⟨_, rfl⟩
      have HF : Hid (PtD.foldT X (k + 1) = a.stepT (X k)) := Lib.hid (by rw [ha]; rfl)
      obtain ⟨x, hx⟩ : ∃ x, x = X k := ⟨_, rfl⟩
      rw [← ha] at HI ⊢
      rw [← hx] at HF HRK
      clear ha hx hI
      go_wp2_with fail
      ((with_reducible refine HRK.out.mono ?_))
      rintro e w3 ⟨hb3, u1, u2, rfl, ho1, ho2⟩
      obtain ⟨qa, qn, qc, rfl⟩ := ownU_sl ho1
      obtain ⟨ra, rn, rc, rfl⟩ := ownU_sl ho2
      have hI3 := HI.out.step hb3
      have hwz : p0 < wr.heap.size := (Array.getElem?_eq_some_iff.1 HI.out.box).1
      obtain ⟨W4, hW4⟩ : ∃ y, y = w3.alloc (.cells #[.int .u32 (x.q : Int), .int .u32 (x.b : Int), .slice qa qn qc, .slice ra rn rc] 25) := ⟨_, rfl⟩
      obtain ⟨ob, hob⟩ : ∃ y, y = w3.heap.size := ⟨_, rfl⟩
      have hb4 : Below w3.heap.size w3 W4 := by rw [hW4]; exact bel_alloc (Below.refl _ _) _
      have hq4 : W4.heap[ob]? = some (.cells (pCs x.q x.b (.slice qa qn qc) (.slice ra rn rc)) 25 (0, 0)) := by rw [hW4, hob]; exact heap_alloc_new _ _
      have hI4 := hI3.step hb4
      obtain ⟨⟨y0, y1, y2, y3⟩, -⟩ := pt4_at hq4
      obtain ⟨⟨z0, z1, z2, z3⟩, f0, f1, f2, f3⟩ := pt4_at hI4.box
      have HI4 := Lib.hid (And.intro hI4 (And.intro (ownU_base (ownU_at ho1 (y := W4) fun q _ hq => hb4.block q hq) (show p0 + 1 ≤ wr.heap.size from hwz)) (ownU_base (ownU_at ho2 (y := W4) fun q _ hq => hb4.block q hq) (show p0 + 1 ≤ wr.heap.size from hwz))))
      clear hb3 ho1 ho2 hI3 hwz hb4 hq4 hI4
      go_upto_region 5 with fail
      rw [← hW4, ← hob]
      clear hW4 hob
      have hcase : x.f = false ∨ x.f = true ∧ a.f = false ∨ x.f = true ∧ a.f = true ∧ decide (a.q < x.q) = true ∨ x.f = true ∧ a.f = true ∧ decide (a.q < x.q) = false := by
        cases x.f <;> cases a.f <;> cases decide (a.q < x.q) <;> simp
      rcases hcase with g1 | ⟨g1, g2⟩ | ⟨g1, g2, g3⟩ | ⟨g1, g2, g3⟩
      · have HK2 : Hid ((x.f && (!a.f || decide (a.q < x.q))) = false) := Lib.hid (by rw [g1]; rfl)
        go_wp2_with fail
        go_roundw
        case rel =>
          obtain ⟨e1, e2⟩ := HI4.out.1.keepT HK2.out
          rw [← HF.out] at e1 e2
          exact ⟨k + 1, _, _, by omega, by go_num, by rw [e1], by rw [e1]; exact u32_max _ _, e2⟩
        case measure => simp [intOf]; omega
      · have HK2 : Hid ((x.f && (!a.f || decide (a.q < x.q))) = true) := Lib.hid (by rw [g1, g2]; rfl)
        go_wp2_with fail
        go_roundw
        case rel =>
          obtain ⟨e1, e2⟩ := HI4.out.1.takeT (Nat.le_of_eq HS.out.2.symm) HI4.out.2.1 HI4.out.2.2 HK2.out
          rw [← HF.out] at e1 e2
          exact ⟨k + 1, _, _, by omega, by go_num, by rw [e1]; rw [g1], by rw [e1]; exact u32_max _ _, e2⟩
        case measure => simp [intOf]; omega
      · have HK2 : Hid ((x.f && (!a.f || decide (a.q < x.q))) = true) := Lib.hid (by rw [g1, g2, g3]; rfl)
        go_wp2_with fail
        go_roundw
        case rel =>
          obtain ⟨e1, e2⟩ := HI4.out.1.takeT (Nat.le_of_eq HS.out.2.symm) HI4.out.2.1 HI4.out.2.2 HK2.out
          rw [← HF.out] at e1 e2
          exact ⟨k + 1, _, _, by omega, by go_num, by rw [e1]; rw [g1], by rw [e1]; exact u32_max _ _, e2⟩
        case measure => simp [intOf]; omega
      · have HK2 : Hid ((x.f && (!a.f || decide (a.q < x.q))) = false) := Lib.hid (by rw [g1, g2, g3]; rfl)
        go_wp2_with fail
        go_roundw
        case rel =>
          obtain ⟨e1, e2⟩ := HI4.out.1.keepT HK2.out
          rw [← HF.out] at e1 e2
          exact ⟨k + 1, _, _, by omega, by go_num, by rw [e1]; rw [g2], by rw [e1]; exact u32_max _ _, e2⟩
        case measure => simp [intOf]; omega
    · obtain rfl : k = 2 := by omega
      have t1 : decide ((2 : Int) < 2) = false := by decide
      obtain ⟨a, ha⟩ : ∃ a, a = PtD.foldT X 2 := ⟨_, rfl⟩
      rw [← ha] at HI ⊢
      have HA := Lib.hid ha
      clear ha hI
      obtain ⟨qa, qn, qc, rfl⟩ := ownU_sl HI.out.own1
      obtain ⟨ra, rn, rc, rfl⟩ := ownU_sl HI.out.own2
      obtain ⟨⟨z0, z1, z2, z3⟩, f0, f1, f2, f3⟩ := pt4_at HI.out.box
      go_wp2_with fail
      have hI := HI.out
      have hle : w.heap.size ≤ p0 := Nat.le_of_eq HS.out.2.symm
      obtain rfl := HA.out
      exact bodyPost_ret (v := .tuple #[.agg #[.int .u32 ((PtD.foldT X 2).q : Int), .int .u32 ((PtD.foldT X 2).b : Int), .slice qa qn qc, .slice ra rn rc], .bool (PtD.foldT X 2).f, .int .u32 ((PtD.foldT X 2).top : Int), .int .i64 0]) (by simp [results, Tryz.results22, go_sem, z0, z1, z2, z3]) rfl ⟨pt4_set hI.bel hle _ _ _ _, _, _, rfl, ownU_base (ownU_sets hI.own1 (Nat.lt_succ_self _) _ _ _ _) (by omega), ownU_base (ownU_sets hI.own2 (Nat.lt_succ_self _) _ _ _ _) (by omega)⟩
end Go.Proofs.YthgcjiocelcblaaGreat

namespace Go.Proofs.YthgcjiocelcblaaGreat
open Go.RowKit Go.Deep

theorem first_not (ok : Nat → Prop) (p : Nat → Bool) (j : Nat) (hj : ok j) (hN : p j = false) : ∃ i, i ≤ j ∧ ok i ∧ (∀ m, m < i → ok m → p m = true) ∧ p i = false := by
  induction j using Nat.strongRecOn with
  | _ j ih =>
    by_cases h : ∀ m, m < j → ok m → p m = true
    · exact ⟨j, Nat.le_refl _, hj, h, hN⟩
    · have h' : ∃ m, m < j ∧ ok m ∧ p m = false := by
        refine Classical.byContradiction fun hc => h fun m hm ho => ?_
        cases hp : p m with
        | true => rfl
        | false => exact absurd ⟨m, hm, ho, hp⟩ hc
      obtain ⟨m, hm, ho, hp⟩ := h'
      obtain ⟨i, h1, h2⟩ := ih m hm ho hp
      exact ⟨i, by omega, h2⟩
set_option maxRecDepth 100000 in
set_option maxHeartbeats 1000000 in
theorem every_blank_at {V W : World} {lb ob : Nat} {s : RS} {seg row oc : Nat} {mi : Int} {F : Nat → FD} (h : LineI V lb ob s seg row oc mi s.n F W) (hn : s.n ≤ 1000) (hsz : s.sz ≤ 1000) (j : Nat) (hj : j < s.n) (hjm : (j : Int) ≠ mi) (hF : ∀ m, m < j → (m : Int) ≠ mi → (blankB (F m).d.l && blankB (F m).o.l) = true) (hN : (blankB (F j).d.l && blankB (F j).o.l) = false) :
    Calls Tryz.prog 98 #[.pointer (some ⟨lb, 0, none⟩), .func (.func 99) #[] #[]] W fun e w' => e = .returned (.bool false) ∧ Below W.heap.size W w' := by
  have HI := Lib.hid h
  have HF : Hid (∀ m, m ≤ j → (m : Int) ≠ mi → (blankB (F m).d.l && blankB (F m).o.l) = decide (m < j)) := Lib.hid fun m hm hne => by
    rcases Nat.lt_or_ge m j with c | c
    · rw [hF m c hne]; simp [c]
    · obtain rfl : m = j := by omega
      rw [hN]; simp
  have HJ := Lib.hid (And.intro hj hjm)
  have HSZ := Lib.hid hsz
  obtain ⟨c0, c1, c2, c3, c4, c5, c6, c7⟩ := eightL_at h.box
  clear h hF hN hjm hsz
  go_enter Tryz.func98, Tryz.ntmps98
  go_wp2_with fail
  clear c0 c1 c2 c3 c4 c5 c6 c7
  go_loopw [12] (fun iv wr => ∃ k : Nat, k ≤ j ∧ iv = .int .i64 (k : Int) ∧ Below W.heap.size W wr) (fun iv _ => (s.n - intOf iv).toNat)
  case atStart => exact ⟨0, Nat.zero_le _, rfl, Below.refl _ _⟩
  case round =>
    obtain ⟨k, hk, rfl, hb⟩ := hrel
    have HB := Lib.hid hb
    have hI := HI.out.step hb
    have hlt : k < s.n := by omega
    have q1 : decide (k < s.n) = true := by simpa using hlt
    obtain ⟨f, hf⟩ : ∃ f, f = F k := ⟨_, rfl⟩
    obtain ⟨z0, z1, z2, z3, z4, z5, z6, z7, z8, z9⟩ := fd_cells hI.on hlt f hf
    obtain ⟨c0, c1, c2, c3, c4, c5, c6, c7⟩ := eightL_at hI.box
    have hlw := (Array.getElem?_eq_some_iff.1 hI.box).1
    have i0 : (0 : Int) ≤ (k : Int) := by omega
    have i1 : (k : Int) < (s.n : Int) := by omega
    have HFB : Hid ((k : Int) ≠ mi → ∀ x : World, Below wr.heap.size wr x → Calls Tryz.prog 99 #[.agg #[.slice f.d.a f.d.n f.d.c, .slice f.o.a f.o.n f.o.c, .int .u8 (f.h.ki : Int), .int .u32 (f.h.ep : Int), .int .u32 (f.h.ba : Int), .int .u16 (f.h.ix : Int), .int .u16 (f.h.ct : Int), .int .u32 (f.h.bl : Int), .int .u32 (f.h.mo : Int), .bool f.b]] x fun e w' => e = .returned (.bool (decide (k < j))) ∧ Below x.heap.size x w') := Lib.hid fun hne x hx => by
      obtain ⟨_, _, _, _, p5, p6, p7, p8, _, _⟩ := hI.found k hlt hne
      have hb := blank1_any (F k) x (p7.keep hx (Nat.le_refl _)) (p8.keep hx (Nat.le_refl _)) (by rw [p5]; exact HSZ.out) (by rw [p6]; omega)
      rw [HF.out k hk hne] at hb
      rw [hf]
      exact hb
    clear hb hI hf c0 c1 c2 c3 c4 c5 c6
    by_cases hkm : (k : Int) = mi
    · have q2 : ((k : Int) != mi) = false := by simpa using hkm
      have HKJ : Hid (k ≠ j) := Lib.hid fun e => HJ.out.2 (by rw [← e]; exact hkm)
      clear hkm HFB
      go_wp2
      go_roundw
      case rel => exact ⟨k + 1, by have := HKJ.out; omega, by go_num, bel_alloc HB.out _⟩
      case measure => simp [intOf]; omega
    · have q2 : ((k : Int) != mi) = true := by simpa using hkm
      have HS1 := Lib.hid (HFB.out hkm)
      clear hkm HFB
      by_cases hkj : k < j
      · have e1 : decide (k < j) = true := by simpa using hkj
        rw [e1] at HS1
        have HKJ := Lib.hid hkj
        clear e1 hkj
        go_wp2_with fail
        ((with_reducible refine (HS1.out _ (bel_alloc (Below.refl _ wr) _)).mono ?_))
        rintro e w2 ⟨rfl, hb2⟩
        have HB2 := Lib.hid (bel_trans (bel_alloc HB.out _) hb2)
        clear hb2 z0 z1 z2 z3 z4 z5 z6 z7 z8 z9 c7
        go_wp2
        go_roundw
        case rel => exact ⟨k + 1, by have := HKJ.out; omega, by go_num, HB2.out⟩
        case measure => simp [intOf]; omega
      · have e1 : decide (k < j) = false := by simpa using hkj
        rw [e1] at HS1
        clear e1 hkj
        go_wp2_with fail
        ((with_reducible refine (HS1.out _ (bel_alloc (Below.refl _ wr) _)).mono ?_))
        rintro e w2 ⟨rfl, hb2⟩
        have HB2 := Lib.hid (bel_trans (bel_alloc HB.out _) hb2)
        clear hb2 z0 z1 z2 z3 z4 z5 z6 z7 z8 z9
        go_wp2_with fail
        go_ret
        exact ⟨rfl, HB2.out⟩
set_option maxRecDepth 100000 in
set_option maxHeartbeats 1000000 in
theorem every_sealed_at {V W : World} {lb ob : Nat} {s : RS} {seg row oc : Nat} {mi : Int} {F : Nat → FD} (h : LineI V lb ob s seg row oc mi s.n F W) (hn : s.n ≤ 1000) (j : Nat) (hj : j < s.n) (hjm : (j : Int) ≠ mi) (hF : ∀ m, m < j → (m : Int) ≠ mi → (F m).b = true) (hN : (F j).b = false) :
    Calls Tryz.prog 98 #[.pointer (some ⟨lb, 0, none⟩), .func (.func 101) #[] #[]] W fun e w' => e = .returned (.bool false) ∧ Below W.heap.size W w' := by
  have HI := Lib.hid h
  have HF : Hid (∀ m, m ≤ j → (m : Int) ≠ mi → (F m).b = decide (m < j)) := Lib.hid fun m hm hne => by
    rcases Nat.lt_or_ge m j with c | c
    · rw [hF m c hne]; simp [c]
    · obtain rfl : m = j := by omega
      rw [hN]; simp
  have HJ := Lib.hid (And.intro hj hjm)
  obtain ⟨c0, c1, c2, c3, c4, c5, c6, c7⟩ := eightL_at h.box
  clear h hF hN hjm
  go_enter Tryz.func98, Tryz.ntmps98
  go_wp2_with fail
  clear c0 c1 c2 c3 c4 c5 c6 c7
  go_loopw [12] (fun iv wr => ∃ k : Nat, k ≤ j ∧ iv = .int .i64 (k : Int) ∧ Below W.heap.size W wr) (fun iv _ => (s.n - intOf iv).toNat)
  case atStart => exact ⟨0, Nat.zero_le _, rfl, Below.refl _ _⟩
  case round =>
    obtain ⟨k, hk, rfl, hb⟩ := hrel
    have HB := Lib.hid hb
    have hI := HI.out.step hb
    have hlt : k < s.n := by omega
    have q1 : decide (k < s.n) = true := by simpa using hlt
    obtain ⟨f, hf⟩ : ∃ f, f = F k := ⟨_, rfl⟩
    obtain ⟨z0, z1, z2, z3, z4, z5, z6, z7, z8, z9⟩ := fd_cells hI.on hlt f hf
    obtain ⟨c0, c1, c2, c3, c4, c5, c6, c7⟩ := eightL_at hI.box
    have hlw := (Array.getElem?_eq_some_iff.1 hI.box).1
    have i0 : (0 : Int) ≤ (k : Int) := by omega
    have i1 : (k : Int) < (s.n : Int) := by omega
    have HFB : Hid ((k : Int) ≠ mi → ∀ x : World, Below wr.heap.size wr x → Calls Tryz.prog 101 #[.agg #[.slice f.d.a f.d.n f.d.c, .slice f.o.a f.o.n f.o.c, .int .u8 (f.h.ki : Int), .int .u32 (f.h.ep : Int), .int .u32 (f.h.ba : Int), .int .u16 (f.h.ix : Int), .int .u16 (f.h.ct : Int), .int .u32 (f.h.bl : Int), .int .u32 (f.h.mo : Int), .bool f.b]] x fun e w' => e = .returned (.bool (decide (k < j))) ∧ Below x.heap.size x w') := Lib.hid fun hne x hx => by
      have hb := sealed1_any f x
      have e : f.b = decide (k < j) := by rw [hf]; exact HF.out k hk hne
      rw [e] at hb ⊢
      exact hb
    clear hb hI hf c0 c1 c2 c3 c4 c5 c6
    by_cases hkm : (k : Int) = mi
    · have q2 : ((k : Int) != mi) = false := by simpa using hkm
      have HKJ : Hid (k ≠ j) := Lib.hid fun e => HJ.out.2 (by rw [← e]; exact hkm)
      clear hkm HFB
      go_wp2
      go_roundw
      case rel => exact ⟨k + 1, by have := HKJ.out; omega, by go_num, bel_alloc HB.out _⟩
      case measure => simp [intOf]; omega
    · have q2 : ((k : Int) != mi) = true := by simpa using hkm
      have HS1 := Lib.hid (HFB.out hkm)
      clear hkm HFB
      by_cases hkj : k < j
      · have e1 : decide (k < j) = true := by simpa using hkj
        rw [e1] at HS1
        have HKJ := Lib.hid hkj
        clear e1 hkj
        go_wp2_with fail
        ((with_reducible refine (HS1.out _ (bel_alloc (Below.refl _ wr) _)).mono ?_))
        rintro e w2 ⟨rfl, hb2⟩
        have HB2 := Lib.hid (bel_trans (bel_alloc HB.out _) hb2)
        clear hb2 z0 z1 z2 z3 z4 z5 z6 z7 z8 z9 c7
        go_wp2
        go_roundw
        case rel => exact ⟨k + 1, by have := HKJ.out; omega, by go_num, HB2.out⟩
        case measure => simp [intOf]; omega
      · have e1 : decide (k < j) = false := by simpa using hkj
        rw [e1] at HS1
        clear e1 hkj
        go_wp2_with fail
        ((with_reducible refine (HS1.out _ (bel_alloc (Below.refl _ wr) _)).mono ?_))
        rintro e w2 ⟨rfl, hb2⟩
        have HB2 := Lib.hid (bel_trans (bel_alloc HB.out _) hb2)
        clear hb2 z0 z1 z2 z3 z4 z5 z6 z7 z8 z9
        go_wp2_with fail
        go_ret
        exact ⟨rfl, HB2.out⟩
set_option maxRecDepth 100000 in
theorem lineBlank_no {V W : World} {lb ob : Nat} {s : RS} {seg row oc : Nat} {mi : Int} {F : Nat → FD} (h : LineI V lb ob s seg row oc mi s.n F W) (hn : s.n ≤ 1000) (hsz : s.sz ≤ 1000) (j : Nat) (hj : j < s.n) (hjm : (j : Int) ≠ mi) (hN : (blankB (F j).d.l && blankB (F j).o.l) = false) :
    Calls Tryz.prog 80 #[.pointer (some ⟨lb, 0, none⟩)] W fun e w' => e = .returned (.bool false) ∧ Below W.heap.size W w' := by
  obtain ⟨i, hi, him, hiF, hiN⟩ := first_not (fun m => (m : Int) ≠ mi) (fun m => (blankB (F m).d.l && blankB (F m).o.l)) j hjm hN
  have HE := Lib.hid (every_blank_at h hn hsz i (by omega) him hiF hiN)
  clear h hN hjm him hiF hiN
  go_enter Tryz.func80, Tryz.ntmps80
  go_wp2_with fail
  ((with_reducible refine HE.out.mono ?_))
  rintro e w1 ⟨rfl, hb⟩
  go_wp2
  go_ret
  exact ⟨rfl, hb⟩
set_option maxRecDepth 100000 in
theorem complete_not {V W : World} {lb ob : Nat} {s : RS} {seg row oc : Nat} {mi : Int} {F : Nat → FD} (h : LineI V lb ob s seg row oc mi s.n F W) (hn : s.n ≤ 1000) (j : Nat) (hj : j < s.n) (hjm : (j : Int) ≠ mi) (hN : (F j).b = false) :
    Calls Tryz.prog 81 #[.pointer (some ⟨lb, 0, none⟩)] W fun e w' => e = .returned (.bool false) ∧ Below W.heap.size W w' := by
  obtain ⟨i, hi, him, hiF, hiN⟩ := first_not (fun m => (m : Int) ≠ mi) (fun m => (F m).b) j hjm hN
  have HE := Lib.hid (every_sealed_at h hn i (by omega) him hiF hiN)
  clear h hN hjm him hiF hiN
  go_enter Tryz.func81, Tryz.ntmps81
  go_wp2_with fail
  ((with_reducible refine HE.out.mono ?_))
  rintro e w1 ⟨rfl, hb⟩
  go_wp2
  go_ret
  exact ⟨rfl, hb⟩
section
variable {B : Nat} {s : RS} {w : World}
set_option maxRecDepth 100000 in
set_option maxHeartbeats 2000000 in
/-- One page isn't sealed, another one isn't blank: torn. -/
theorem row_torn (h : Ram B s w) (hsz : s.sz ≤ 1000) (seg row : Nat) (hseg : seg + 5 < s.bl) (hrow : row < s.pg) (hlive : ∀ m, m < s.n → s.gone m = 0) (j k : Nat) (hj : j < s.n) (hk : k < s.n)
    (hB : ∀ V lb ob oc F x, LineI V lb ob s seg row oc (-1) s.n F x → (blankB (F j).d.l && blankB (F j).o.l) = false) (hN : ∀ V lb ob oc F x, LineI V lb ob s seg row oc (-1) s.n F x → (F k).b = false) :
    Calls Tryz.prog 62 #[.iface 51 (.pointer (some ⟨s.rb, 0, none⟩)), .int .i64 (seg : Int), .int .i64 (row : Int)] w fun e x => e = .returned (.tuple #[.slice none 0 0, .int .i64 1, .int .i64 0]) ∧ Below w.heap.size w x := by
  have hg := h.geo
  have hn3 : 3 ≤ s.n := by have := hg.1; omega
  have hn16 : s.n ≤ 16 := by have := hg.2.1; omega
  have HTK := Lib.hid (stTake_any h hsz seg row hseg hrow hlive)
  have HBL := Lib.hid fun (V x : World) (lb ob oc : Nat) (F : Nat → FD) (hI : LineI V lb ob s seg row oc (-1) s.n F x) => lineBlank_no hI (by omega) hsz j hj (by omega) (hB V lb ob oc F x hI)
  have HCP := Lib.hid fun (V x : World) (lb ob oc : Nat) (F : Nat → FD) (hI : LineI V lb ob s seg row oc (-1) s.n F x) => complete_not hI (by omega) k hk (by omega) (hN V lb ob oc F x hI)
  clear h hg hseg hrow hlive hsz hB hN
  go_enter Tryz.func62, Tryz.ntmps62
  go_wp2_with fail
  ((with_reducible refine HTK.out.mono ?_))
  rintro e w1 ⟨V, lb, ob, oc, F, rfl, hI, hb1, hlb⟩
  have HB1 := Lib.hid hb1
  have HI1 := Lib.hid hI
  clear hb1 hI hlb HTK
  go_wp2_with fail
  ((with_reducible refine (HBL.out V w1 lb ob oc F HI1.out).mono ?_))
  rintro e w2 ⟨rfl, hb2⟩
  have HI2 := Lib.hid (HI1.out.step hb2)
  have HB2 := Lib.hid (bel_trans HB1.out hb2)
  clear hb2 HI1 HB1 HBL
  go_wp2_with fail
  ((with_reducible refine (HCP.out V w2 lb ob oc F HI2.out).mono ?_))
  rintro e w3 ⟨rfl, hb3⟩
  have HB3 := Lib.hid (bel_trans HB2.out hb3)
  clear hb3 HI2 HB2 HCP
  go_wp2_with fail
  refine bodyPost_ret (v := .tuple #[.slice none 0 0, .int .i64 1, .int .i64 0]) ?_ rfl ⟨rfl, HB3.out⟩
  simp [results, Tryz.results62, go_sem]
end
end Go.Proofs.YthgcjiocelcblaaGreat
