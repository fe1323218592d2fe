/- Parts of the proof: PtSpoil, WithN, PtOpens. -/
import Derived.Test.YthgcjiocelcblaaGreatK43
import Derived.Test.YthgcjiocelcblaaGreatL00
import Derived.Test.YthgcjiocelcblaaGreatK25
import Derived.Test.YthgcjiocelcblaaGreatK23
import Derived.Deep.RegionHeld3
namespace Go.Proofs.YthgcjiocelcblaaGreat
open Go.RowKit Go.Deep

theorem GoodG.nat {s : RS} {B : Nat} {w : World} (h : Ram B s w) : 3 ≤ s.n ∧ s.n ≤ 16 ∧ s.bl ≤ 64 ∧ s.pg ≤ 32 := by
  have hg := h.geo
  have h1 := hg.1
  have h2 := hg.2.1
  have h3 := hg.2.2.2.1
  have h4 := hg.2.2.2.2.2.1
  omega
/-- A whole row's page on a member is there, and sealed. -/
theorem rowX_page {s : RS} {seg r : Nat} {D : Nat → RH × List Nat} (h : RowX s seg r D) (hn3 : 3 ≤ s.n) (hseg : seg ≤ 2000) (hrow : r ≤ 2000) (hlive : ∀ m, s.gone m = 0) {m : Nat} (hm : m < s.n) :
    OpenOk ((s.page (m, seg, r)).take s.sz) ((s.page (m, seg, r)).drop s.sz) ∧ ∃ q, s.F (m, seg, r) = some q := by
  obtain ⟨p, L, G, P, h1, h2, h3, h4, h5, h6, h7⟩ := h
  have ho := any_ok h3 h4 h5 h2 hn3 hseg hrow hm
  rw [← h7 m hm (hlive m)] at ho
  refine ⟨ho, ?_⟩
  cases hF : s.F (m, seg, r) with
  | some q => exact ⟨q, rfl⟩
  | none =>
    obtain ⟨e1, e2⟩ := page_none s (m, seg, r) hF
    have := open_marked ho
    rw [e2, blank_rep] at this
    cases this
theorem row_whole_x {B : Nat} {s : RS} {w : World} (h : Ram B s w) (hsz : s.sz ≤ 1000) (hs0 : 0 < s.sz) (seg r : Nat) (C : Nat → RH × List Nat) (hseg : seg + 5 < s.bl) (hrow : r < s.pg) (hlive : ∀ m, s.gone m = 0) (hX : RowX s seg r (fun q => C (r * (s.n - 1) + q))) :
    Calls Tryz.prog 62 #[.iface 51 (.pointer (some ⟨s.rb, 0, none⟩)), .int .i64 (seg : Int), .int .i64 (r : Int)] w fun e y => ∃ sv Lr, e = .returned (.tuple #[sv, .int .i64 2, .int .i64 0]) ∧ GotP s.sz (fun j => ((C (r * (s.n - 1) + j)).2, (C (r * (s.n - 1) + j)).1)) w.heap.size (s.n - 1) sv Lr y ∧ Below w.heap.size w y := by
  obtain ⟨p, Lk, Gk, Pk, r1, r2, r3, r4, r5, r6, r7⟩ := hX
  refine (row_whole h hsz hs0 seg r p hseg hrow r1 r2 r3 r4 r5 fun m hm => ⟨hlive m, r7 m hm (hlive m)⟩).mono ?_
  rintro e y ⟨sv, Lr, rfl, hG, hb⟩
  exact ⟨sv, Lr, rfl, hG.congr fun j hj => by rw [(r6 j (by omega)).1, (r6 j (by omega)).2], hb⟩
/-- A row in which one page is another one, and isn't sealed. -/
theorem row_spoilt {B : Nat} {s : RS} {w : World} (h : Ram B s w) (hsz : s.sz ≤ 1000) (seg r : Nat) (hseg : seg + 5 < s.bl) (hrow : r < s.pg) (hlive : ∀ m, s.gone m = 0) (D : Nat) (hD : D < s.n) (hok : ∀ m, m < s.n → m ≠ D → OpenOk ((s.page (m, seg, r)).take s.sz) ((s.page (m, seg, r)).drop s.sz)) (hbad : ¬ OpenOk ((s.page (D, seg, r)).take s.sz) ((s.page (D, seg, r)).drop s.sz)) :
    Calls Tryz.prog 62 #[.iface 51 (.pointer (some ⟨s.rb, 0, none⟩)), .int .i64 (seg : Int), .int .i64 (r : Int)] w fun e x => e = .returned (.tuple #[.slice none 0 0, .int .i64 1, .int .i64 0]) ∧ Below w.heap.size w x := by
  have hn3 := (GoodG.nat h).1
  obtain ⟨j, hj, hjD⟩ : ∃ j, j < s.n ∧ j ≠ D := by
    rcases Nat.eq_zero_or_pos D with c | c
    · exact ⟨1, by omega, by omega⟩
    · exact ⟨0, by omega, by omega⟩
  refine row_torn h hsz seg r hseg hrow (fun m _ => hlive m) j D hj hD (fun V lb ob oc F x hI => ?_) (fun V lb ob oc F x hI => ?_)
  · have h1 := hI.found j hj (by omega)
    rw [h1.2.2.2.1, open_marked (hok j hj hjD), Bool.and_false]
  · have h1 := hI.found D hD (by omega)
    rw [h1.2.1, h1.2.2.1, h1.2.2.2.1]
    exact decide_eq_false hbad
/-- Last, where one page of the second segment's point isn't sealed. -/
theorem mem2_spoilt {B n k : Nat} {s : RS} {X : Nat → PtD} {w : World} (h : Mem2 B s n k X w) (ba : Nat) (ml el : List Nat) (hX : X 1 = ⟨true, 5, ba, ml, el, 5⟩) (hmany : manyOf 256 (16 + 4 * ml.length + 4 * el.length) ≤ 4) (htop : (X 0).top = (X 0).q) (D r : Nat) (hD : D < n) (hr : r < rowsOf n (manyOf 256 (16 + 4 * ml.length + 4 * el.length)))
    (q : PS) (hbad : ¬ OpenOk (q.l.take 256) (q.l.drop 256)) (w' : World) (hr' : Ram B (s.put (D, 3, r) q) w') :
    ∃ t : Nat, (t = 0 ∨ t = 5) ∧ Calls Tryz.prog 22 #[.iface 51 (.pointer (some ⟨s.rb, 0, none⟩))] w' (RdIs (PtD.foldT (fun i => if i = 0 then X 0 else ⟨false, 0, 0, [], [], t⟩) 2).f (PtD.foldT (fun i => if i = 0 then X 0 else ⟨false, 0, 0, [], [], t⟩) 2).q (PtD.foldT (fun i => if i = 0 then X 0 else ⟨false, 0, 0, [], [], t⟩) 2).b (PtD.foldT (fun i => if i = 0 then X 0 else ⟨false, 0, 0, [], [], t⟩) 2).m (PtD.foldT (fun i => if i = 0 then X 0 else ⟨false, 0, 0, [], [], t⟩) 2).e (PtD.foldT (fun i => if i = 0 then X 0 else ⟨false, 0, 0, [], [], t⟩) 2).top w') := by
  have hn := h.hn
  have e1 : (s.put (D, 3, r) q).n = s.n := rfl
  have e2 : (s.put (D, 3, r) q).pg = s.pg := rfl
  have e3 : (s.put (D, 3, r) q).sz = s.sz := rfl
  have e4 : (s.put (D, 3, r) q).gone = s.gone := rfl
  have e5 : (s.put (D, 3, r) q).bl = s.bl := rfl
  have hFo : ∀ j, j ≠ (D, 3, r) → (s.put (D, 3, r) q).F j = s.F j := fun j hj => by show (if j = (D, 3, r) then some q else s.F j) = s.F j; rw [if_neg hj]
  have h0 : PtD.In (s.put (D, 3, r) q) 2 (X 0) := h.s0.cong e1 e2 e3 e4 fun m r' => hFo _ (by intro e; simp at e)
  have hlive : ∀ m, (s.put (D, 3, r) q).gone m = 0 := h.live
  have h3 := h.s1
  rw [hX] at h3
  obtain ⟨hp, hfit, hS⟩ : PtNums 5 ba ml el ∧ manyOf s.sz (16 + 4 * ml.length + 4 * el.length) ≤ s.pg * (s.n - 1) ∧ SegIs s 3 (rowsOf s.n (manyOf s.sz (16 + 4 * ml.length + 4 * el.length))) (ptC s.sz 5 (manyOf s.sz (16 + 4 * ml.length + 4 * el.length)) (ptX s.sz 5 ba ml el)) := by
    rcases h3 with ⟨-, a, b, c⟩ | ⟨hf, -⟩
    · exact ⟨a, b, c⟩
    · cases hf
  rw [h.sz_] at hfit hS
  obtain ⟨many, hm⟩ : ∃ x, x = manyOf 256 (16 + 4 * ml.length + 4 * el.length) := ⟨_, rfl⟩
  rw [← hm] at hmany hr hfit hS
  rw [h.n_] at hS
  have hmp : 0 < many := by rw [hm]; exact many_pos (by omega) (by omega)
  have hrm : r * (n - 1) < many := (rows_iff hn.1 r).1 hr
  have hrpg : r < s.pg := by
    have := Nat.mul_le_mul (Nat.le_refl r) (show 2 ≤ n - 1 by omega)
    rw [h.pg_]; omega
  have hrow : ∀ k', k' < rowsOf n many → k' < s.pg := fun k' hk' => by
    have h1 := (rows_iff hn.1 k').1 hk'
    have := Nat.mul_le_mul (Nat.le_refl k') (show 2 ≤ n - 1 by omega)
    rw [h.pg_]; omega
  -- what stands where
  have hokX : ∀ m, m < n → m ≠ D → OpenOk (((s.put (D, 3, r) q).page (m, 3, r)).take 256) (((s.put (D, 3, r) q).page (m, 3, r)).drop 256) := fun m hm' hne => by
    rw [page_put_other (by intro e; simp only [Prod.mk.injEq] at e; exact hne e.1)]
    have := (rowX_page (hS.1 r hr) (by rw [h.n_]; omega) (by omega) (by have := h.pg_; omega) h.live (m := m) (by rw [h.n_]; exact hm')).1
    rw [h.sz_] at this
    exact this
  refine ⟨if r * (n - 1) = 0 then 0 else 5, by split <;> simp, ?_⟩
  have hR1 : ∀ W1 : World, Below w'.heap.size w' W1 → Calls Tryz.prog 42 #[.iface 51 (.pointer (some ⟨s.rb, 0, none⟩)), .int .i64 (2 + ((1 : Nat) : Int))] W1 fun e x => ∃ sv L, e = .returned (.tuple #[sv, .int .i64 0]) ∧ RdG W1 false 0 0 [] [] (if r * (n - 1) = 0 then 0 else 5) 5 sv L x := fun W1 hW1 => by
    have hr1 := hr'.step hW1
    have hh := ptRowsG_any hr1 3 r (ptC 256 5 many (ptX 256 5 ba ml el)) (by rw [e5, h.bl_]; omega) (by rw [e2]; omega) (by rw [e3, h.sz_]; omega) (fun k' => k' < rowsOf n many ∧ k' ≠ r) (fun k' hk' => ⟨by omega, by omega⟩) (fun _ hc => hc.2 rfl)
      (fun W k' hW hk' hc => by
        have := row_whole_x (hr1.step hW) (by rw [e3, h.sz_]; omega) (by rw [e3, h.sz_]; omega) 3 k' (ptC 256 5 many (ptX 256 5 ba ml el)) (by rw [e5, h.bl_]; omega) hk' hlive (by
          have hx := (hS.1 k' hc.1).cong e1 e2 e3 e4 fun m => hFo _ (by intro e; simp only [Prod.mk.injEq] at e; exact hc.2 e.2.2)
          rw [e1]
          exact hx)
        exact this)
      (fun W k' hW hk' hc => by
        by_cases hkr : k' = r
        · subst hkr
          refine ⟨1, rfl, ?_⟩
          exact row_spoilt (hr1.step hW) (by rw [e3, h.sz_]; omega) 3 k' (by rw [e5, h.bl_]; omega) hk' hlive D (by rw [e1, h.n_]; exact hD) (fun m hm' hne => by rw [e3, h.sz_]; exact hokX m (by rw [e1, h.n_] at hm'; exact hm') hne) (by rw [page_put_same, e3, h.sz_]; exact hbad)
        · refine ⟨0, rfl, ?_⟩
          have hge : rowsOf n many ≤ k' := by
            rcases Nat.lt_or_ge k' (rowsOf n many) with c | c
            · exact absurd ⟨c, hkr⟩ hc
            · exact c
          exact row_blank (hr1.step hW) (by rw [e3, h.sz_]; omega) 3 k' (by rw [e5, h.bl_]; omega) hk' fun m hm' => ⟨hlive m, (hFo _ (by intro e; simp only [Prod.mk.injEq] at e; exact hkr e.2.2)).trans (hS.2 k' hge hk' m hm')⟩)
    refine hh.mono ?_
    rintro e x ⟨sv, L, rfl, hO, hl, hb, hL⟩
    rw [e1, h.n_] at hl
    refine ⟨sv, L, rfl, ?_⟩
    have hfew := RdG.few (tp := 5) (many := many) hO hb (by omega) (fun i hi => by
      rw [(hL i hi).1]
      unfold ptC
      split <;> rfl) (by omega) (by omega) (fun h0' => by
      rw [(hL 0 h0').1]
      unfold ptC
      rw [if_pos hmp]
      rfl)
    rw [hl] at hfew
    exact hfew
  refine ptLastG_any s.rb (fun i => if i = 0 then X 0 else ⟨false, 0, 0, [], [], if r * (n - 1) = 0 then 0 else 5⟩) w' fun k' x hk' hx => ?_
  rcases (show k' = 0 ∨ k' = 1 by omega) with rfl | rfl
  · simp only [if_true]
    have := ptRead_any (hr'.step hx) 0 (by omega) h0 hlive (by rw [e3, h.sz_]; omega)
    rw [htop]
    exact this
  · simp only [if_neg (show ¬ (1 : Nat) = 0 by decide)]
    exact ptReadG_any s.rb 1 (by omega) fun W1 hW1 => hR1 W1 (bel_trans hx hW1)
end Go.Proofs.YthgcjiocelcblaaGreat

namespace Go.Proofs.YthgcjiocelcblaaGreat
open Go.RowKit

set_option maxRecDepth 100000 in
set_option maxHeartbeats 1000000 in
theorem withN_any (b off n c : Nat) (bs : List Nat) (k : Nat) (pa : Option Addr) (m pc : Nat) (p : List Nat) (w : World) (hr : Row w (some ⟨b, off, none⟩) n bs) (hnc : n ≤ c) (hc : c ≤ 2 ^ 63 - 1) (hk : k + m ≤ n) (hn : n ≤ 1000) (hx : Row w pa m p) (hpn : pa = none → pc = 0) :
    Calls Tryz.prog 24 #[.slice (some ⟨b, off, none⟩) n c, .int .i64 (k : Int), .slice pa m pc] w (RetOwn w (bs.take k ++ p ++ bs.drop (k + m))) := by
  have HR := Lib.hid hr
  have HX := Lib.hid hx
  have HPN := Lib.hid hpn
  have HF := Lib.hid (row_front hr k (by omega))
  have HL : Hid (bs.length = n) := Lib.hid hr.1
  have HM : Hid (p.length = m) := Lib.hid hx.1
  obtain ⟨res, hres⟩ : ∃ r, r = bs.take k ++ p ++ bs.drop (k + m) := ⟨_, rfl⟩
  rw [← hres]
  have HRES := Lib.hid hres
  clear hr hx hres hpn
  have h1 : k ≤ c := by omega
  have h2 : (k : Int) ≤ (c : Int) := by omega
  have h3 : (0 : Int) ≤ (k : Int) := by omega
  have h4 : k + m ≤ n := by omega
  have h5 : (k : Int) + (m : Int) ≤ (n : Int) := by omega
  have h6 : (n : Int) ≤ (c : Int) := by omega
  have h7 : (0 : Int) ≤ (k : Int) + (m : Int) := by omega
  go_enter Tryz.func24, Tryz.ntmps24
  go_wp2_with (at_builtin; refine wpList_app rfl _ _ rfl w.heap.size _ _ rfl (own_nil _ _) _ _ _ (bs.take k) rfl HF.out (fun h => by cases h) (Nat.le_refl _) (by simp; omega) ?_)
  intro v1 w1 hap
  have HO1 : Hid (Own w.heap.size w1 v1 (bs.take k)) := Lib.hid hap.own
  have HB1 : Hid (Below w.heap.size w w1) := Lib.hid hap.below
  clear hap
  have HX1 := Lib.hid (row_keep HX.out HB1.out (Nat.le_refl _))
  have HR1 := Lib.hid (row_keep HR.out HB1.out (Nat.le_refl _))
  have hl1 : (bs.take k).length ≤ 1000 := by rw [List.length_take]; omega
  obtain ⟨l1, hl1e⟩ : ∃ l1, l1 = bs.take k := ⟨_, rfl⟩
  rw [← hl1e] at HO1 hl1 HRES
  clear hl1e
  go_wp2_with (at_builtin; refine wpList_app rfl _ _ rfl w.heap.size _ _ rfl HO1.out _ _ _ p rfl HX1.out HPN.out HB1.out.size (by omega) ?_)
  intro v2 w2 hap
  have HO2 : Hid (Own w.heap.size w2 v2 (l1 ++ p)) := Lib.hid hap.own
  have HB2 : Hid (Below w.heap.size w w2) := Lib.hid (HB1.out.trans hap.below)
  clear hap
  have HS2 := Lib.hid (row_suffix (row_keep HR.out HB2.out (Nat.le_refl _)) (k + m) (by omega))
  have hl2 : (l1 ++ p).length ≤ 2000 := by rw [List.length_append, HM.out]; omega
  obtain ⟨l2, hl2e⟩ : ∃ l2, l2 = l1 ++ p := ⟨_, rfl⟩
  rw [← hl2e] at HO2 hl2 HRES
  clear hl2e
  go_upto_region 4 with fail
  by_cases hce : c = k + m
  · have hnk : n = k + m := by omega
    have HE : Hid (bs.drop (k + m) = []) := Lib.hid (List.drop_eq_nil_of_le (by rw [HL.out, hnk]; exact Nat.le_refl _))
    rw [HE.out, List.append_nil] at HRES
    subst hce hnk
    have HR0 : Hid (∀ q : Addr, Row w2 (some q) 0 []) := Lib.hid fun q => ⟨rfl, (fun x hx => by cases hx), fun h => absurd h (Nat.lt_irrefl 0)⟩
    go_wp2_with (at_builtin; refine wpList_app rfl _ _ rfl w.heap.size _ _ rfl HO2.out _ 0 _ [] rfl (HR0.out _) (fun h => by cases h) HB2.out.size (by omega) ?_; intro v3 w3 hap; have HO3 := Lib.hid hap.own; have HB3 := Lib.hid (HB2.out.trans hap.below); clear hap)
    rw [List.append_nil, ← HRES.out] at HO3
    go_wp2
    go_ret
    exact ⟨_, rfl, HO3.out, HB3.out⟩
  · go_wp2_with (at_builtin; refine wpList_app rfl _ _ rfl w.heap.size _ _ rfl HO2.out _ _ _ _ rfl HS2.out (fun h => by cases h) HB2.out.size (by omega) ?_; intro v3 w3 hap; have HO3 := Lib.hid hap.own; have HB3 := Lib.hid (HB2.out.trans hap.below); clear hap)
    rw [← HRES.out] at HO3
    go_wp2
    go_ret
    exact ⟨_, rfl, HO3.out, HB3.out⟩
end Go.Proofs.YthgcjiocelcblaaGreat

namespace Go.Proofs.YthgcjiocelcblaaGreat
open Go.RowKit Go.Deep

set_option maxHeartbeats 400000 in
theorem sameAny_any (a b : Option Addr) (la ca lb cb : Nat) (xs ys : List Nat) (w : World) (ha : Row w a la xs) (hb : Row w b lb ys) :
    Calls Tryz.prog 13 #[.slice a la ca, .slice b lb cb] w fun e w' => (∃ z, e = .returned (.bool z)) ∧ w = w' := by
  have h1 := conv_str w a la ca xs ha
  have h2 := conv_str w b lb cb ys hb
  go_enter Tryz.func13, Tryz.ntmps13
  go_wp2
  go_ret
  exact ⟨⟨_, rfl⟩, rfl⟩
set_option maxRecDepth 100000 in
set_option maxHeartbeats 2000000 in
theorem ptOpens_any (b off c : Nat) (l : List Nat) (w : World) (hr : Row w (some ⟨b, off, none⟩) 320 l) (hc : 320 ≤ c) (hm : c ≤ maxLen) :
    Calls Tryz.prog 25 #[.slice (some ⟨b, off, none⟩) 320 c] w fun e w' => e = .returned (.bool (decide (OpenOk (l.take 256) (l.drop 256)))) ∧ Below w.heap.size w w' := by
  obtain ⟨H, hH⟩ : ∃ H, H = openH (l.take 256) (l.drop 256) := ⟨_, rfl⟩
  obtain ⟨bb, hbb⟩ : ∃ b, b = decide (OpenOk (l.take 256) (l.drop 256)) := ⟨_, rfl⟩
  rw [← hbb]
  have HOP : Hid (∀ x : World, Below w.heap.size w x → Calls Tryz.prog 44 #[.slice (some ⟨b, off, none⟩) 256 c, .slice (some ⟨b, off + 256, none⟩) 64 (c - 256)] x fun e w' => e = .returned (.tuple #[.agg #[.int .i64 (H.ki : Int), .int .i64 (H.ep : Int), .int .i64 (H.ba : Int), .int .i64 (H.ix : Int), .int .i64 (H.ct : Int), .int .i64 (H.bl : Int), .int .i64 (H.mo : Int)], .bool bb]) ∧ Below x.heap.size x w') := Lib.hid fun x hx => by
    have hrow : Row x (some ⟨b, off, none⟩) 320 l := row_keep hr hx (Nat.le_refl _)
    have := refOpen_any (some ⟨b, off, none⟩) 256 c (l.take 256) (some ⟨b, off + 256, none⟩) 64 (c - 256) (l.drop 256) x (row_front hrow 256 (by omega)) (by omega) (fun h => by cases h) (row_suffix hrow 256 (by omega)) (by omega) (Nat.le_trans (Nat.sub_le _ _) hm)
    rw [← hH, ← hbb] at this
    exact this
  have hx2 : ¬ c = 256 := by omega
  have hx3 : c ≤ 9223372036854775807 := by unfold maxLen at hm; exact hm
  have hx4 : (256 : Int) ≤ (c : Int) := by omega
  have hx5 : (320 : Int) ≤ (c : Int) := by omega
  have hx6 : 256 ≤ c := by omega
  have w1 : IntKind.i64.wrap 256 = 256 := by decide
  have HC0 : Hid (Below w.heap.size w w.drew) := Lib.hid (Below.refl _ _).drew
  have hx7 := hc
  clear hr hm hH hbb hc
  go_enter Tryz.func25, Tryz.ntmps25
  go_upto_region 1 with fail
  go_region_held3 (fun _ => True)
    (first | trivial | go_keep)
    (first
      | (go_simp; go_at_call 44; ((with_reducible refine (HOP.out _ HC0.out).mono ?_)); (intro e w9 hr; obtain ⟨rfl, hb9⟩ := hr; have HC9 := Lib.hid (bel_trans HC0.out hb9); clear hb9))
      | (go_simp; go_at_call 44; ((with_reducible refine (HOP.out _ ((bel_alloc (Below.refl _ w) _).drew)).mono ?_)); (intro e w9 hr; obtain ⟨rfl, hb9⟩ := hr; have HC9 := Lib.hid (bel_trans ((bel_alloc (Below.refl _ w) (.cells #[.int .i64 0, .int .i64 0, .int .i64 0, .int .i64 0, .int .i64 0, .int .i64 0, .int .i64 0] 105)).drew) hb9); have HXA := Lib.hid ((hb9.block w.heap.size (by simp)).trans (heap_alloc_new w (.cells #[.int .i64 0, .int .i64 0, .int .i64 0, .int .i64 0, .int .i64 0, .int .i64 0, .int .i64 0] 105))); obtain ⟨x0, x1, x2, x3, x4, x5, x6⟩ := seven_at HXA.out; have xf := free_at HXA.out; clear hb9)))
  all_goals
    first
      | (have HZ : Hid (Below w.heap.size w (w9.alloc (.cells #[.int .i64 (H.ki : Int), .int .i64 (H.ep : Int), .int .i64 (H.ba : Int), .int .i64 (H.ix : Int), .int .i64 (H.ct : Int), .int .i64 (H.bl : Int), .int .i64 (H.mo : Int)] 105))) := Lib.hid (bel_alloc HC9.out _)
         obtain ⟨wz, hwz⟩ : ∃ x, x = w9.alloc (.cells #[.int .i64 (H.ki : Int), .int .i64 (H.ep : Int), .int .i64 (H.ba : Int), .int .i64 (H.ix : Int), .int .i64 (H.ct : Int), .int .i64 (H.bl : Int), .int .i64 (H.mo : Int)] 105) := ⟨_, rfl⟩
         rw [← hwz] at HZ ⊢
         clear hwz)
      | (have HZ : Hid (Below w.heap.size w (((((((w9.setCell ⟨w.heap.size, 0, none⟩ (.int .i64 (H.ki : Int))).setCell ⟨w.heap.size, 1, none⟩ (.int .i64 (H.ep : Int))).setCell ⟨w.heap.size, 2, none⟩ (.int .i64 (H.ba : Int))).setCell ⟨w.heap.size, 3, none⟩ (.int .i64 (H.ix : Int))).setCell ⟨w.heap.size, 4, none⟩ (.int .i64 (H.ct : Int))).setCell ⟨w.heap.size, 5, none⟩ (.int .i64 (H.bl : Int))).setCell ⟨w.heap.size, 6, none⟩ (.int .i64 (H.mo : Int)))) := Lib.hid (bel_seven HC9.out w.heap.size (Nat.le_refl _) _ _ _ _ _ _ _)
         clear x0 x1 x2 x3 x4 x5 x6 xf
         obtain ⟨wz, hwz⟩ : ∃ x, x = (((((((w9.setCell ⟨w.heap.size, 0, none⟩ (.int .i64 (H.ki : Int))).setCell ⟨w.heap.size, 1, none⟩ (.int .i64 (H.ep : Int))).setCell ⟨w.heap.size, 2, none⟩ (.int .i64 (H.ba : Int))).setCell ⟨w.heap.size, 3, none⟩ (.int .i64 (H.ix : Int))).setCell ⟨w.heap.size, 4, none⟩ (.int .i64 (H.ct : Int))).setCell ⟨w.heap.size, 5, none⟩ (.int .i64 (H.bl : Int))).setCell ⟨w.heap.size, 6, none⟩ (.int .i64 (H.mo : Int))) := ⟨_, rfl⟩
         rw [← hwz] at HZ ⊢
         clear hwz)
    go_wp2
    go_ret
    exact ⟨rfl, HZ.out⟩
end Go.Proofs.YthgcjiocelcblaaGreat
