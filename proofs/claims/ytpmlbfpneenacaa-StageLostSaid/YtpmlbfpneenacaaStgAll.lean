/- stage.All. -/
import Derived.Test.YtpmlbfpneenacaaStgGet
import Derived.Test.YtpmlbfpneenacaaOwnSP
namespace Go.Proofs.Ytpmlbfpneenacaa
open Go.RowKit Go.Deep

/-- The first m pages, as they are got. -/
def GotAll (sz : Nat) (q : Nat → Option (List Nat × RH)) (B m : Nat) (sv : Value) (L : List SP) (w : World) : Prop :=
  OwnSP B w sv L ∧ L.length = m ∧ ∀ j, j < m → ∃ l H, q j = some (l, H) ∧ (L.getD j SP.nil).h = H ∧ (L.getD j SP.nil).d.l = l ∧ PartOk w (L.getD j SP.nil).d ∧ (L.getD j SP.nil).d.n = sz ∧ ∀ x, (L.getD j SP.nil).d.a = some x → some x.block ≠ sv.ownBlock
theorem GotAll.step {sz : Nat} {q : Nat → Option (List Nat × RH)} {B m : Nat} {sv : Value} {L : List SP} {w w' : World} (h : GotAll sz q B m sv L w) (hb : Below w.heap.size w w') : GotAll sz q B m sv L w' := by
  refine ⟨h.1.below hb, h.2.1, fun j hj => ?_⟩
  obtain ⟨l, H, h1, h2, h3, h4, h5, h6⟩ := h.2.2 j hj
  exact ⟨l, H, h1, h2, h3, h4.step hb, h5, h6⟩
theorem getD_append_left {α : Type} (L M : List α) (d : α) (j : Nat) (h : j < L.length) : (L ++ M).getD j d = L.getD j d := by
  simp [List.getD, List.getElem?_append_left h]
theorem getD_append_last {α : Type} (L : List α) (x d : α) : (L ++ [x]).getD L.length d = x := by
  simp [List.getD]
theorem GotAll.more {sz : Nat} {q : Nat → Option (List Nat × RH)} {B k : Nat} {sv sv' : Value} {L : List SP} {w w' : World} {p : SP} (h : GotAll sz q B k sv L w) (hs : 0 < sz) (ho : ApdSP B w sv (L ++ [p]) sv' w') (hq : q k = some (p.d.l, p.h)) (hp : PartOk w p.d) (hn : p.d.n = sz) (hx : ∀ x, p.d.a = some x → some x.block ≠ sv.ownBlock) : GotAll sz q B (k + 1) sv' (L ++ [p]) w' := by
  have key : ∀ d : PS, PartOk w d → d.n = sz → (∀ x, d.a = some x → some x.block ≠ sv.ownBlock) → PartOk w' d ∧ ∀ x, d.a = some x → some x.block ≠ sv'.ownBlock := by
    intro d d1 d2 d3
    refine ⟨d1.at_ fun h0 x hx => ho.grown.block x.block (d1.lt h0 x hx) (d3 x hx), fun x hx => ?_⟩
    rcases ho.where_ with e | e
    · rw [e]; exact d3 x hx
    · rw [e]
      have := d1.lt (by omega) x hx
      intro c
      have c2 : x.block = w.heap.size := by simpa using c
      omega
  refine ⟨ho.own, by rw [List.length_append, h.2.1]; rfl, fun j hj => ?_⟩
  by_cases e : j = k
  · rw [e, ← h.2.1, getD_append_last, h.2.1]
    exact ⟨_, _, hq, rfl, rfl, (key _ hp hn hx).1, hn, (key _ hp hn hx).2⟩
  · rw [getD_append_left _ _ _ _ (by rw [h.2.1]; omega)]
    obtain ⟨l, H, h1, h2, h3, h4, h5, h6⟩ := h.2.2 j (by omega)
    exact ⟨l, H, h1, h2, h3, (key _ h4 h5 h6).1, h5, (key _ h4 h5 h6).2⟩
def StgAllRet (sz : Nat) (q : Nat → Option (List Nat × RH)) (m : Nat) (w : World) (e : Ending) (w' : World) : Prop :=
  ∃ sv L, e = .returned (.tuple #[sv, .int .i64 0]) ∧ GotAll sz q w.heap.size m sv L w' ∧ Below w.heap.size w w'
section
variable {B : Nat} {s : RS} {w : World}
set_option maxRecDepth 100000 in
set_option maxHeartbeats 2000000 in
theorem stgAll_ok (h : Ram B s w) (wh m : Nat) (hw : wh ≤ 1) (hsz : s.sz ≤ 1000) (q : Nat → Option (List Nat × RH)) (hq : ∀ k, k < roomN s.n s.pg → q k = getPg s (4 + wh) (rowN s.n k) (firN s.n k)) (hm : m ≤ roomN s.n s.pg) (hy : ∀ j, j < m → q j ≠ none) (hz : m < roomN s.n s.pg → q m = none) :
    Calls Try.prog 44 #[.iface 56 (.pointer (some ⟨s.rb, 0, none⟩)), .int .i64 (wh : Int)] w (StgAllRet s.sz q m w) := by
  have hg := h.geo
  have HS1 : Hid (0 < s.sz) := Lib.hid (by have := hg.2.2.2.2.2.2.1; omega)
  have hroom : roomN s.n s.pg ≤ 1000 := by
    unfold roomN
    have h1 : s.pg ≤ 32 := by have := hg.2.2.2.2.2.1; omega
    have h2 : s.n / 2 ≤ 8 := by have := hg.2.1; omega
    exact Nat.le_trans (Nat.mul_le_mul h1 h2) (by omega)
  have HSH := Lib.hid fun (x : World) (hx : Below w.heap.size w x) => stgShape_ok (h.step hx) wh hw
  have HRM := Lib.hid fun (x : World) => room_any s.n s.bl s.pg s.sz x hg
  have HGE := Lib.hid fun (x : World) (hx : Below w.heap.size w x) (k : Nat) (hk : k < roomN s.n s.pg) => stgGet_ok (h.step hx) wh k hw hk hsz (q k) (hq k hk)
  obtain ⟨R, hR⟩ : ∃ R, R = roomN s.n s.pg := ⟨_, rfl⟩
  rw [← hR] at HRM HGE hm hz hroom
  have HZ := Lib.hid hz
  have HY := Lib.hid hy
  clear h hg hR hq hz hy
  go_enter Try.func44, Try.ntmps44
  go_wp2_with fail
  ((with_reducible refine (HSH.out _ (Below.refl _ _)).mono ?_))
  rintro e w1 ⟨rfl, hb1⟩
  have l1 := heap_alloc_new w1 (.cells #[.int .i64 (s.n : Int), .int .i64 (s.bl : Int), .int .i64 (s.pg : Int), .int .i64 (s.sz : Int)] 54)
  have hb1' := bel_trans hb1 (bel_alloc (Below.refl _ w1) (.cells #[.int .i64 (s.n : Int), .int .i64 (s.bl : Int), .int .i64 (s.pg : Int), .int .i64 (s.sz : Int)] 54))
  go_upto_region 2 with fail
  obtain ⟨w2, hw2⟩ : ∃ x, x = w1.alloc (.cells #[.int .i64 (s.n : Int), .int .i64 (s.bl : Int), .int .i64 (s.pg : Int), .int .i64 (s.sz : Int)] 54) := ⟨_, rfl⟩
  obtain ⟨gb, hgb⟩ : ∃ x, x = w1.heap.size := ⟨_, rfl⟩
  rw [← hw2, ← hgb] at l1
  rw [← hw2] at hb1'
  rw [← hw2, ← hgb]
  have HB2 := Lib.hid hb1'
  obtain ⟨g0, g1, g2, g3⟩ := four_at l1
  clear hw2 hgb l1 hb1 hb1'
  go_wp2_with fail
  ((with_reducible refine (HRM.out _).mono ?_))
  rintro e w3 ⟨rfl, hb3⟩
  have HB3 := Lib.hid (bel_trans HB2.out hb3)
  clear hb3 g0 g1 g2 g3
  go_wp2_with fail
  go_loopw [8, 23] (fun sv iv wr => ∃ (k : Nat) (L : List SP), k ≤ m ∧ iv = .int .i64 (k : Int) ∧ GotAll s.sz q w.heap.size k sv L wr ∧ Below w.heap.size w wr) (fun _ iv _ => (R - intOf iv).toNat)
  case atStart => exact ⟨0, [], Nat.zero_le _, rfl, ⟨ownSP_nil _ _, rfl, fun j hj => absurd hj (Nat.not_lt_zero j)⟩, HB3.out⟩
  case round =>
    obtain ⟨k, L, hk, rfl, hG, hbw⟩ := hrel
    have HG := Lib.hid hG
    have HBW := Lib.hid hbw
    obtain ⟨ca, cc, hsv, _⟩ := cellsSP_own hG.1
    subst hsv
    rw [hG.2.1] at *
    clear hG hbw
    by_cases hlt : k < R
    · have t1 : decide (k < R) = true := by simpa using hlt
      have t1' : decide ((k : Int) < (R : Int)) = true := by simpa using hlt
      have HK := Lib.hid (HGE.out wr HBW.out k hlt)
      obtain ⟨qk, hqk⟩ : ∃ x, x = q k := ⟨_, rfl⟩
      have HQK := Lib.hid hqk
      rw [← hqk] at HK
      clear hqk
      cases qk with
      | none =>
        have hkm : k = m := by
          rcases Nat.lt_or_ge k m with h | h
          · exact absurd HQK.out.symm (HY.out k h)
          · omega
        subst hkm
        go_wp2_with fail
        ((with_reducible refine HK.out.mono ?_))
        intro e w5 hr
        obtain ⟨rfl, hb5⟩ := (show e = .returned (.tuple #[.agg #[.int .u8 0, .int .u32 0, .int .u32 0, .int .u16 0, .int .u16 0, .int .u32 0, .int .u32 0, .slice none 0 0], .int .i64 5]) ∧ Below wr.heap.size wr w5 from hr)
        have HG5 := Lib.hid (HG.out.step hb5)
        have HB5 := Lib.hid (bel_trans HBW.out hb5)
        clear hr hb5
        go_wp2
        go_ret2
        exact ⟨_, L, rfl, HG5.out.step (bel_alloc (Below.refl _ _) _), bel_alloc HB5.out _⟩
      | some x =>
        obtain ⟨l, H⟩ := x
        have hkm : k < m := by
          rcases Nat.lt_or_ge k m with h | h
          · exact h
          · exfalso
            obtain rfl : k = m := by omega
            have := HZ.out (by omega)
            rw [← HQK.out] at this
            cases this
        have HKM := Lib.hid hkm
        go_wp2_with fail
        ((with_reducible refine HK.out.mono ?_))
        intro e w5 hr
        obtain ⟨E, rfl, q1, q2, q3, q4, hb5⟩ := (show ∃ E : PS, e = .returned (.tuple #[.agg #[.int .u8 (H.ki : Int), .int .u32 (H.ep : Int), .int .u32 (H.ba : Int), .int .u16 (H.ix : Int), .int .u16 (H.ct : Int), .int .u32 (H.bl : Int), .int .u32 (H.mo : Int), .slice E.a E.n E.c], .int .i64 0]) ∧ E.l = l ∧ E.n = s.sz ∧ PartOk w5 E ∧ Far wr.heap.size E ∧ Below wr.heap.size wr w5 from hr)
        have l6 := heap_alloc_new w5 (.cells #[.int .u8 (H.ki : Int), .int .u32 (H.ep : Int), .int .u32 (H.ba : Int), .int .u16 (H.ix : Int), .int .u16 (H.ct : Int), .int .u32 (H.bl : Int), .int .u32 (H.mo : Int), .slice E.a E.n E.c] 77)
        have hb6 := bel_trans hb5 (bel_alloc (Below.refl _ w5) (.cells #[.int .u8 (H.ki : Int), .int .u32 (H.ep : Int), .int .u32 (H.ba : Int), .int .u16 (H.ix : Int), .int .u16 (H.ct : Int), .int .u32 (H.bl : Int), .int .u32 (H.mo : Int), .slice E.a E.n E.c] 77))
        have HQ4 := Lib.hid (And.intro q1 (And.intro q2 q4))
        have hE6 := q3.step (bel_alloc (Below.refl _ w5) (.cells #[.int .u8 (H.ki : Int), .int .u32 (H.ep : Int), .int .u32 (H.ba : Int), .int .u16 (H.ix : Int), .int .u16 (H.ct : Int), .int .u32 (H.bl : Int), .int .u32 (H.mo : Int), .slice E.a E.n E.c] 77))
        clear q1 q2 q3 q4 hr
        go_upto_region 9 with fail
        obtain ⟨w6, hw6⟩ : ∃ x, x = w5.alloc (.cells #[.int .u8 (H.ki : Int), .int .u32 (H.ep : Int), .int .u32 (H.ba : Int), .int .u16 (H.ix : Int), .int .u16 (H.ct : Int), .int .u32 (H.bl : Int), .int .u32 (H.mo : Int), .slice E.a E.n E.c] 77) := ⟨_, rfl⟩
        obtain ⟨eb, heb⟩ : ∃ x, x = w5.heap.size := ⟨_, rfl⟩
        rw [← hw6, ← heb] at l6
        rw [← hw6] at hb6 hE6
        rw [← hw6, ← heb]
        have hEx : ∀ x, E.a = some x → some x.block ≠ (Value.slice ca k cc).ownBlock := by
          intro x hx c
          have h1 := (HG.out.1.lt x.block c.symm).2
          have h2 := HQ4.out.2.2 x hx
          omega
        have HE6 := Lib.hid (And.intro HQ4.out.1 (And.intro HQ4.out.2.1 (And.intro hE6 hEx)))
        have HG6 := Lib.hid (HG.out.step hb6)
        have HB6 := Lib.hid (bel_trans HBW.out hb6)
        obtain ⟨e0, e1, e2, e3, e4, e5, e6, e7⟩ := eight_at l6
        have HPA : Hid (SPat ⟨H, E⟩ w6.heap.size 0 (w6.alloc (.cells #[.int .u8 (H.ki : Int), .int .u32 (H.ep : Int), .int .u32 (H.ba : Int), .int .u16 (H.ix : Int), .int .u16 (H.ct : Int), .int .u32 (H.bl : Int), .int .u32 (H.mo : Int), .slice E.a E.n E.c] 77))) := Lib.hid (by
          obtain ⟨a0, a1, a2, a3, a4, a5, a6, a7⟩ := eight_at (heap_alloc_new w6 (.cells #[.int .u8 (H.ki : Int), .int .u32 (H.ep : Int), .int .u32 (H.ba : Int), .int .u16 (H.ix : Int), .int .u16 (H.ct : Int), .int .u32 (H.bl : Int), .int .u32 (H.mo : Int), .slice E.a E.n E.c] 77))
          exact ⟨a0, a1, a2, a3, a4, a5, a6, a7⟩)
        clear hw6 heb l6 hb5 hb6 hE6 hEx
        go_wp2_with (at_builtin; refine wpList_appSP 60 Try.underlying60 info_sp rfl _ _ rfl w.heap.size _ L rfl (HG6.out.1.below (bel_alloc (Below.refl _ w6) _)) w6.heap.size 1 ⟨H, E⟩ rfl HPA.out (by have := HB6.out.size; simp; omega) (by rw [HG6.out.2.1]; omega) ?_)
        intro v' w7 hap
        have hba := bel_alloc (Below.refl _ w6) (.cells #[.int .u8 (H.ki : Int), .int .u32 (H.ep : Int), .int .u32 (H.ba : Int), .int .u16 (H.ix : Int), .int .u16 (H.ct : Int), .int .u32 (H.bl : Int), .int .u32 (H.mo : Int), .slice E.a E.n E.c] 77)
        have hG7 : GotAll s.sz q w.heap.size (k + 1) v' (L ++ [⟨H, E⟩]) w7 := (HG6.out.step hba).more HS1.out hap (by show q k = some (E.l, H); rw [HE6.out.1]; exact HQK.out.symm) (HE6.out.2.2.1.step hba) HE6.out.2.1 HE6.out.2.2.2
        have HG7 := Lib.hid hG7
        have HB7 : Hid (Below w.heap.size w w7) := Lib.hid ((bel_alloc HB6.out _).trans hap.below)
        clear hap hba hG7
        go_wp2
        go_roundw
        case rel => exact ⟨k + 1, _, HKM.out, by go_num, HG7.out, HB7.out⟩
        case measure => simp [intOf]; omega
    · have hkr : k = R := by omega
      have hkm : k = m := by omega
      subst hkm
      have t1 : decide (k < R) = false := by simpa using hlt
      have t1' : decide ((k : Int) < (R : Int)) = false := by simpa using hlt
      clear hkr
      go_wp2
      go_ret2
      exact ⟨_, L, rfl, HG.out, HBW.out⟩
set_option maxRecDepth 100000 in
set_option maxHeartbeats 1000000 in
theorem stgAll_which (h : Ram B s w) (wh : Int) (hw : wh < 0 ∨ 2 ≤ wh) :
    Calls Try.prog 44 #[.iface 56 (.pointer (some ⟨s.rb, 0, none⟩)), .int .i64 wh] w fun e w' => e = .returned (.tuple #[.slice none 0 0, .int .i64 34]) ∧ Below w.heap.size w w' := by
  have HSH := Lib.hid fun (x : World) (hx : Below w.heap.size w x) => stgShape_range (h.step hx) wh hw
  clear h hw
  go_enter Try.func44, Try.ntmps44
  go_wp2_with fail
  ((with_reducible refine (HSH.out _ (Below.refl _ _)).mono ?_))
  rintro e w1 ⟨rfl, hb1⟩
  have HB1 := Lib.hid hb1
  clear hb1
  go_wp2
  go_ret2
  exact ⟨rfl, bel_alloc HB1.out _⟩
end
set_option maxRecDepth 100000 in
theorem stgAll_nil (wh : Int) (w : World) :
    Calls Try.prog 44 #[.nilIface, .int .i64 wh] w fun e w' => e = .returned (.tuple #[.slice none 0 0, .int .i64 60]) ∧ Below w.heap.size w w' := by
  have HSH := Lib.hid fun (x : World) => stgShape_nil wh x
  go_enter Try.func44, Try.ntmps44
  go_wp2_with fail
  ((with_reducible refine (HSH.out _).mono ?_))
  rintro e w1 ⟨rfl, hb1⟩
  have HB1 := Lib.hid hb1
  clear hb1
  go_wp2
  go_ret2
  exact ⟨rfl, bel_alloc HB1.out _⟩
end Go.Proofs.Ytpmlbfpneenacaa
