/- PointWrites: the walk. -/
import Derived.Test.YthgcjiocelcblaaGreatM01
import Derived.Test.YthgcjiocelcblaaGreatM02
import Derived.Test.YthgcjiocelcblaaGreatK45
namespace Go.Proofs.YthgcjiocelcblaaGreat
open Go.RowKit Go.Deep

/-- Points that are handed in, one behind the other. -/
def PtsIn (w : World) (a : Option Addr) (n : Nat) (P : Nat → PT) : Prop :=
  (0 < n → ∃ b off, a = some ⟨b, off, none⟩ ∧ ∀ i, i < n → w.cell? ⟨b, off + i * 4, none⟩ = some (.int .u32 ((P i).sq : Int)) ∧ w.cell? ⟨b, off + i * 4 + 1, none⟩ = some (.int .u32 ((P i).ba : Int)) ∧ w.cell? ⟨b, off + i * 4 + 2, none⟩ = some (.slice (P i).ma (P i).mn (P i).mc) ∧ w.cell? ⟨b, off + i * 4 + 3, none⟩ = some (.slice (P i).ea (P i).en (P i).ec)) ∧
  ∀ i, i < n → (P i).Ok w
/-- What holds between two points. -/
structure WI (w w5 : World) (B rb lb N k : Nat) (x : PtD) (T : PT) (wr : World) : Prop where
  mem : ∃ s c X, Mem2 B s N c X wr ∧ c ≤ k ∧ LastX X x ∧ s.rb = rb ∧ ¬ s.ob lb
  q : x.q ≤ 2000 * k
  t : T.sq = x.q ∧ T.ba = x.b ∧ T.ml = x.m ∧ T.el = x.e ∧ T.mn ≤ 900 ∧ T.en ≤ 100
  ok : T.Ok w
  last : wr.heap[lb]? = some (.cells #[.int .u32 (T.sq : Int), .int .u32 (T.ba : Int), .slice T.ma T.mn T.mc, .slice T.ea T.en T.ec] 25 (0, 0))
  bel : Below B w5 wr
def ptZero : PT := ⟨0, 0, none, 0, 0, [], none, 0, 0, []⟩
theorem ptZero_ok (w : World) : ptZero.Ok w := ⟨(show (0 : Nat) < 4294967296 by decide), (show (0 : Nat) < 4294967296 by decide), rowU_nil w, rowU_nil w⟩
theorem WI.step {w w5 : World} {B rb lb N k : Nat} {x : PtD} {T : PT} {wr y : World} (h : WI w w5 B rb lb N k x T wr) (hb : Below wr.heap.size wr y) (hB : B ≤ wr.heap.size) : WI w w5 B rb lb N k x T y := by
  obtain ⟨s, c, X, h1, h2⟩ := h.mem
  exact ⟨⟨s, c, X, h1.step hb, h2⟩, h.q, h.t, h.ok, (hb.block lb (Array.getElem?_eq_some_iff.1 h.last).1).trans h.last, h.bel.trans (hb.mono hB)⟩
theorem PT.Ok.seq {sq q ba : Nat} {ma : Option Addr} {mn mc : Nat} {ml : List Nat} {ea : Option Addr} {en ec : Nat} {el : List Nat} {w : World} (h : PT.Ok ⟨sq, ba, ma, mn, mc, ml, ea, en, ec, el⟩ w) (hq : q < 4294967296) : PT.Ok ⟨q, ba, ma, mn, mc, ml, ea, en, ec, el⟩ w := ⟨hq, h.ba_, h.ml_, h.el_⟩
theorem Mem2.setBox {B n k : Nat} {s : RS} {X : Nat → PtD} {w : World} (h : Mem2 B s n k X w) {lb : Nat} {u0 u1 : Int} {a b : Option Addr} {c d e f : Nat} {t : TypeId} (hl : w.heap[lb]? = some (.cells #[.int .u32 u0, .int .u32 u1, .slice a c d, .slice b e f] t (0, 0))) (hn : ¬ s.ob lb) (hB : B ≤ lb) (v0 v1 v2 v3 : Value) :
    Mem2 B s n k X ((((w.setCell ⟨lb, 0, none⟩ v0).setCell ⟨lb, 1, none⟩ v1).setCell ⟨lb, 2, none⟩ v2).setCell ⟨lb, 3, none⟩ v3) := by
  have hk : ∀ j, j ≠ lb → ((((w.setCell ⟨lb, 0, none⟩ v0).setCell ⟨lb, 1, none⟩ v1).setCell ⟨lb, 2, none⟩ v2).setCell ⟨lb, 3, none⟩ v3).heap[j]? = w.heap[j]? := fun j hj => by
    rw [Below.heap_setCell _ _ _ _ hj, Below.heap_setCell _ _ _ _ hj, Below.heap_setCell _ _ _ _ hj, Below.heap_setCell _ _ _ _ hj]
  refine ⟨h.ram.keep (fun j _ hj => hk j fun e => hn (by rw [← e]; exact hj)) (fun j p hj hF x hx => hk _ fun e => ?_), by simpa using h.hB, h.live, h.n_, h.pg_, h.sz_, h.bl_, h.hn, h.ol, h.s0, h.s1⟩
  obtain ⟨q1, q2, -, -⟩ := h.ram.parts j p hj hF
  obtain ⟨b', off, e1, hc⟩ := q1.1.2.2 (by omega)
  rw [e1] at hx
  cases hx
  have h0 := hc 0 (by omega)
  have e2 : b' = lb := e
  subst e2
  simp only [World.cell?, hl] at h0
  match off, h0 with
  | 0, h0 => simp at h0
  | 1, h0 => simp at h0
  | 2, h0 => simp at h0
  | 3, h0 => simp at h0
  | o + 4, h0 => simp at h0
theorem LastX.top {X : Nat → PtD} {x : PtD} (h : LastX X x) : x.top = x.q := by
  rcases h with ⟨rfl, -, -⟩ | ⟨-, h, -⟩
  · rfl
  · exact h
/-- What Last and Read answer, of a memory that holds the points. -/
theorem ptEnds {B : Nat} {s : RS} {w : World} (h : Ram B s w) (ha : Alive s) (hsz : s.sz ≤ 1000) {X : Nat → PtD} {x : PtD} (hL : LastX X x) (h0 : PtD.In s 2 (X 0)) (h1 : PtD.In s 3 (X 1)) :
    Calls Tryz.prog 22 #[.iface 51 (.pointer (some ⟨s.rb, 0, none⟩))] w (RdIs x.f x.q x.b x.m x.e x.q w) ∧
    ∀ y : World, Below w.heap.size w y → Calls Tryz.prog 23 #[.iface 51 (.pointer (some ⟨s.rb, 0, none⟩)), .int .i64 ((x.q % 2 : Nat) : Int)] y (RdIs x.f x.q x.b x.m x.e x.q y) := by
  refine ⟨?_, fun y hy => readAny (h.step hy) ha (x.q % 2) (by omega) ?_ hsz⟩
  · have := lastAny h ha X h0 h1 hL.tops.1 hL.tops.2 hsz
    rw [hL.fold, hL.top] at this
    exact this
  · rcases hL with ⟨hx, hz, -⟩ | ⟨-, -, hx, -⟩
    · rw [show x.q % 2 = 0 by rw [hx]; rfl, hx, ← hz]; exact h0
    · rcases Nat.mod_two_eq_zero_or_one x.q with c | c
      · rw [c] at hx ⊢; rw [← hx]; exact h0
      · rw [c] at hx ⊢; rw [← hx]; exact h1
theorem pt_freeW {W : World} {b : Nat} {cs : Array Value} {t : TypeId} (h : W.heap[b]? = some (.cells cs t (0, 0))) : W.frozen? ⟨b, 0, none⟩ = false ∧ W.frozen? ⟨b, 1, none⟩ = false ∧ W.frozen? ⟨b, 2, none⟩ = false ∧ W.frozen? ⟨b, 3, none⟩ = false := ⟨pt_free h 0, pt_free h 1, pt_free h 2, pt_free h 3⟩
set_option maxRecDepth 100000 in
set_option maxHeartbeats 8000000 in
theorem pointWrites_any (z d : Int) (a : Option Addr) (n c : Nat) (P : Nat → PT) (w : World) (hP : PtsIn w a n P) (hd : d ≤ 9223372036854775807) :
    Calls Tryz.prog 5 #[.int .i64 z, .slice a n c, .int .i64 d] w fun e w' => e = .returned (.bool true) ∧ Below w.heap.size w w' := by
  have HWR := Lib.hid written_any
  by_cases hn6 : n ≤ 6
  · have d1 : decide ((6 : Int) < (n : Int)) = false := by simp; omega
    have HP := Lib.hid hP
    have HD := Lib.hid hd
    clear hP hd
    go_enter Tryz.func5, Tryz.ntmps5
    go_wp2_with fail
    ((with_reducible refine (HWR.out _).mono ?_))
    rintro e w1 ⟨rfl, hb1⟩
    have HB1 := Lib.hid hb1
    clear hb1
    go_wp2_with fail
    ((with_reducible refine (ptShape_any z w1).mono ?_))
    rintro e w2 ⟨rfl, hb2⟩
    have hn35 := ptG_in z
    obtain ⟨N, hN⟩ : ∃ n, n = ptG z := ⟨_, rfl⟩
    rw [← hN] at hn35 ⊢
    have HN5 : Hid (3 ≤ N ∧ N ≤ 5) := Lib.hid ⟨hn35.1, hn35.2.1⟩
    obtain ⟨w3, hw3⟩ : ∃ x, x = w2.alloc (.cells #[.int .i64 (N : Int), .int .i64 20, .int .i64 6, .int .i64 256] 49) := ⟨_, rfl⟩
    obtain ⟨gb, hgb⟩ : ∃ x, x = w2.heap.size := ⟨_, rfl⟩
    have hb3 : Below w2.heap.size w2 w3 := by rw [hw3]; exact bel_alloc (Below.refl _ _) _
    have hg3 : w3.heap[gb]? = some (.cells #[.int .i64 (N : Int), .int .i64 20, .int .i64 6, .int .i64 256] 49 (0, 0)) := by rw [hw3, hgb]; exact heap_alloc_new _ _
    have HNEW : Hid (Calls Tryz.prog 20 #[.agg #[.int .i64 (N : Int), .int .i64 20, .int .i64 6, .int .i64 256]] w3 (NewRet N 20 6 256 w3)) := Lib.hid (ramNew_any N 20 6 256 w3 (ptGood N HN5.out))
    have HB3 := Lib.hid (And.intro (bel_trans (bel_trans HB1.out hb2) hb3) hg3)
    obtain ⟨g0, g1, g2, g3⟩ := four_at hg3
    clear hb2 hn35 hN hb3 hg3 d1
    go_upto_region 4 with fail
    rw [← hw3, ← hgb]
    clear hw3 hgb
    go_wp2_with fail
    ((with_reducible refine HNEW.out.mono ?_))
    rintro e w4 ⟨rb, pgb, gnb, rfl, hr, hb4⟩
    obtain ⟨w5, hw5⟩ : ∃ x, x = w4.alloc (.cells #[.int .u32 0, .int .u32 0, .slice none 0 0, .slice none 0 0] 25) := ⟨_, rfl⟩
    obtain ⟨lb, hlb⟩ : ∃ x, x = w4.heap.size := ⟨_, rfl⟩
    have hb5 : Below w4.heap.size w4 w5 := by rw [hw5]; exact bel_alloc (Below.refl _ _) _
    have hl5 : w5.heap[lb]? = some (.cells #[.int .u32 0, .int .u32 0, .slice none 0 0, .slice none 0 0] 25 (0, 0)) := by rw [hw5, hlb]; exact heap_alloc_new _ _
    have hm5 := (mem2_new hr hb4.size HN5.out).step hb5
    have hfr : ¬ (rsNew rb pgb gnb N 20 6 256).ob lb := hr.fresh (Nat.le_of_eq hlb.symm)
    obtain ⟨B, hBB⟩ : ∃ B, B = w3.heap.size := ⟨_, rfl⟩
    have hwB : w.heap.size ≤ B := by rw [hBB]; exact HB3.out.1.size
    have hgB : gb < B := by rw [hBB]; exact (Array.getElem?_eq_some_iff.1 HB3.out.2).1
    have hg5 : w5.heap[gb]? = some (.cells #[.int .i64 (N : Int), .int .i64 20, .int .i64 6, .int .i64 256] 49 (0, 0)) := (hb5.block gb (by have := hb4.size; omega)).trans ((hb4.block gb (by rw [← hBB]; exact hgB)).trans HB3.out.2)
    have hbw5 : Below w.heap.size w w5 := bel_trans (bel_trans HB3.out.1 hb4) hb5
    have hBl : B ≤ lb := by rw [hlb, hBB]; exact hb4.size
    rw [← hBB] at hm5
    have HX : Hid (∀ x : World, Below B w5 x → x.heap[gb]? = some (.cells #[.int .i64 (N : Int), .int .i64 20, .int .i64 6, .int .i64 256] 49 (0, 0)) ∧ Below w.heap.size w x) := Lib.hid fun x hx => ⟨(hx.block gb hgB).trans hg5, hbw5.trans (hx.mono hwB)⟩
    have HBL := Lib.hid (And.intro hBl hwB)
    have HI0 : Hid (WI w w5 B rb lb N 0 PtD.zero ptZero w5) := Lib.hid ⟨⟨_, 0, _, hm5, Nat.le_refl _, .inl ⟨rfl, rfl, rfl⟩, rfl, hfr⟩, Nat.zero_le _, ⟨rfl, rfl, rfl, rfl, Nat.zero_le _, Nat.zero_le _⟩, ptZero_ok w, hl5, Below.refl _ _⟩
    clear hr hb4 hb5 hl5 hm5 hfr hBB hwB hgB hg5 hbw5 hBl g0 g1 g2 g3
    go_upto_region 7 with fail
    rw [← hw5, ← hlb]
    clear hw5 hlb
    go_wp2_with fail
    go_loopw [9, 11, 12] (fun qv sv iv wr => ∃ (k : Nat) (x : PtD) (T : PT), k ≤ n ∧ iv = .int .i64 (k : Int) ∧ qv = .int .u32 (x.q : Int) ∧ sv = .bool x.f ∧ WI w w5 B rb lb N k x T wr) (fun _ _ iv _ => n - (intOf iv).toNat)
    case atStart => exact ⟨0, PtD.zero, ptZero, Nat.zero_le _, rfl, rfl, rfl, HI0.out⟩
    case round =>
      obtain ⟨k, x, T, hk, rfl, rfl, rfl, hI⟩ := hrel
      have HI := Lib.hid hI
      clear hI
      by_cases hlt : k < n
      · have t1 : decide ((k : Int) < (n : Int)) = true := by simp; omega
        have hlt' : decide (k < n) = true := by simpa using hlt
        have h6 : k < 6 := by omega
        obtain ⟨b, off, ha, hcl⟩ := HP.out.1 (by omega)
        obtain ⟨p, hp⟩ : ∃ p, p = P k := ⟨_, rfl⟩
        have hpo := HP.out.2 k hlt
        have hbw := (HX.out wr HI.out.bel).2
        obtain ⟨y0, y1, y2, y3⟩ := hcl k hlt
        rw [← hp] at hpo y0 y1 y2 y3
        have z0 := cell_step y0 hbw
        have z1 := cell_step y1 hbw
        have z2 := cell_step y2 hbw
        have z3 := cell_step y3 hbw
        obtain ⟨sq, ba, ma, mn, mc, ml, ea, en, ec, el⟩ := p
        simp only at z0 z1 z2 z3
        have HPO := Lib.hid hpo
        subst ha
        have i0 : (0 : Int) ≤ (k : Int) := by omega
        have i1 : (k : Int) < (n : Int) := by omega
        have HBw := Lib.hid (And.intro hbw (show B ≤ wr.heap.size by have h1 := HI.out.bel.size; have h2 := (Array.getElem?_eq_some_iff.1 HI0.out.last).1; have h3 := HBL.out.1; omega))
        clear hcl hp hpo hbw y0 y1 y2 y3
        obtain ⟨w6, hw6⟩ : ∃ y, y = wr.alloc (.cells #[.int .u32 (sq : Int), .int .u32 (ba : Int), .slice ma mn mc, .slice ea en ec] 25) := ⟨_, rfl⟩
        obtain ⟨kb, hkb⟩ : ∃ y, y = wr.heap.size := ⟨_, rfl⟩
        have hb6 : Below wr.heap.size wr w6 := by rw [hw6]; exact bel_alloc (Below.refl _ _) _
        have hk6 : w6.heap[kb]? = some (.cells #[.int .u32 (sq : Int), .int .u32 (ba : Int), .slice ma mn mc, .slice ea en ec] 25 (0, 0)) := by rw [hw6, hkb]; exact heap_alloc_new _ _
        have hlk : lb ≠ kb := by have := (Array.getElem?_eq_some_iff.1 HI.out.last).1; omega
        obtain ⟨s, cc, X, hM, hck, hLX, hrb, hnl⟩ := HI.out.mem
        have hnk : ¬ s.ob kb := hM.ram.fresh (Nat.le_of_eq hkb.symm)
        have HM := Lib.hid (And.intro hM (And.intro hck (And.intro hLX (And.intro hnl (And.intro hnk hlk)))))
        subst hrb
        have HK6 := Lib.hid (And.intro hb6 (And.intro hk6 (show wr.heap.size ≤ kb by rw [hkb]; exact Nat.le_refl _)))
        obtain ⟨⟨x0, x1, x2, x3⟩, -⟩ := pt_four' hk6
        clear hb6 hk6 hlk hM hck hLX hnl hnk
        go_upto_region 12 with fail
        rw [← hw6, ← hkb]
        clear hw6 hkb z0 z1 z2 z3
        go_wp2_with fail
        ((with_reducible refine (ptLight_any sq ba ma mn mc ea en ec w6).mono ?_))
        rintro e w7 ⟨rfl, hb7⟩
        have HB7 := Lib.hid (And.intro hb7 ((hb7.block kb (Array.getElem?_eq_some_iff.1 HK6.out.2.1).1).trans HK6.out.2.1))
        have HBW7 : Hid (Below w.heap.size w w7) := Lib.hid (HBw.out.1.trans ((bel_trans HK6.out.1 hb7).mono HBw.out.1.size))
        clear hb7 x0 x1 x2 x3
        by_cases hl : mn ≤ 900 ∧ en ≤ 100
        · have hdl : decide (mn ≤ 900 ∧ en ≤ 100) = true := by simpa using hl
          rw [hdl]
          clear hdl
          have hq6 : x.q ≤ 12000 := by have := HI.out.q; omega
          obtain ⟨r, hr⟩ : ∃ r, r = sq % 1000 := ⟨_, rfl⟩
          have hr1 : r < 1000 := by omega
          obtain ⟨qq, hqq⟩ : ∃ y, y = x.q + 1 + r * 2 := ⟨_, rfl⟩
          have u1 : IntKind.u32.wrap ((x.q : Int) + 1) = (x.q : Int) + 1 := by rw [IntKind.wrap_u32]; omega
          have u2 : (sq : Int).tmod 1000 = (r : Int) := by rw [Int.tmod_eq_emod_of_nonneg (by omega)]; omega
          have u3 : IntKind.u32.wrap ((r : Int) * 2) = (r : Int) * 2 := by rw [IntKind.wrap_u32]; omega
          have u4 : IntKind.u32.wrap ((x.q : Int) + 1 + (r : Int) * 2) = (qq : Int) := by rw [IntKind.wrap_u32]; omega
          have HQ := Lib.hid (show x.q < qq ∧ qq % 2 = (x.q + 1) % 2 ∧ qq ≤ x.q + 2000 ∧ qq < 4294967296 by omega)
          have HL := Lib.hid hl
          obtain ⟨⟨x0, x1, x2, x3⟩, xf⟩ := pt_four' HB7.out.2
          clear hq6 hr hr1 hqq hl
          go_upto_region 16 with fail
          obtain ⟨w8, hw8⟩ : ∃ y, y = w7.setCell ⟨kb, 0, none⟩ (.int .u32 (qq : Int)) := ⟨_, rfl⟩
          have hk8 : w8.heap[kb]? = some (.cells #[.int .u32 (qq : Int), .int .u32 (ba : Int), .slice ma mn mc, .slice ea en ec] 25 (0, 0)) := by rw [hw8]; simpa using heap_setCell_same w7 kb 0 _ _ (.int .u32 (qq : Int)) HB7.out.2
          have hb8 : Below wr.heap.size wr w8 := by rw [hw8]; exact (bel_trans HK6.out.1 HB7.out.1).setCell (p := ⟨kb, 0, none⟩) HK6.out.2.2 _
          have hbw8 : Below w.heap.size w w8 := HBw.out.1.trans (hb8.mono HBw.out.1.size)
          rw [← hw8]
          have hpo := (PT.Ok.seq HPO.out HQ.out.2.2.2).step hbw8
          have HOF := Lib.hid (ptOf_any qq ba ma mn mc ml ea en ec el w8 hpo (by have := HL.out; omega) (by have := HL.out; omega))
          obtain ⟨⟨y0, y1, y2, y3⟩, -⟩ := pt_four' hk8
          have HK8 := Lib.hid (And.intro hk8 (And.intro hb8 hbw8))
          clear hw8 hk8 hb8 hbw8 hpo x0 x1 x2 x3 xf u1 u2 u3 u4
          go_wp2_with fail
          ((with_reducible refine HOF.out.mono ?_))
          rintro e w9 ⟨a8, c8, a9, c9, rfl, hk8, hk9, hb9⟩
          have HEN := Lib.hid (refPtEncode_any qq ba a8 mn c8 ml a9 en c9 el w9 HQ.out.2.2.2 HPO.out.ba_ hk8 hk9 (by have := HL.out; omega) (by have := HL.out; omega))
          have hml : ml.length = mn := HPO.out.ml_.1
          have hel : el.length = en := HPO.out.el_.1
          obtain ⟨bl, hbl⟩ : ∃ x, x = (ptB qq ba ml el).length := ⟨_, rfl⟩
          have hblv : bl = 16 + 4 * mn + 4 * en := by rw [hbl, ptB_len, hml, hel]
          obtain ⟨many, hmany⟩ : ∃ x, x = manyOf 256 (16 + 4 * ml.length + 4 * el.length) := ⟨_, rfl⟩
          have hmv : many = (bl + 255) / 256 := by rw [hmany, hml, hel, hblv]; unfold manyOf; rfl
          have hL := HL.out
          have hn5 := HN5.out
          have u1 : IntKind.i64.wrap ((bl : Int) + 255) = (bl : Int) + 255 := wrap_of (by omega) (by omega)
          have u2 : ((bl : Int) + 255).tdiv 256 = (many : Int) := by rw [Int.tdiv_eq_ediv_of_nonneg (by omega)]; omega
          have u3 : IntKind.i64.wrap ((N : Int) - 1) = (N : Int) - 1 := wrap_of (by omega) (by omega)
          have u4 : IntKind.i64.wrap (6 * ((N : Int) - 1)) = 6 * ((N : Int) - 1) := wrap_of (by omega) (by omega)
          have u5 : IntKind.i64.wrap (many : Int) = (many : Int) := wrap_of (by omega) (by omega)
          have HMA := Lib.hid (And.intro hmany (And.intro hml hel))
          have HB9 := Lib.hid hb9
          clear hk8 hk9 hb9 hml hel hblv hmany hmv hL hn5 y0 y1 y2 y3
          go_wp2_with fail
          ((with_reducible refine HEN.out.mono ?_))
          rintro e w10 ⟨v10, rfl, ho10, hb10⟩
          obtain ⟨a10, c10, rfl, -, -⟩ := row_of_own ho10
          rw [← hbl]
          have hb810 := bel_trans HB9.out hb10
          have hbr10 : Below wr.heap.size wr w10 := HK8.out.2.1.trans (hb810.mono HK8.out.2.1.size)
          have hk10 := (hb810.block kb (Array.getElem?_eq_some_iff.1 HK8.out.1).1).trans HK8.out.1
          have hpo10 := (PT.Ok.seq HPO.out HQ.out.2.2.2).step (HBw.out.1.trans (hbr10.mono HBw.out.1.size))
          have hm10 := HM.out.1.step hbr10
          have HM10 := Lib.hid (And.intro hm10 (And.intro hbr10 hk10))
          obtain ⟨⟨y0, y1, y2, y3⟩, -⟩ := pt_four' hk10
          clear ho10 hb10 hb810 hbl
          by_cases hfit : many ≤ 6 * (N - 1)
          · have hfd : decide (6 * ((N : Int) - 1) < (many : Int)) = false := by simp; have := HN5.out; omega
            have HW := Lib.hid (mem2_write hm10 (by have := HM.out.2.1; omega) qq ba ma mn mc ml ea en ec el hpo10 (by have := HL.out; omega) (by have := HL.out; omega) (by rw [← HMA.out.1]; exact hfit))
            clear hm10 hbr10 hk10 hpo10 hfit
            go_wp2_with fail
            ((with_reducible refine HW.out.mono ?_))
            rintro e w11 ⟨s', rfl, hm11, hst⟩
            have hB11 : Below B wr w11 := (HM10.out.2.1.mono HBw.out.2).trans (HM10.out.1.below hst)
            have hc11 : Below B w5 w11 := HI.out.bel.trans hB11
            have hl10 := (HM10.out.2.1.block lb (Array.getElem?_eq_some_iff.1 HI.out.last).1).trans HI.out.last
            obtain ⟨hnl', hl11⟩ := hst.block lb (Array.getElem?_eq_some_iff.1 hl10).1 HM.out.2.2.2.1
            obtain ⟨hnk', hk11⟩ := hst.block kb (Array.getElem?_eq_some_iff.1 HM10.out.2.2).1 HM.out.2.2.2.2.1
            have hl11 := hl11.trans hl10
            have hk11 := hk11.trans HM10.out.2.2
            obtain ⟨⟨x0, x1, x2, x3⟩, -⟩ := pt_four' hk11
            obtain ⟨⟨z0, z1, z2, z3⟩, -⟩ := pt_four' hl11
            obtain ⟨f0, f1, f2, f3⟩ := pt_freeW hl11
            obtain ⟨g0, g1, g2, g3⟩ := four_at (HX.out w11 hc11).1
            have HNX : Hid (WI w w5 B s.rb lb N (k + 1) ⟨true, qq, ba, ml, el, qq⟩ ⟨qq, ba, ma, mn, mc, ml, ea, en, ec, el⟩ ((((w11.setCell ⟨lb, 0, none⟩ (.int .u32 (qq : Int))).setCell ⟨lb, 1, none⟩ (.int .u32 (ba : Int))).setCell ⟨lb, 2, none⟩ (.slice ma mn mc)).setCell ⟨lb, 3, none⟩ (.slice ea en ec))) := Lib.hid
              ⟨⟨s', cc + 1, _, hm11.setBox hl11 hnl' HBL.out.1 _ _ _ _, by have := HM.out.2.1; omega, HM.out.2.2.1.more qq ba ml el HQ.out.1 HQ.out.2.1, hst.same.1, hnl'⟩, by have h1 := HQ.out.2.2.1; have h2 := HI.out.q; show qq ≤ 2000 * (k + 1); omega, ⟨rfl, rfl, rfl, rfl, HL.out.1, HL.out.2⟩, PT.Ok.seq HPO.out HQ.out.2.2.2, pt_put4 hl11 _ _ _ _, pt4_set hc11 HBL.out.1 _ _ _ _⟩
            clear hm11 hst hB11 hc11 hl10 hnl' hnk' hl11 hk11 y0 y1 y2 y3
            go_wp2_with fail
            go_roundw
            case rel => exact ⟨k + 1, ⟨true, qq, ba, ml, el, qq⟩, _, by omega, by go_num, rfl, rfl, HNX.out⟩
            case measure => simp [intOf]; omega
          · have hfd : decide (6 * ((N : Int) - 1) < (many : Int)) = true := by simp; have := HN5.out; omega
            have HW := Lib.hid (ptWrite_no hm10.ram qq ba ma mn mc ml ea en ec el hpo10 (by have := HL.out; omega) (by have := HL.out; omega) (by rw [hm10.pg_, hm10.n_, hm10.sz_, ← HMA.out.1]; omega))
            clear hm10 hbr10 hk10 hpo10 hfit
            go_wp2_with fail
            ((with_reducible refine HW.out.mono ?_))
            rintro e w11 ⟨rfl, hb11⟩
            have hbr11 := HM10.out.2.1.trans (hb11.mono HM10.out.2.1.size)
            have hI11 := HI.out.step hbr11 HBw.out.2
            obtain ⟨⟨z0, z1, z2, z3⟩, -⟩ := pt_four' hI11.last
            rw [hI11.t.1] at z0
            obtain ⟨g0, g1, g2, g3⟩ := four_at (HX.out w11 hI11.bel).1
            have HNX : Hid (WI w w5 B s.rb lb N (k + 1) x T w11) := Lib.hid ⟨by obtain ⟨s2, c2, X2, m1, m2, m3⟩ := hI11.mem; exact ⟨s2, c2, X2, m1, by omega, m3⟩, by have := hI11.q; omega, hI11.t, hI11.ok, hI11.last, hI11.bel⟩
            clear hb11 hbr11 hI11 y0 y1 y2 y3
            go_wp2_with fail
            go_roundw
            case rel => exact ⟨k + 1, x, T, by omega, by go_num, rfl, rfl, HNX.out⟩
            case measure => simp [intOf]; omega
        · have hdl : decide (mn ≤ 900 ∧ en ≤ 100) = false := by simpa using hl
          rw [hdl]
          clear hdl hl
          go_wp2_with fail
          go_ret
          exact ⟨rfl, HBW7.out⟩
      · obtain rfl : k = n := by omega
        have t1 : decide ((k : Int) < (k : Int)) = false := by simp
        have hlt' : decide (k < k) = false := by simp
        obtain ⟨s, cc, X, hM, hck, hLX, hrb, hnl⟩ := HI.out.mem
        subst hrb
        have hT := HI.out.t
        have hPO := HI.out.ok
        have hlast := HI.out.last
        have hbel := HI.out.bel
        have hE : ∀ (y : World) (s' : RS), Ram B s' y → Alive s' → s'.sz ≤ 1000 → PtD.In s' 2 (X 0) → PtD.In s' 3 (X 1) → _ := fun y s' a1 a2 a3 a4 a5 => ptEnds a1 a2 a3 hLX a4 a5
        clear HI hLX
        obtain ⟨xf, xq, xb, xm, xe, xt⟩ := x
        obtain ⟨tq, tb, ta, tn, tc, tl, ua, un, uc, ul⟩ := T
        simp only at hT hlast hE
        obtain ⟨h1, h2, h3, h4, hn9, hn1⟩ := hT
        subst h1 h2 h3 h4
        obtain ⟨tr, htr⟩ : ∃ y, y = tq % 2 := ⟨_, rfl⟩
        simp only [← htr] at hE
        have htr2 : tr < 2 := by omega
        have HPO := Lib.hid hPO
        have HE := Lib.hid hE
        have HN := Lib.hid (And.intro hn9 hn1)
        have HM := Lib.hid (And.intro hM hnl)
        have HLA := Lib.hid (And.intro hlast hbel)
        have hBw : B ≤ wr.heap.size := by have := HBL.out.1; have := (Array.getElem?_eq_some_iff.1 hlast).1; omega
        have HBW := Lib.hid hBw
        have hc5 := hM.ram.c.2.2.2.2.2.1
        obtain ⟨g0, g1, g2, g3⟩ := four_at (HX.out wr hbel).1
        have e1 : (xf != xf) = false := by simp
        have e2 : ((tq : Int) != (tq : Int)) = false := by simp
        have e3 : (tq : Int).tmod 2 = (tr : Int) := by rw [Int.tmod_eq_emod_of_nonneg (by omega)]; omega
        have e4 : IntKind.i64.wrap (tr : Int) = (tr : Int) := wrap_of (by omega) (by omega)
        have e5 : IntKind.u32.wrap (tr : Int) = (tr : Int) := by rw [IntKind.wrap_u32]; omega
        clear htr htr2 hM hck hnl hlt hk hE hPO hn9 hn1 hlast hbel hBw
        by_cases hd0 : 0 ≤ d
        · have dd0 : decide ((0 : Int) ≤ d) = true := by simpa using hd0
          obtain ⟨D, hD⟩ : ∃ D : Nat, d.tmod (N : Int) = (D : Int) := ⟨(d.tmod (N : Int)).toNat, by have := Int.tmod_nonneg (N : Int) hd0; omega⟩
          have hDN : D < N := by have := Int.tmod_lt_of_pos d (show (0 : Int) < (N : Int) by have := HN5.out; omega); omega
          have u2 : IntKind.i64.wrap (D : Int) = (D : Int) := wrap_of (by have := HN5.out; omega) (by have := HN5.out; omega)
          have n0 : (N = 0) = False := eq_false (by have := HN5.out; omega)
          have hZW : Below wr.heap.size wr wr.drew := (Below.refl _ _).drew
          have hRz := HM.out.1.ram.step hZW
          obtain ⟨w13, hup, k1, k2⟩ := ram_die hRz D (by have := HN5.out; omega)
          have hRw := HX.out wr.drew (HLA.out.2.trans (hZW.mono HBW.out))
          have hB13 : Below B wr w13 := (hZW.mono HBW.out).trans (k2.below hRz HBW.out)
          have hcz := hRz.c.2.2.2.2.2.1
          have hS0 : wr.drew.cell? ⟨s.rb, 5, none⟩ = some (.map (some s.gb)) ∧ wr.drew.cell? ⟨gb, 0, none⟩ = some (.int .i64 (N : Int)) := ⟨hcz, (four_at hRw.1).1⟩
          have hS13 : w13.cell? ⟨s.rb, 5, none⟩ = some (.map (some s.gb)) ∧ w13.cell? ⟨gb, 0, none⟩ = some (.int .i64 (N : Int)) := ⟨k1.c.2.2.2.2.2.1, (four_at (HX.out w13 (HLA.out.2.trans hB13)).1).1⟩
          have hEE := HE.out w13 (s.kill D) k1 (alive_kill HM.out.1.live D (by rw [HM.out.1.n_]; exact hDN)) (by show s.sz ≤ 1000; rw [HM.out.1.sz_]; decide) (HM.out.1.s0.kill HM.out.1.live D) (HM.out.1.s1.kill HM.out.1.live D)
          change Calls Tryz.prog 22 #[.iface 51 (.pointer (some ⟨s.rb, 0, none⟩))] w13 _ ∧ ∀ y : World, Below w13.heap.size w13 y → Calls Tryz.prog 23 #[.iface 51 (.pointer (some ⟨s.rb, 0, none⟩)), .int .i64 (tr : Int)] y _ at hEE
          have HEE := Lib.hid hEE
          have hl13 := (k2.block lb (Nat.lt_of_lt_of_le (Array.getElem?_eq_some_iff.1 HLA.out.1).1 hZW.size) HM.out.2).2.trans ((hZW.block lb (Array.getElem?_eq_some_iff.1 HLA.out.1).1).trans HLA.out.1)
          have H13 := Lib.hid (And.intro hl13 (And.intro (HLA.out.2.trans hB13) (Nat.le_trans HBW.out k2.size)))
          clear hZW hRz k1 k2 hRw hB13 hcz hEE hl13
          go_upto_region 26 with fail
          go_region_held3 (fun x => x.cell? ⟨s.rb, 5, none⟩ = some (.map (some s.gb)) ∧ x.cell? ⟨gb, 0, none⟩ = some (.int .i64 (N : Int)))
            (first | with_reducible exact hS0 | with_reducible exact hS13 | go_keep) (fail)
          all_goals
            clear hS0 hS13 hup
            go_wp2_with fail
            ((with_reducible refine HEE.out.1.mono ?_))
            rintro e w14 ⟨hb14, v1, v2, rfl, ho1, ho2⟩
            obtain ⟨ya, yc, rfl, hq1⟩ := ownU_row ho1 HPO.out.ml_.2.1
            obtain ⟨za, zc, rfl, hq2⟩ := ownU_row ho2 HPO.out.el_.2.1
            have hnl : tl.length = tn := HPO.out.ml_.1
            have hfl : ul.length = un := HPO.out.el_.1
            rw [hnl] at hq1 ⊢
            rw [hfl] at hq2 ⊢
            have hpq : PT.Ok ⟨tq, tb, ya, tn, yc, tl, za, un, zc, ul⟩ w14 := ⟨HPO.out.sq_, HPO.out.ba_, hq1, hq2⟩
            have hc14 : Below B w5 w14 := H13.out.2.1.trans (hb14.mono H13.out.2.2)
            obtain ⟨w15, hw15⟩ : ∃ x, x = w14.alloc (.cells #[.int .u32 (tq : Int), .int .u32 (tb : Int), .slice ya tn yc, .slice za un zc] 25) := ⟨_, rfl⟩
            obtain ⟨qb, hqb⟩ : ∃ x, x = w14.heap.size := ⟨_, rfl⟩
            have hb15 : Below w14.heap.size w14 w15 := by rw [hw15]; exact bel_alloc (Below.refl _ _) _
            have hq15 : w15.heap[qb]? = some (.cells #[.int .u32 (tq : Int), .int .u32 (tb : Int), .slice ya tn yc, .slice za un zc] 25 (0, 0)) := by rw [hw15, hqb]; exact heap_alloc_new _ _
            have hql : qb < w15.heap.size := (Array.getElem?_eq_some_iff.1 hq15).1
            have hB14 : B ≤ w14.heap.size := Nat.le_trans H13.out.2.2 hb14.size
            have hc15 : Below B w5 w15 := hc14.trans (hb15.mono hB14)
            have hb1315 : Below w13.heap.size w13 w15 := bel_trans hb14 hb15
            have hl15 := (hb1315.block lb (Array.getElem?_eq_some_iff.1 H13.out.1).1).trans H13.out.1
            have hll : lb < w15.heap.size := (Array.getElem?_eq_some_iff.1 hl15).1
            have HY : Hid (∀ x : World, Below w15.heap.size w15 x → ((x.cell? ⟨lb, 0, none⟩ = some (.int .u32 (tq : Int)) ∧ x.cell? ⟨lb, 1, none⟩ = some (.int .u32 (tb : Int)) ∧ x.cell? ⟨lb, 2, none⟩ = some (.slice ta tn tc) ∧ x.cell? ⟨lb, 3, none⟩ = some (.slice ua un uc)) ∧ (x.cell? ⟨qb, 0, none⟩ = some (.int .u32 (tq : Int)) ∧ x.cell? ⟨qb, 1, none⟩ = some (.int .u32 (tb : Int)) ∧ x.cell? ⟨qb, 2, none⟩ = some (.slice ya tn yc) ∧ x.cell? ⟨qb, 3, none⟩ = some (.slice za un zc))) ∧ Below w.heap.size w x ∧ PT.Ok ⟨tq, tb, ta, tn, tc, tl, ua, un, uc, ul⟩ x ∧ PT.Ok ⟨tq, tb, ya, tn, yc, tl, za, un, zc, ul⟩ x ∧ Below w13.heap.size w13 x) := Lib.hid fun x hx => by
              have h2 := (HX.out x (hc15.trans (hx.mono (Nat.le_trans hB14 hb15.size)))).2
              exact ⟨⟨(pt_four' ((hx.block lb hll).trans hl15)).1, (pt_four' ((hx.block qb hql).trans hq15)).1⟩, h2, HPO.out.step h2, (hpq.step hb15).step hx, bel_trans hb1315 hx⟩
            have HO : Hid (∀ (x : World) (na : Option Addr) (nc : Nat) (fa : Option Addr) (fc : Nat), PT.Ok ⟨tq, tb, na, tn, nc, tl, fa, un, fc, ul⟩ x → Calls Tryz.prog 15 #[.agg #[.int .u32 (tq : Int), .int .u32 (tb : Int), .slice na tn nc, .slice fa un fc]] x fun e w' => ∃ a c a2 c2, e = .returned (.agg #[.int .i64 (tq : Int), .int .i64 (tb : Int), .slice a tn c, .slice a2 un c2]) ∧ RowK .i64 4294967296 w' a tn tl ∧ RowK .i64 4294967296 w' a2 un ul ∧ Below x.heap.size x w') := Lib.hid fun x na nc fa fc h => ptOf_any tq tb na tn nc tl fa un fc ul x h (by have := HN.out; omega) (by have := HN.out; omega)
            have HSA2 : Hid (∀ (x : World) (a c : Option Addr) (b d : Option Addr) (e f g h : Nat), RowK .i64 4294967296 x a tn tl → RowK .i64 4294967296 x b un ul → RowK .i64 4294967296 x c tn tl → RowK .i64 4294967296 x d un ul → Calls Tryz.prog 16 #[.agg #[.int .i64 (tq : Int), .int .i64 (tb : Int), .slice a tn e, .slice b un f], .agg #[.int .i64 (tq : Int), .int .i64 (tb : Int), .slice c tn g, .slice d un h]] x fun e w' => e = .returned (.bool true) ∧ Below x.heap.size x w') := Lib.hid fun x a c b d e f g h h1 h2 h3 h4 => ptSame_any tq tb a tn e tl b un f ul c g d h x HPO.out.sq_ HPO.out.ba_ h1 h2 h3 h4 (by have := HN.out; omega) (by have := HN.out; omega)
            have HB9 : Hid (Below w15.heap.size w15 w15.drew) := Lib.hid (Below.refl _ _).drew
            have hS0 := (HY.out _ HB9.out).1
            go_upto_region 28 with fail
            rw [← hw15, ← hqb]
            clear hw15 hqb hb14 ho1 ho2 hq1 hq2 hnl hfl hpq hc14 hb15 hq15 hql hB14 hc15 hb1315 hl15 hll
            go_region_held3 (fun x => (x.cell? ⟨lb, 0, none⟩ = some (.int .u32 (tq : Int)) ∧ x.cell? ⟨lb, 1, none⟩ = some (.int .u32 (tb : Int)) ∧ x.cell? ⟨lb, 2, none⟩ = some (.slice ta tn tc) ∧ x.cell? ⟨lb, 3, none⟩ = some (.slice ua un uc)) ∧ (x.cell? ⟨qb, 0, none⟩ = some (.int .u32 (tq : Int)) ∧ x.cell? ⟨qb, 1, none⟩ = some (.int .u32 (tb : Int)) ∧ x.cell? ⟨qb, 2, none⟩ = some (.slice ya tn yc) ∧ x.cell? ⟨qb, 3, none⟩ = some (.slice za un zc)))
              (first | with_reducible exact hS0 | with_reducible exact hS1 | with_reducible exact hS2 | with_reducible exact hS3)
              (first
                | (go_simp; go_at_call 15; ((with_reducible refine (HO.out _ ya yc za zc (HY.out _ HB9.out).2.2.2.1).mono ?_)); (rintro e x1 ⟨a5, c5, a6, c6, rfl, hk5, hk6, hb5⟩; have HC1 := Lib.hid (HB9.out.trans (hb5.mono HB9.out.size)); have HK5 := Lib.hid (And.intro hk5 hk6); have hS1 := (HY.out _ HC1.out).1; clear hk5 hk6 hb5))
                | (go_simp; go_at_call 15; ((with_reducible refine (HO.out _ ta tc ua uc (HY.out _ HC1.out).2.2.1).mono ?_)); (rintro e x2 ⟨a7, c7, a8, c8, rfl, hk7, hk8, hb6⟩; have HC2 := Lib.hid (HC1.out.trans (hb6.mono HC1.out.size)); have HK6 := Lib.hid (And.intro (And.intro (rowK_below HK5.out.1 hb6) (rowK_below HK5.out.2 hb6)) (And.intro hk7 hk8)); have hS2 := (HY.out _ HC2.out).1; clear hk7 hk8 hb6))
                | (go_simp; go_at_call 16; ((with_reducible refine (HSA2.out _ _ _ _ _ _ _ _ _ HK6.out.1.1 HK6.out.1.2 HK6.out.2.1 HK6.out.2.2).mono ?_)); (rintro e x3 ⟨rfl, hb7'⟩; have HC3 := Lib.hid (HC2.out.trans (hb7'.mono HC2.out.size)); have hS3 := (HY.out _ HC3.out).1; clear hb7')))
            all_goals
              clear hS0 hS1 hS2 hS3 HB9 HC1 HC2 HK5 HK6
              obtain ⟨⟨a0, a1, a2, a3⟩, -⟩ := (HY.out _ HC3.out).1
              go_wp2_with fail
              ((with_reducible refine (HEE.out.2 _ (HY.out _ HC3.out).2.2.2.2).mono ?_))
              rintro e w17 ⟨hb17, v3, v4, rfl, ho3, ho4⟩
              obtain ⟨ra, rc, rfl, hr1⟩ := ownU_row ho3 HPO.out.ml_.2.1
              obtain ⟨qa, qc, rfl, hr2⟩ := ownU_row ho4 HPO.out.el_.2.1
              have hnl : tl.length = tn := HPO.out.ml_.1
              have hfl : ul.length = un := HPO.out.el_.1
              rw [hnl] at hr1 ⊢
              rw [hfl] at hr2 ⊢
              have hpq : PT.Ok ⟨tq, tb, ra, tn, rc, tl, qa, un, qc, ul⟩ w17 := ⟨HPO.out.sq_, HPO.out.ba_, hr1, hr2⟩
              obtain ⟨w18, hw18⟩ : ∃ x, x = w17.alloc (.cells #[.int .u32 (tq : Int), .int .u32 (tb : Int), .slice ra tn rc, .slice qa un qc] 25) := ⟨_, rfl⟩
              obtain ⟨pb, hpb⟩ : ∃ x, x = w17.heap.size := ⟨_, rfl⟩
              have hb18 : Below w17.heap.size w17 w18 := by rw [hw18]; exact bel_alloc (Below.refl _ _) _
              have hp18 : w18.heap[pb]? = some (.cells #[.int .u32 (tq : Int), .int .u32 (tb : Int), .slice ra tn rc, .slice qa un qc] 25 (0, 0)) := by rw [hw18, hpb]; exact heap_alloc_new _ _
              have hpl : pb < w18.heap.size := (Array.getElem?_eq_some_iff.1 hp18).1
              have hb1518 : Below w15.heap.size w15 w18 := HC3.out.trans ((bel_trans hb17 hb18).mono HC3.out.size)
              have HZ : Hid (∀ x : World, Below w18.heap.size w18 x → ((x.cell? ⟨lb, 0, none⟩ = some (.int .u32 (tq : Int)) ∧ x.cell? ⟨lb, 1, none⟩ = some (.int .u32 (tb : Int)) ∧ x.cell? ⟨lb, 2, none⟩ = some (.slice ta tn tc) ∧ x.cell? ⟨lb, 3, none⟩ = some (.slice ua un uc)) ∧ (x.cell? ⟨pb, 0, none⟩ = some (.int .u32 (tq : Int)) ∧ x.cell? ⟨pb, 1, none⟩ = some (.int .u32 (tb : Int)) ∧ x.cell? ⟨pb, 2, none⟩ = some (.slice ra tn rc) ∧ x.cell? ⟨pb, 3, none⟩ = some (.slice qa un qc))) ∧ Below w.heap.size w x ∧ PT.Ok ⟨tq, tb, ta, tn, tc, tl, ua, un, uc, ul⟩ x ∧ PT.Ok ⟨tq, tb, ra, tn, rc, tl, qa, un, qc, ul⟩ x) := Lib.hid fun x hx => by
                obtain ⟨h1, h2, h3, -, -⟩ := HY.out x (hb1518.trans (hx.mono hb1518.size))
                exact ⟨⟨h1.1, (pt_four' ((hx.block pb hpl).trans hp18)).1⟩, h2, h3, (hpq.step hb18).step hx⟩
              have HB9 : Hid (Below w18.heap.size w18 w18.drew) := Lib.hid (Below.refl _ _).drew
              have hS0 := (HZ.out _ HB9.out).1
              go_upto_region 31 with fail
              rw [← hw18, ← hpb]
              clear hw18 hpb hb17 ho3 ho4 hr1 hr2 hnl hfl hpq hb18 hp18 hpl hb1518 a0 a1 a2 a3
              go_region_held3 (fun x => (x.cell? ⟨lb, 0, none⟩ = some (.int .u32 (tq : Int)) ∧ x.cell? ⟨lb, 1, none⟩ = some (.int .u32 (tb : Int)) ∧ x.cell? ⟨lb, 2, none⟩ = some (.slice ta tn tc) ∧ x.cell? ⟨lb, 3, none⟩ = some (.slice ua un uc)) ∧ (x.cell? ⟨pb, 0, none⟩ = some (.int .u32 (tq : Int)) ∧ x.cell? ⟨pb, 1, none⟩ = some (.int .u32 (tb : Int)) ∧ x.cell? ⟨pb, 2, none⟩ = some (.slice ra tn rc) ∧ x.cell? ⟨pb, 3, none⟩ = some (.slice qa un qc)))
                (first | with_reducible exact hS0 | with_reducible exact hS1 | with_reducible exact hS2 | with_reducible exact hS3)
                (first
                  | (go_simp; go_at_call 15; ((with_reducible refine (HO.out _ ra rc qa qc (HZ.out _ HB9.out).2.2.2).mono ?_)); (rintro e y1 ⟨a5, c5, a6, c6, rfl, hk5, hk6, hb5⟩; have HC1 := Lib.hid (HB9.out.trans (hb5.mono HB9.out.size)); have HK5 := Lib.hid (And.intro hk5 hk6); have hS1 := (HZ.out _ HC1.out).1; clear hk5 hk6 hb5))
                  | (go_simp; go_at_call 15; ((with_reducible refine (HO.out _ ta tc ua uc (HZ.out _ HC1.out).2.2.1).mono ?_)); (rintro e y2 ⟨a7, c7, a8, c8, rfl, hk7, hk8, hb6⟩; have HC2 := Lib.hid (HC1.out.trans (hb6.mono HC1.out.size)); have HK6 := Lib.hid (And.intro (And.intro (rowK_below HK5.out.1 hb6) (rowK_below HK5.out.2 hb6)) (And.intro hk7 hk8)); have hS2 := (HZ.out _ HC2.out).1; clear hk7 hk8 hb6))
                  | (go_simp; go_at_call 16; ((with_reducible refine (HSA2.out _ _ _ _ _ _ _ _ _ HK6.out.1.1 HK6.out.1.2 HK6.out.2.1 HK6.out.2.2).mono ?_)); (rintro e y3 ⟨rfl, hb7'⟩; have HC4 := Lib.hid (HC2.out.trans (hb7'.mono HC2.out.size)); have hS3 := (HZ.out _ HC4.out).1; clear hb7')))
              all_goals
                go_wp2
                go_ret
                exact ⟨rfl, (HZ.out _ HC4.out).2.1⟩
        · have dd0 : decide ((0 : Int) ≤ d) = false := by simpa using hd0
          have hEE := HE.out wr s HM.out.1.ram (.inl HM.out.1.live) (by rw [HM.out.1.sz_]; decide) HM.out.1.s0 HM.out.1.s1
          have HEE := Lib.hid hEE
          have H13 := Lib.hid (And.intro HLA.out.1 (And.intro HLA.out.2 HBW.out))
          clear hEE
          go_wp2_with fail
          ((with_reducible refine HEE.out.1.mono ?_))
          rintro e w14 ⟨hb14, v1, v2, rfl, ho1, ho2⟩
          obtain ⟨ya, yc, rfl, hq1⟩ := ownU_row ho1 HPO.out.ml_.2.1
          obtain ⟨za, zc, rfl, hq2⟩ := ownU_row ho2 HPO.out.el_.2.1
          have hnl : tl.length = tn := HPO.out.ml_.1
          have hfl : ul.length = un := HPO.out.el_.1
          rw [hnl] at hq1 ⊢
          rw [hfl] at hq2 ⊢
          have hpq : PT.Ok ⟨tq, tb, ya, tn, yc, tl, za, un, zc, ul⟩ w14 := ⟨HPO.out.sq_, HPO.out.ba_, hq1, hq2⟩
          have hc14 : Below B w5 w14 := H13.out.2.1.trans (hb14.mono H13.out.2.2)
          obtain ⟨w15, hw15⟩ : ∃ x, x = w14.alloc (.cells #[.int .u32 (tq : Int), .int .u32 (tb : Int), .slice ya tn yc, .slice za un zc] 25) := ⟨_, rfl⟩
          obtain ⟨qb, hqb⟩ : ∃ x, x = w14.heap.size := ⟨_, rfl⟩
          have hb15 : Below w14.heap.size w14 w15 := by rw [hw15]; exact bel_alloc (Below.refl _ _) _
          have hq15 : w15.heap[qb]? = some (.cells #[.int .u32 (tq : Int), .int .u32 (tb : Int), .slice ya tn yc, .slice za un zc] 25 (0, 0)) := by rw [hw15, hqb]; exact heap_alloc_new _ _
          have hql : qb < w15.heap.size := (Array.getElem?_eq_some_iff.1 hq15).1
          have hB14 : B ≤ w14.heap.size := Nat.le_trans H13.out.2.2 hb14.size
          have hc15 : Below B w5 w15 := hc14.trans (hb15.mono hB14)
          have hb1315 : Below wr.heap.size wr w15 := bel_trans hb14 hb15
          have hl15 := (hb1315.block lb (Array.getElem?_eq_some_iff.1 H13.out.1).1).trans H13.out.1
          have hll : lb < w15.heap.size := (Array.getElem?_eq_some_iff.1 hl15).1
          have HY : Hid (∀ x : World, Below w15.heap.size w15 x → ((x.cell? ⟨lb, 0, none⟩ = some (.int .u32 (tq : Int)) ∧ x.cell? ⟨lb, 1, none⟩ = some (.int .u32 (tb : Int)) ∧ x.cell? ⟨lb, 2, none⟩ = some (.slice ta tn tc) ∧ x.cell? ⟨lb, 3, none⟩ = some (.slice ua un uc)) ∧ (x.cell? ⟨qb, 0, none⟩ = some (.int .u32 (tq : Int)) ∧ x.cell? ⟨qb, 1, none⟩ = some (.int .u32 (tb : Int)) ∧ x.cell? ⟨qb, 2, none⟩ = some (.slice ya tn yc) ∧ x.cell? ⟨qb, 3, none⟩ = some (.slice za un zc))) ∧ Below w.heap.size w x ∧ PT.Ok ⟨tq, tb, ta, tn, tc, tl, ua, un, uc, ul⟩ x ∧ PT.Ok ⟨tq, tb, ya, tn, yc, tl, za, un, zc, ul⟩ x ∧ Below wr.heap.size wr x) := Lib.hid fun x hx => by
            have h2 := (HX.out x (hc15.trans (hx.mono (Nat.le_trans hB14 hb15.size)))).2
            exact ⟨⟨(pt_four' ((hx.block lb hll).trans hl15)).1, (pt_four' ((hx.block qb hql).trans hq15)).1⟩, h2, HPO.out.step h2, (hpq.step hb15).step hx, bel_trans hb1315 hx⟩
          have HO : Hid (∀ (x : World) (na : Option Addr) (nc : Nat) (fa : Option Addr) (fc : Nat), PT.Ok ⟨tq, tb, na, tn, nc, tl, fa, un, fc, ul⟩ x → Calls Tryz.prog 15 #[.agg #[.int .u32 (tq : Int), .int .u32 (tb : Int), .slice na tn nc, .slice fa un fc]] x fun e w' => ∃ a c a2 c2, e = .returned (.agg #[.int .i64 (tq : Int), .int .i64 (tb : Int), .slice a tn c, .slice a2 un c2]) ∧ RowK .i64 4294967296 w' a tn tl ∧ RowK .i64 4294967296 w' a2 un ul ∧ Below x.heap.size x w') := Lib.hid fun x na nc fa fc h => ptOf_any tq tb na tn nc tl fa un fc ul x h (by have := HN.out; omega) (by have := HN.out; omega)
          have HSA2 : Hid (∀ (x : World) (a c : Option Addr) (b d : Option Addr) (e f g h : Nat), RowK .i64 4294967296 x a tn tl → RowK .i64 4294967296 x b un ul → RowK .i64 4294967296 x c tn tl → RowK .i64 4294967296 x d un ul → Calls Tryz.prog 16 #[.agg #[.int .i64 (tq : Int), .int .i64 (tb : Int), .slice a tn e, .slice b un f], .agg #[.int .i64 (tq : Int), .int .i64 (tb : Int), .slice c tn g, .slice d un h]] x fun e w' => e = .returned (.bool true) ∧ Below x.heap.size x w') := Lib.hid fun x a c b d e f g h h1 h2 h3 h4 => ptSame_any tq tb a tn e tl b un f ul c g d h x HPO.out.sq_ HPO.out.ba_ h1 h2 h3 h4 (by have := HN.out; omega) (by have := HN.out; omega)
          have HB9 : Hid (Below w15.heap.size w15 w15.drew) := Lib.hid (Below.refl _ _).drew
          have hS0 := (HY.out _ HB9.out).1
          go_upto_region 28 with fail
          rw [← hw15, ← hqb]
          clear hw15 hqb hb14 ho1 ho2 hq1 hq2 hnl hfl hpq hc14 hb15 hq15 hql hB14 hc15 hb1315 hl15 hll
          go_region_held3 (fun x => (x.cell? ⟨lb, 0, none⟩ = some (.int .u32 (tq : Int)) ∧ x.cell? ⟨lb, 1, none⟩ = some (.int .u32 (tb : Int)) ∧ x.cell? ⟨lb, 2, none⟩ = some (.slice ta tn tc) ∧ x.cell? ⟨lb, 3, none⟩ = some (.slice ua un uc)) ∧ (x.cell? ⟨qb, 0, none⟩ = some (.int .u32 (tq : Int)) ∧ x.cell? ⟨qb, 1, none⟩ = some (.int .u32 (tb : Int)) ∧ x.cell? ⟨qb, 2, none⟩ = some (.slice ya tn yc) ∧ x.cell? ⟨qb, 3, none⟩ = some (.slice za un zc)))
            (first | with_reducible exact hS0 | with_reducible exact hS1 | with_reducible exact hS2 | with_reducible exact hS3)
            (first
              | (go_simp; go_at_call 15; ((with_reducible refine (HO.out _ ya yc za zc (HY.out _ HB9.out).2.2.2.1).mono ?_)); (rintro e x1 ⟨a5, c5, a6, c6, rfl, hk5, hk6, hb5⟩; have HC1 := Lib.hid (HB9.out.trans (hb5.mono HB9.out.size)); have HK5 := Lib.hid (And.intro hk5 hk6); have hS1 := (HY.out _ HC1.out).1; clear hk5 hk6 hb5))
              | (go_simp; go_at_call 15; ((with_reducible refine (HO.out _ ta tc ua uc (HY.out _ HC1.out).2.2.1).mono ?_)); (rintro e x2 ⟨a7, c7, a8, c8, rfl, hk7, hk8, hb6⟩; have HC2 := Lib.hid (HC1.out.trans (hb6.mono HC1.out.size)); have HK6 := Lib.hid (And.intro (And.intro (rowK_below HK5.out.1 hb6) (rowK_below HK5.out.2 hb6)) (And.intro hk7 hk8)); have hS2 := (HY.out _ HC2.out).1; clear hk7 hk8 hb6))
              | (go_simp; go_at_call 16; ((with_reducible refine (HSA2.out _ _ _ _ _ _ _ _ _ HK6.out.1.1 HK6.out.1.2 HK6.out.2.1 HK6.out.2.2).mono ?_)); (rintro e x3 ⟨rfl, hb7'⟩; have HC3 := Lib.hid (HC2.out.trans (hb7'.mono HC2.out.size)); have hS3 := (HY.out _ HC3.out).1; clear hb7')))
          all_goals
            clear hS0 hS1 hS2 hS3 HB9 HC1 HC2 HK5 HK6
            obtain ⟨⟨a0, a1, a2, a3⟩, -⟩ := (HY.out _ HC3.out).1
            go_wp2_with fail
            ((with_reducible refine (HEE.out.2 _ (HY.out _ HC3.out).2.2.2.2).mono ?_))
            rintro e w17 ⟨hb17, v3, v4, rfl, ho3, ho4⟩
            obtain ⟨ra, rc, rfl, hr1⟩ := ownU_row ho3 HPO.out.ml_.2.1
            obtain ⟨qa, qc, rfl, hr2⟩ := ownU_row ho4 HPO.out.el_.2.1
            have hnl : tl.length = tn := HPO.out.ml_.1
            have hfl : ul.length = un := HPO.out.el_.1
            rw [hnl] at hr1 ⊢
            rw [hfl] at hr2 ⊢
            have hpq : PT.Ok ⟨tq, tb, ra, tn, rc, tl, qa, un, qc, ul⟩ w17 := ⟨HPO.out.sq_, HPO.out.ba_, hr1, hr2⟩
            obtain ⟨w18, hw18⟩ : ∃ x, x = w17.alloc (.cells #[.int .u32 (tq : Int), .int .u32 (tb : Int), .slice ra tn rc, .slice qa un qc] 25) := ⟨_, rfl⟩
            obtain ⟨pb, hpb⟩ : ∃ x, x = w17.heap.size := ⟨_, rfl⟩
            have hb18 : Below w17.heap.size w17 w18 := by rw [hw18]; exact bel_alloc (Below.refl _ _) _
            have hp18 : w18.heap[pb]? = some (.cells #[.int .u32 (tq : Int), .int .u32 (tb : Int), .slice ra tn rc, .slice qa un qc] 25 (0, 0)) := by rw [hw18, hpb]; exact heap_alloc_new _ _
            have hpl : pb < w18.heap.size := (Array.getElem?_eq_some_iff.1 hp18).1
            have hb1518 : Below w15.heap.size w15 w18 := HC3.out.trans ((bel_trans hb17 hb18).mono HC3.out.size)
            have HZ : Hid (∀ x : World, Below w18.heap.size w18 x → ((x.cell? ⟨lb, 0, none⟩ = some (.int .u32 (tq : Int)) ∧ x.cell? ⟨lb, 1, none⟩ = some (.int .u32 (tb : Int)) ∧ x.cell? ⟨lb, 2, none⟩ = some (.slice ta tn tc) ∧ x.cell? ⟨lb, 3, none⟩ = some (.slice ua un uc)) ∧ (x.cell? ⟨pb, 0, none⟩ = some (.int .u32 (tq : Int)) ∧ x.cell? ⟨pb, 1, none⟩ = some (.int .u32 (tb : Int)) ∧ x.cell? ⟨pb, 2, none⟩ = some (.slice ra tn rc) ∧ x.cell? ⟨pb, 3, none⟩ = some (.slice qa un qc))) ∧ Below w.heap.size w x ∧ PT.Ok ⟨tq, tb, ta, tn, tc, tl, ua, un, uc, ul⟩ x ∧ PT.Ok ⟨tq, tb, ra, tn, rc, tl, qa, un, qc, ul⟩ x) := Lib.hid fun x hx => by
              obtain ⟨h1, h2, h3, -, -⟩ := HY.out x (hb1518.trans (hx.mono hb1518.size))
              exact ⟨⟨h1.1, (pt_four' ((hx.block pb hpl).trans hp18)).1⟩, h2, h3, (hpq.step hb18).step hx⟩
            have HB9 : Hid (Below w18.heap.size w18 w18.drew) := Lib.hid (Below.refl _ _).drew
            have hS0 := (HZ.out _ HB9.out).1
            go_upto_region 31 with fail
            rw [← hw18, ← hpb]
            clear hw18 hpb hb17 ho3 ho4 hr1 hr2 hnl hfl hpq hb18 hp18 hpl hb1518 a0 a1 a2 a3
            go_region_held3 (fun x => (x.cell? ⟨lb, 0, none⟩ = some (.int .u32 (tq : Int)) ∧ x.cell? ⟨lb, 1, none⟩ = some (.int .u32 (tb : Int)) ∧ x.cell? ⟨lb, 2, none⟩ = some (.slice ta tn tc) ∧ x.cell? ⟨lb, 3, none⟩ = some (.slice ua un uc)) ∧ (x.cell? ⟨pb, 0, none⟩ = some (.int .u32 (tq : Int)) ∧ x.cell? ⟨pb, 1, none⟩ = some (.int .u32 (tb : Int)) ∧ x.cell? ⟨pb, 2, none⟩ = some (.slice ra tn rc) ∧ x.cell? ⟨pb, 3, none⟩ = some (.slice qa un qc)))
              (first | with_reducible exact hS0 | with_reducible exact hS1 | with_reducible exact hS2 | with_reducible exact hS3)
              (first
                | (go_simp; go_at_call 15; ((with_reducible refine (HO.out _ ra rc qa qc (HZ.out _ HB9.out).2.2.2).mono ?_)); (rintro e y1 ⟨a5, c5, a6, c6, rfl, hk5, hk6, hb5⟩; have HC1 := Lib.hid (HB9.out.trans (hb5.mono HB9.out.size)); have HK5 := Lib.hid (And.intro hk5 hk6); have hS1 := (HZ.out _ HC1.out).1; clear hk5 hk6 hb5))
                | (go_simp; go_at_call 15; ((with_reducible refine (HO.out _ ta tc ua uc (HZ.out _ HC1.out).2.2.1).mono ?_)); (rintro e y2 ⟨a7, c7, a8, c8, rfl, hk7, hk8, hb6⟩; have HC2 := Lib.hid (HC1.out.trans (hb6.mono HC1.out.size)); have HK6 := Lib.hid (And.intro (And.intro (rowK_below HK5.out.1 hb6) (rowK_below HK5.out.2 hb6)) (And.intro hk7 hk8)); have hS2 := (HZ.out _ HC2.out).1; clear hk7 hk8 hb6))
                | (go_simp; go_at_call 16; ((with_reducible refine (HSA2.out _ _ _ _ _ _ _ _ _ HK6.out.1.1 HK6.out.1.2 HK6.out.2.1 HK6.out.2.2).mono ?_)); (rintro e y3 ⟨rfl, hb7'⟩; have HC4 := Lib.hid (HC2.out.trans (hb7'.mono HC2.out.size)); have hS3 := (HZ.out _ HC4.out).1; clear hb7')))
            all_goals
              go_wp2
              go_ret
              exact ⟨rfl, (HZ.out _ HC4.out).2.1⟩
  · have d1 : decide ((6 : Int) < (n : Int)) = true := by simp; omega
    clear hn6 hP hd
    go_enter Tryz.func5, Tryz.ntmps5
    go_wp2_with fail
    ((with_reducible refine (HWR.out _).mono ?_))
    rintro e w1 ⟨rfl, hb1⟩
    have HB1 := Lib.hid hb1
    clear hb1
    go_wp2_with fail
    ((with_reducible refine (HWR.out _).mono ?_))
    rintro e w2 ⟨rfl, hb2⟩
    have HB2 := Lib.hid (bel_trans HB1.out hb2)
    clear hb2
    go_wp2_with fail
    go_ret
    exact ⟨rfl, HB2.out⟩
end Go.Proofs.YthgcjiocelcblaaGreat
