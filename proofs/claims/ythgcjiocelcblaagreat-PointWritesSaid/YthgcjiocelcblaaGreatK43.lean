/- Parts of the proof: PtRead, PtLast, PtMem. -/
import Derived.Test.YthgcjiocelcblaaGreatK31
import Derived.Test.YthgcjiocelcblaaGreatK40
import Derived.Test.YthgcjiocelcblaaGreatK42
import Derived.Test.YthgcjiocelcblaaGreatK39
import Derived.Test.YthgcjiocelcblaaGreatK30
namespace Go.Proofs.YthgcjiocelcblaaGreat
open Go.RowKit Go.Deep

/-- What stands in a segment: a point that was written whole, or nothing. -/
def SegPt (s : RS) (seg : Nat) (f : Bool) (sq ba : Nat) (ml el : List Nat) : Prop :=
  (f = true ∧ PtNums sq ba ml el ∧ manyOf s.sz (16 + 4 * ml.length + 4 * el.length) ≤ s.pg * (s.n - 1) ∧
    SegIs s seg (rowsOf s.n (manyOf s.sz (16 + 4 * ml.length + 4 * el.length))) (ptC s.sz sq (manyOf s.sz (16 + 4 * ml.length + 4 * el.length)) (ptX s.sz sq ba ml el))) ∨
  (f = false ∧ sq = 0 ∧ ba = 0 ∧ ml = [] ∧ el = [] ∧ SegIs s seg 0 (fun _ => (RH.zero, [])))
/-- What Read answers. -/
def RdIs (f : Bool) (sq ba : Nat) (ml el : List Nat) (top : Nat) (w : World) (e : Ending) (w' : World) : Prop :=
  Below w.heap.size w w' ∧ ∃ v1 v2, e = .returned (.tuple #[.agg #[.int .u32 (sq : Int), .int .u32 (ba : Int), v1, v2], .bool f, .int .u32 (top : Int), .int .i64 0]) ∧ OwnU w.heap.size w' v1 ml ∧ OwnU w.heap.size w' v2 el
theorem ownU_nil (B : Nat) (w : World) : OwnU B w (.slice none 0 0) [] := World.ownsRow_nil w B _ 1
/-- Two ways in which a segment's pages lie, as one. -/
structure RdW (w : World) (f : Bool) (sq ba : Nat) (ml el : List Nat) (sz : Nat) (sv : Value) (L : List SP) (x : World) : Prop where
  own : OwnSP w.heap.size x sv L
  bel : Below w.heap.size w x
  len : L.length ≤ 480
  ep : ∀ i, i < L.length → (L.getD i SP.nil).h.ep = sq
  pos : f = true → 0 < L.length
  non : f = false → L = [] ∧ sq = 0 ∧ ba = 0 ∧ ml = [] ∧ el = []
  pt : f = true → PtNums sq ba ml el ∧ manyOf sz (16 + 4 * ml.length + 4 * el.length) ≤ L.length ∧ JoinP sz sq ba ml el L x
theorem rowsOf_le {n many pg : Nat} (hn : 3 ≤ n) (h : many ≤ pg * (n - 1)) : rowsOf n many ≤ pg := by
  rcases Nat.lt_or_ge pg (rowsOf n many) with c | c
  · have := (rows_iff hn pg).1 c
    omega
  · exact c
theorem rowsOf_ge {n many : Nat} (hn : 3 ≤ n) : many ≤ rowsOf n many * (n - 1) := by
  have h1 := (rows_iff (many := many) hn (rowsOf n many))
  omega
theorem segPt_R {s : RS} {seg : Nat} {f : Bool} {sq ba : Nat} {ml el : List Nat} (h : SegPt s seg f sq ba ml el) (hn : 3 ≤ s.n) : ∃ R C, R ≤ s.pg ∧ SegIs s seg R C ∧
    ∀ (w : World) (e : Ending) (x : World), s.n ≤ 16 → s.pg ≤ 32 → 0 < s.sz → RowsGot s R C w e x → ∃ sv L, e = .returned (.tuple #[sv, .int .i64 0]) ∧ RdW w f sq ba ml el s.sz sv L x := by
  rcases h with ⟨rfl, hp, hm, hS⟩ | ⟨rfl, rfl, rfl, rfl, rfl, hS⟩
  · refine ⟨_, _, rowsOf_le hn hm, hS, ?_⟩
    rintro w e x h16 h32 hsz ⟨sv, L, he, hO, hl, hb, hL⟩
    have hge := rowsOf_ge (many := manyOf s.sz (16 + 4 * ml.length + 4 * el.length)) hn
    have hle := rowsOf_le hn hm
    have hpos := many_pos (len := 16 + 4 * ml.length + 4 * el.length) hsz (by omega)
    have hl1 : L.length ≤ 480 := by
      rw [hl]
      have := Nat.mul_le_mul (show rowsOf s.n (manyOf s.sz (16 + 4 * ml.length + 4 * el.length)) ≤ 32 by omega) (show s.n - 1 ≤ 15 by omega)
      omega
    refine ⟨sv, L, he, hO, hb, hl1, fun i hi => ?_, fun _ => by omega, fun h => Bool.noConfusion h, fun _ => ⟨hp, by omega, fun i hi => ?_⟩⟩
    · rw [(hL i hi).1]
      unfold ptC
      split <;> rfl
    · have h1 := hL i (by omega)
      unfold ptC at h1
      rw [if_pos hi] at h1
      exact ⟨h1.1, h1.2.1, h1.2.2.2, h1.2.2.1⟩
  · refine ⟨0, _, Nat.zero_le _, hS, ?_⟩
    rintro w e x h16 h32 hsz ⟨sv, L, he, hO, hl, hb, hL⟩
    have hl0 : L = [] := List.eq_nil_of_length_eq_zero (by rw [hl, Nat.zero_mul])
    refine ⟨sv, L, he, hO, hb, by rw [hl0]; simp, fun i hi => ?_, fun h => Bool.noConfusion h, fun _ => ⟨hl0, rfl, rfl, rfl, rfl⟩, fun h => Bool.noConfusion h⟩
    rw [hl0] at hi
    simp at hi
theorem ownSP_cap {B : Nat} {W : World} {v : Value} {L : List SP} {a : Option Addr} {c : Nat} (h : OwnSP B W v L) (he : v = .slice a L.length c) : L.length ≤ c := by
  rcases h.2 with ⟨q, q0⟩ | ⟨g, cap, cur, q, _, hg, hc, hm, hs, ht⟩
  · omega
  · rw [he] at q
    simp only [Value.slice.injEq] at q
    omega
theorem RdW.join {w : World} {f : Bool} {sq ba : Nat} {ml el : List Nat} {sz : Nat} {sv : Value} {L : List SP} {x : World} (h : RdW w f sq ba ml el sz sv L x) (hsz : 0 < sz) (hsz2 : sz ≤ 1000) (a : Option Addr) (c : Nat) (he : sv = .slice a L.length c) (y : World) (hb : Below x.heap.size x y) :
    Calls Tryz.prog 43 #[.slice a L.length c, .int .u32 (sq : Int)] y fun e w' => Below y.heap.size y w' ∧ ∃ v1 v2, e = .returned (.tuple #[.agg #[.int .u32 (sq : Int), .int .u32 (ba : Int), v1, v2], .bool f]) ∧ OwnU y.heap.size w' v1 ml ∧ OwnU y.heap.size w' v2 el := by
  cases f with
  | true =>
    obtain ⟨h1, h2, h3⟩ := h.pt rfl
    have hpos := h.pos rfl
    have hc := ownSP_cap h.own he
    obtain ⟨g, c', e2, hcl⟩ := own_addr h.own hpos
    rw [he] at e2
    simp only [Value.slice.injEq] at e2
    obtain ⟨rfl, -, rfl⟩ := e2
    have hX : manyOf sz (16 + 4 * ml.length + 4 * el.length) * sz ≤ 100000 := by
      have := many_le (sz := sz) (len := 16 + 4 * ml.length + 4 * el.length)
      have h5 := h1.mlen
      have h6 := h1.elen
      omega
    exact ptJoin_ok g 0 L.length c sz sq ba ml el L y rfl (hcl.step hb) hc (by have := h.len; omega) hsz hsz2 h2 hX h1 (fun i hi => ⟨(h3 i hi).1, (h3 i hi).2.1, (h3 i hi).2.2.1.keep hb (Nat.le_refl _), (h3 i hi).2.2.2⟩)
  | false =>
    obtain ⟨rfl, rfl, rfl, rfl, rfl⟩ := h.non rfl
    exact (ptJoin_none a c 0 y).mono fun e w' hp => ⟨hp.1, _, _, hp.2, ownU_nil _ _, ownU_nil _ _⟩
section
variable {B : Nat} {s : RS} {w : World}
set_option maxRecDepth 100000 in
set_option maxHeartbeats 4000000 in
theorem ptRead_any (h : Ram B s w) (which : Nat) (hw : which < 2) {f : Bool} {sq ba : Nat} {ml el : List Nat} (hS : SegPt s (2 + which) f sq ba ml el) (hlive : ∀ m, s.gone m = 0) (hs1000 : s.sz ≤ 1000) :
    Calls Tryz.prog 23 #[.iface 51 (.pointer (some ⟨s.rb, 0, none⟩)), .int .i64 (which : Int)] w (RdIs f sq ba ml el sq w) := by
  have hg := h.geo
  have hn3 : 3 ≤ s.n := by have := hg.1; omega
  have hn16 : s.n ≤ 16 := by have := hg.2.1; omega
  have hbl : 16 ≤ s.bl := by have := hg.2.2.1; omega
  have hpg : s.pg ≤ 32 := by have := hg.2.2.2.2.2.1; omega
  have hsz0 : 256 ≤ s.sz := by have := hg.2.2.2.2.2.2.1; omega
  obtain ⟨R, C, hR, hSI, hGot⟩ := segPt_R hS hn3
  obtain ⟨W1, hW1⟩ : ∃ x, x = w.alloc (.cells #[.int .u32 0, .int .u32 0, .slice none 0 0, .slice none 0 0] 25) := ⟨_, rfl⟩
  obtain ⟨p0, hp0⟩ : ∃ x, x = w.heap.size := ⟨_, rfl⟩
  have s1 : W1.heap.size = p0 + 1 := by rw [hW1, hp0]; simp
  have h0 : W1.heap[p0]? = some (.cells (pCs 0 0 (.slice none 0 0) (.slice none 0 0)) 25 (0, 0)) := by rw [hW1, hp0]; exact heap_alloc_new _ _
  have b01 : Below w.heap.size w W1 := by rw [hW1]; exact bel_alloc (Below.refl _ _) _
  have HRW : Hid (Calls Tryz.prog 42 #[.iface 51 (.pointer (some ⟨s.rb, 0, none⟩)), .int .i64 (2 + (which : Int))] W1 fun e x => ∃ sv L, e = .returned (.tuple #[sv, .int .i64 0]) ∧ RdW W1 f sq ba ml el s.sz sv L x) :=
    Lib.hid (by have hh := ptRows_any (h.step b01) (2 + which) R C (by omega) hR hs1000 hSI hlive; rw [show ((2 + which : Nat) : Int) = 2 + (which : Int) by omega] at hh; exact hh.mono fun e x hx => hGot W1 e x hn16 hpg (by omega) hx)
  have H0 := Lib.hid (And.intro h0 (And.intro s1 (And.intro b01 hp0)))
  have HZ := Lib.hid (And.intro (show 0 < s.sz by omega) hs1000)
  have mw : IntKind.i64.wrap (2 + (which : Int)) = 2 + (which : Int) := by rw [IntKind.wrap_i64]; omega
  have hq : ((which : Int) != 0) = false ∨ ((which : Int) != 0) = true ∧ ((which : Int) != 1) = false := by
    rcases (show which = 0 ∨ which = 1 by omega) with rfl | rfl
    · exact .inl rfl
    · exact .inr ⟨rfl, rfl⟩
  clear h hg hn3 hn16 hbl hpg hsz0 hR hSI hGot hS hlive hs1000 h0 s1 b01 hw
  rcases hq with q0 | ⟨q0, q1⟩
  all_goals
    go_enter Tryz.func23, Tryz.ntmps23
    go_wp2_with fail
    rw [← hW1, ← hp0]
    clear hW1 hp0
    ((with_reducible refine HRW.out.mono ?_))
    rintro e x ⟨sv, L, rfl, hW⟩
    obtain ⟨a, c, rfl, hcl⟩ := cellsSP_own hW.own
    have hJ := fun y hb => hW.join HZ.out.1 HZ.out.2 a c rfl y hb
    have hln := hW.len
    obtain ⟨n, hn⟩ : ∃ n, n = L.length := ⟨_, rfl⟩
    rw [← hn] at hln hJ
    rw [← hn]
    have HJ := Lib.hid hJ
    have HCL := Lib.hid hcl
    have hxb := hW.bel
    have HW := Lib.hid (And.intro hW.ep (And.intro hW.pos (And.intro hW.non hn)))
    have HB := Lib.hid (And.intro (H0.out.2.2.1.trans (hxb.mono (by rw [H0.out.2.1, H0.out.2.2.2]; omega))) (And.intro ((hxb.block p0 (by rw [H0.out.2.1]; omega)).trans H0.out.1) hxb.size))
    have hsq : n = 0 → sq = 0 := fun h => by
      cases f with
      | true => have := hW.pos rfl; omega
      | false => exact (hW.non rfl).2.1
    clear hW hJ hcl hxb hn
    go_wp2_with fail
    go_loopw [6, 34] (fun mv iv wr => ∃ k : Nat, k ≤ n ∧ iv = .int .i64 (k : Int) ∧ mv = .int .u32 ((if k = 0 then 0 else sq : Nat) : Int) ∧ Below x.heap.size x wr) (fun _ iv _ => n - (intOf iv).toNat)
    case atStart => exact ⟨0, Nat.zero_le _, rfl, rfl, Below.refl _ _⟩
    case round =>
      obtain ⟨k, hk, rfl, rfl, hb⟩ := hrel
      by_cases hlt : k < n
      · have t1 : decide (k < n) = true := by simpa using hlt
        obtain ⟨mv, hmv⟩ : ∃ y, y = (if k = 0 then 0 else sq) := ⟨_, rfl⟩
        have hmx : mv ≤ sq := by rw [hmv]; split <;> omega
        rw [← hmv]
        obtain ⟨b, off, ha, hat⟩ := (HCL.out.step hb) (by rw [← HW.out.2.2.2]; omega)
        obtain ⟨c0, c1, c2, c3, c4, c5, c6, c7⟩ := hat k (by rw [← HW.out.2.2.2]; exact hlt)
        rw [HW.out.1 k (by rw [← HW.out.2.2.2]; exact hlt)] at c1
        subst ha
        have i0 : (0 : Int) ≤ (k : Int) := by omega
        have i1 : (k : Int) < (n : Int) := by omega
        have HBK := Lib.hid hb
        have mm : max (mv : Int) (sq : Int) = (sq : Int) := by omega
        clear hb hat hmv
        go_wp2_with fail
        go_roundw
        case rel => exact ⟨k + 1, by omega, by go_num, by rw [if_neg (by omega)], HBK.out.alloc HBK.out.size _⟩
        case measure => simp [intOf]; omega
      · obtain rfl : k = n := by omega
        have t1 : decide (k < k) = false := by simp
        rw [show (if k = 0 then 0 else sq) = sq by by_cases h : k = 0; (rw [if_pos h]; exact (hsq h).symm); rw [if_neg h]]
        have HJW := Lib.hid (HJ.out wr hb)
        obtain ⟨g1, g2, g3⟩ := HB.out
        have hbw : Below w.heap.size w wr := g1.trans (hb.mono g1.size)
        have hpx : p0 < x.heap.size := (Array.getElem?_eq_some_iff.1 g2).1
        have HBW := Lib.hid (And.intro hbw (And.intro ((hb.block p0 hpx).trans g2) (show p0 < wr.heap.size from Nat.lt_of_lt_of_le hpx hb.size)))
        clear g1 g2 g3 hbw hpx hb hsq
        go_wp2_with fail
        ((with_reducible refine HJW.out.mono ?_))
        rintro e w3 ⟨hb3, v1, v2, rfl, ho1, ho2⟩
        obtain ⟨qa, qn, qc, rfl⟩ := ownU_sl ho1
        obtain ⟨ra, rn, rc, rfl⟩ := ownU_sl ho2
        have hz3 := (hb3.block p0 HBW.out.2.2).trans HBW.out.2.1
        obtain ⟨⟨z0, z1, z2, z3⟩, f0, f1, f2, f3⟩ := pt4_at hz3
        have HO := Lib.hid (And.intro hb3 (And.intro ho1 ho2))
        have HZ3 := Lib.hid hz3
        clear hb3 ho1 ho2 hz3
        go_upto_region 14 with fail
        obtain ⟨W5, hW5⟩ : ∃ y, y = (((w3.setCell ⟨p0, 0, none⟩ (.int .u32 (sq : Int))).setCell ⟨p0, 1, none⟩ (.int .u32 (ba : Int))).setCell ⟨p0, 2, none⟩ (.slice qa qn qc)).setCell ⟨p0, 3, none⟩ (.slice ra rn rc) := ⟨_, rfl⟩
        rw [← hW5]
        have h5 : W5.heap[p0]? = some (.cells (pCs sq ba (.slice qa qn qc) (.slice ra rn rc)) 25 (0, 0)) := by rw [hW5]; exact pt_put4 HZ3.out _ _ _ _
        have ho1 : OwnU wr.heap.size W5 (.slice qa qn qc) ml := by rw [hW5]; exact ownU_sets HO.out.2.1 HBW.out.2.2 _ _ _ _
        have ho2 : OwnU wr.heap.size W5 (.slice ra rn rc) el := by rw [hW5]; exact ownU_sets HO.out.2.2 HBW.out.2.2 _ _ _ _
        have hb5 : Below w.heap.size w W5 := by rw [hW5]; exact pt4_set (HBW.out.1.trans (HO.out.1.mono HBW.out.1.size)) (Nat.le_of_eq H0.out.2.2.2.symm) _ _ _ _
        clear hW5 z0 z1 z2 z3 f0 f1 f2 f3
        obtain ⟨⟨z0, z1, z2, z3⟩, f0, f1, f2, f3⟩ := pt4_at h5
        have HO5 := Lib.hid (And.intro ho1 (And.intro ho2 hb5))
        clear ho1 ho2 hb5 h5
        go_wp2_with fail
        obtain ⟨ho1, ho2, hb5⟩ := HO5.out
        exact bodyPost_ret (v := .tuple #[.agg #[.int .u32 (sq : Int), .int .u32 (ba : Int), .slice qa qn qc, .slice ra rn rc], .bool f, .int .u32 (sq : Int), .int .i64 0]) (by simp [results, Tryz.results23, go_sem, z0, z1, z2, z3]) rfl ⟨pt4_set hb5 (Nat.le_of_eq H0.out.2.2.2.symm) _ _ _ _, _, _, rfl, ownU_base (ownU_sets ho1 HBW.out.2.2 _ _ _ _) HBW.out.1.size, ownU_base (ownU_sets ho2 HBW.out.2.2 _ _ _ _) HBW.out.1.size⟩
end
end Go.Proofs.YthgcjiocelcblaaGreat

namespace Go.Proofs.YthgcjiocelcblaaGreat
open Go.RowKit Go.Deep

/-- What is known of points that were met: is there one, its numbers, the greatest number. -/
structure PtD where
  f : Bool
  q : Nat
  b : Nat
  m : List Nat
  e : List Nat
  top : Nat
def PtD.zero : PtD := ⟨false, 0, 0, [], [], 0⟩
def PtD.step (a x : PtD) : PtD := if (x.f && (!a.f || decide (a.q < x.q))) = true then ⟨x.f, x.q, x.b, x.m, x.e, max a.top x.q⟩ else ⟨a.f, a.q, a.b, a.m, a.e, max a.top x.q⟩
def PtD.In (s : RS) (seg : Nat) (x : PtD) : Prop := SegPt s seg x.f x.q x.b x.m x.e
def PtD.fold (x : Nat → PtD) : Nat → PtD
  | 0 => PtD.zero
  | k + 1 => (PtD.fold x k).step (x k)
/-- Last's box, and what it knows. -/
structure LastI (p0 : Nat) (w : World) (a : PtD) (v1 v2 : Value) (x : World) : Prop where
  box : x.heap[p0]? = some (.cells (pCs a.q a.b v1 v2) 25 (0, 0))
  own1 : OwnU (p0 + 1) x v1 a.m
  own2 : OwnU (p0 + 1) x v2 a.e
  bel : Below w.heap.size w x
theorem LastI.step {p0 : Nat} {w : World} {a : PtD} {v1 v2 : Value} {x y : World} (h : LastI p0 w a v1 v2 x) (hb : Below x.heap.size x y) : LastI p0 w a v1 v2 y :=
  ⟨(hb.block p0 (Array.getElem?_eq_some_iff.1 h.box).1).trans h.box, ownU_at h.own1 fun k _ hk => hb.block k hk, ownU_at h.own2 fun k _ hk => hb.block k hk, h.bel.trans (hb.mono h.bel.size)⟩
theorem LastI.keep {p0 : Nat} {w : World} {a x : PtD} {v1 v2 : Value} {y : World} (h : LastI p0 w a v1 v2 y) (hk : (x.f && (!a.f || decide (a.q < x.q))) = false) :
    a.step x = ⟨a.f, a.q, a.b, a.m, a.e, max a.top x.q⟩ ∧ LastI p0 w (a.step x) v1 v2 y := by
  have e : a.step x = ⟨a.f, a.q, a.b, a.m, a.e, max a.top x.q⟩ := by unfold PtD.step; rw [if_neg (by rw [hk]; decide)]
  exact ⟨e, by rw [e]; exact ⟨h.box, h.own1, h.own2, h.bel⟩⟩
theorem LastI.take {p0 : Nat} {w : World} {a x : PtD} {v1 v2 u1 u2 : Value} {y : World} (h : LastI p0 w a v1 v2 y) (hp : w.heap.size ≤ p0) (ho1 : OwnU (p0 + 1) y u1 x.m) (ho2 : OwnU (p0 + 1) y u2 x.e) (hk : (x.f && (!a.f || decide (a.q < x.q))) = true) :
    a.step x = ⟨x.f, x.q, x.b, x.m, x.e, max a.top x.q⟩ ∧ LastI p0 w (a.step x) u1 u2 ((((y.setCell ⟨p0, 0, none⟩ (.int .u32 (x.q : Int))).setCell ⟨p0, 1, none⟩ (.int .u32 (x.b : Int))).setCell ⟨p0, 2, none⟩ u1).setCell ⟨p0, 3, none⟩ u2) := by
  have e : a.step x = ⟨x.f, x.q, x.b, x.m, x.e, max a.top x.q⟩ := by unfold PtD.step; rw [if_pos hk]
  exact ⟨e, by rw [e]; exact ⟨pt_put4 h.box _ _ _ _, ownU_sets ho1 (Nat.lt_succ_self _) _ _ _ _, ownU_sets ho2 (Nat.lt_succ_self _) _ _ _ _, pt4_set h.bel hp _ _ _ _⟩⟩
theorem u32_max (a b : Nat) : Value.int .u32 (max (a : Int) (b : Int)) = Value.int .u32 ((max a b : Nat) : Int) := by congr 1; omega
section
variable {B : Nat} {s : RS} {w : World}
set_option maxRecDepth 100000 in
set_option maxHeartbeats 4000000 in
theorem ptLast_any (h : Ram B s w) (X : Nat → PtD) (h0 : PtD.In s 2 (X 0)) (h1 : PtD.In s 3 (X 1)) (hlive : ∀ m, s.gone m = 0) (hs1000 : s.sz ≤ 1000) :
    Calls Tryz.prog 22 #[.iface 51 (.pointer (some ⟨s.rb, 0, none⟩))] w (RdIs (PtD.fold X 2).f (PtD.fold X 2).q (PtD.fold X 2).b (PtD.fold X 2).m (PtD.fold X 2).e (PtD.fold X 2).top w) := by
  obtain ⟨W1, hW1⟩ : ∃ x, x = w.alloc (.cells #[.int .u32 0, .int .u32 0, .slice none 0 0, .slice none 0 0] 25) := ⟨_, rfl⟩
  obtain ⟨p0, hp0⟩ : ∃ x, x = w.heap.size := ⟨_, rfl⟩
  have s1 : W1.heap.size = p0 + 1 := by rw [hW1, hp0]; simp
  have hbx : W1.heap[p0]? = some (.cells (pCs 0 0 (.slice none 0 0) (.slice none 0 0)) 25 (0, 0)) := by rw [hW1, hp0]; exact heap_alloc_new _ _
  have b01 : Below w.heap.size w W1 := by rw [hW1]; exact bel_alloc (Below.refl _ _) _
  have HR : Hid (∀ (k : Nat) (x : World), k < 2 → Below w.heap.size w x → Calls Tryz.prog 23 #[.iface 51 (.pointer (some ⟨s.rb, 0, none⟩)), .int .i64 (k : Int)] x (RdIs (X k).f (X k).q (X k).b (X k).m (X k).e (X k).q x)) := Lib.hid fun k x hk hx => by
    rcases (show k = 0 ∨ k = 1 by omega) with rfl | rfl
    · exact ptRead_any (h.step hx) 0 (by omega) h0 hlive hs1000
    · exact ptRead_any (h.step hx) 1 (by omega) h1 hlive hs1000
  have HI0 : Hid (LastI p0 w PtD.zero (.slice none 0 0) (.slice none 0 0) W1) := Lib.hid ⟨hbx, ownU_nil _ _, ownU_nil _ _, b01⟩
  have HS := Lib.hid (And.intro s1 hp0)
  clear h h0 h1 hlive hs1000 hbx b01
  go_enter Tryz.func22, Tryz.ntmps22
  go_wp2_with fail
  rw [← hW1, ← hp0]
  clear hW1 hp0 s1
  go_loopw [3, 4, 11] (fun ov mv iv wr => ∃ (k : Nat) (v1 v2 : Value), k ≤ 2 ∧ iv = .int .i64 (k : Int) ∧ ov = .bool (PtD.fold X k).f ∧ mv = .int .u32 ((PtD.fold X k).top : Int) ∧ LastI p0 w (PtD.fold X k) v1 v2 wr) (fun _ _ iv _ => 2 - (intOf iv).toNat)
  case atStart => exact ⟨0, _, _, Nat.zero_le _, rfl, rfl, rfl, HI0.out⟩
  case round =>
    obtain ⟨k, v1, v2, hk, rfl, rfl, rfl, hI⟩ := hrel
    have HI := Lib.hid hI
    by_cases hlt : k < 2
    · have t1 : decide ((k : Int) < 2) = true := by simp; omega
      have HRK := Lib.hid (HR.out k wr hlt hI.bel)
      have HK := Lib.hid hlt
      obtain ⟨a, ha⟩ : ∃ a, a = PtD.fold X k := ⟨_, rfl⟩
      have HF : Hid (PtD.fold X (k + 1) = a.step (X k)) := Lib.hid (by rw [ha]; rfl)
      obtain ⟨x, hx⟩ : ∃ x, x = X k := ⟨_, rfl⟩
      rw [← ha] at HI ⊢
      rw [← hx] at HF HRK
      clear ha hx hI
      go_wp2_with fail
      ((with_reducible refine HRK.out.mono ?_))
      rintro e w3 ⟨hb3, u1, u2, rfl, ho1, ho2⟩
      obtain ⟨qa, qn, qc, rfl⟩ := ownU_sl ho1
      obtain ⟨ra, rn, rc, rfl⟩ := ownU_sl ho2
      have hI3 := HI.out.step hb3
      have hwz : p0 < wr.heap.size := (Array.getElem?_eq_some_iff.1 HI.out.box).1
      obtain ⟨W4, hW4⟩ : ∃ y, y = w3.alloc (.cells #[.int .u32 (x.q : Int), .int .u32 (x.b : Int), .slice qa qn qc, .slice ra rn rc] 25) := ⟨_, rfl⟩
      obtain ⟨ob, hob⟩ : ∃ y, y = w3.heap.size := ⟨_, rfl⟩
      have hb4 : Below w3.heap.size w3 W4 := by rw [hW4]; exact bel_alloc (Below.refl _ _) _
      have hq4 : W4.heap[ob]? = some (.cells (pCs x.q x.b (.slice qa qn qc) (.slice ra rn rc)) 25 (0, 0)) := by rw [hW4, hob]; exact heap_alloc_new _ _
      have hI4 := hI3.step hb4
      obtain ⟨⟨y0, y1, y2, y3⟩, -⟩ := pt4_at hq4
      obtain ⟨⟨z0, z1, z2, z3⟩, f0, f1, f2, f3⟩ := pt4_at hI4.box
      have HI4 := Lib.hid (And.intro hI4 (And.intro (ownU_base (ownU_at ho1 (y := W4) fun q _ hq => hb4.block q hq) (show p0 + 1 ≤ wr.heap.size from hwz)) (ownU_base (ownU_at ho2 (y := W4) fun q _ hq => hb4.block q hq) (show p0 + 1 ≤ wr.heap.size from hwz))))
      clear hb3 ho1 ho2 hI3 hwz hb4 hq4 hI4
      go_upto_region 5 with fail
      rw [← hW4, ← hob]
      clear hW4 hob
      have hcase : x.f = false ∨ x.f = true ∧ a.f = false ∨ x.f = true ∧ a.f = true ∧ decide (a.q < x.q) = true ∨ x.f = true ∧ a.f = true ∧ decide (a.q < x.q) = false := by
        cases x.f <;> cases a.f <;> cases decide (a.q < x.q) <;> simp
      rcases hcase with g1 | ⟨g1, g2⟩ | ⟨g1, g2, g3⟩ | ⟨g1, g2, g3⟩
      · have HK2 : Hid ((x.f && (!a.f || decide (a.q < x.q))) = false) := Lib.hid (by rw [g1]; rfl)
        go_wp2_with fail
        go_roundw
        case rel =>
          obtain ⟨e1, e2⟩ := HI4.out.1.keep HK2.out
          rw [← HF.out] at e1 e2
          exact ⟨k + 1, _, _, by omega, by go_num, by rw [e1], by rw [e1]; exact u32_max _ _, e2⟩
        case measure => simp [intOf]; omega
      · have HK2 : Hid ((x.f && (!a.f || decide (a.q < x.q))) = true) := Lib.hid (by rw [g1, g2]; rfl)
        go_wp2_with fail
        go_roundw
        case rel =>
          obtain ⟨e1, e2⟩ := HI4.out.1.take (Nat.le_of_eq HS.out.2.symm) HI4.out.2.1 HI4.out.2.2 HK2.out
          rw [← HF.out] at e1 e2
          exact ⟨k + 1, _, _, by omega, by go_num, by rw [e1]; rw [g1], by rw [e1]; exact u32_max _ _, e2⟩
        case measure => simp [intOf]; omega
      · have HK2 : Hid ((x.f && (!a.f || decide (a.q < x.q))) = true) := Lib.hid (by rw [g1, g2, g3]; rfl)
        go_wp2_with fail
        go_roundw
        case rel =>
          obtain ⟨e1, e2⟩ := HI4.out.1.take (Nat.le_of_eq HS.out.2.symm) HI4.out.2.1 HI4.out.2.2 HK2.out
          rw [← HF.out] at e1 e2
          exact ⟨k + 1, _, _, by omega, by go_num, by rw [e1]; rw [g1], by rw [e1]; exact u32_max _ _, e2⟩
        case measure => simp [intOf]; omega
      · have HK2 : Hid ((x.f && (!a.f || decide (a.q < x.q))) = false) := Lib.hid (by rw [g1, g2, g3]; rfl)
        go_wp2_with fail
        go_roundw
        case rel =>
          obtain ⟨e1, e2⟩ := HI4.out.1.keep HK2.out
          rw [← HF.out] at e1 e2
          exact ⟨k + 1, _, _, by omega, by go_num, by rw [e1]; rw [g2], by rw [e1]; exact u32_max _ _, e2⟩
        case measure => simp [intOf]; omega
    · obtain rfl : k = 2 := by omega
      have t1 : decide ((2 : Int) < 2) = false := by decide
      obtain ⟨a, ha⟩ : ∃ a, a = PtD.fold X 2 := ⟨_, rfl⟩
      rw [← ha] at HI ⊢
      have HA := Lib.hid ha
      clear ha hI
      obtain ⟨qa, qn, qc, rfl⟩ := ownU_sl HI.out.own1
      obtain ⟨ra, rn, rc, rfl⟩ := ownU_sl HI.out.own2
      obtain ⟨⟨z0, z1, z2, z3⟩, f0, f1, f2, f3⟩ := pt4_at HI.out.box
      go_wp2_with fail
      have hI := HI.out
      have hle : w.heap.size ≤ p0 := Nat.le_of_eq HS.out.2.symm
      obtain rfl := HA.out
      exact bodyPost_ret (v := .tuple #[.agg #[.int .u32 ((PtD.fold X 2).q : Int), .int .u32 ((PtD.fold X 2).b : Int), .slice qa qn qc, .slice ra rn rc], .bool (PtD.fold X 2).f, .int .u32 ((PtD.fold X 2).top : Int), .int .i64 0]) (by simp [results, Tryz.results22, go_sem, z0, z1, z2, z3]) rfl ⟨pt4_set hI.bel hle _ _ _ _, _, _, rfl, ownU_base (ownU_sets hI.own1 (Nat.lt_succ_self _) _ _ _ _) (by omega), ownU_base (ownU_sets hI.own2 (Nat.lt_succ_self _) _ _ _ _) (by omega)⟩
end
end Go.Proofs.YthgcjiocelcblaaGreat

namespace Go.Proofs.YthgcjiocelcblaaGreat
open Go.RowKit Go.Deep

theorem ptmod_eq (x : Int) : ∃ n : Nat, wrap64 (3 + wrap64 ((IntKind.u64.wrap x).tmod 3)) = (n : Int) ∧ 3 ≤ n ∧ n ≤ 5 := by
  have h2 : 0 ≤ IntKind.u64.wrap x := by rw [IntKind.wrap_u64]; omega
  have h3 : 0 ≤ (IntKind.u64.wrap x).tmod 3 := Int.tmod_nonneg _ h2
  have h4 : (IntKind.u64.wrap x).tmod 3 < 3 := Int.tmod_lt_of_pos _ (by omega)
  obtain ⟨m, hm⟩ : ∃ m : Nat, (IntKind.u64.wrap x).tmod 3 = (m : Int) := ⟨((IntKind.u64.wrap x).tmod 3).toNat, by omega⟩
  rw [hm] at h3 h4 ⊢
  refine ⟨3 + m, ?_, by omega, by omega⟩
  rw [IntWalk.wrap64_in (m : Int) (by omega), IntWalk.wrap64_in _ (by omega)]
  omega
def ptG (x : Int) : Nat := (wrap64 (3 + wrap64 ((IntKind.u64.wrap x).tmod 3))).toNat
theorem ptG_in (x : Int) : 3 ≤ ptG x ∧ ptG x ≤ 5 ∧ wrap64 (3 + wrap64 ((IntKind.u64.wrap x).tmod 3)) = (ptG x : Int) := by
  obtain ⟨n, h1, h2, h3⟩ := ptmod_eq x
  unfold ptG
  rw [h1]
  exact ⟨by omega, by omega, by omega⟩
theorem ptShape_any (x : Int) (w : World) : Calls Tryz.prog 19 #[.int .i64 x] w fun e w' => e = .returned (.agg #[.int .i64 (ptG x : Int), .int .i64 20, .int .i64 6, .int .i64 256]) ∧ Below w.heap.size w w' := by
  have hq := (ptG_in x).2.2
  go_enter Tryz.func19, Tryz.ntmps19
  go_wp2
  rw [← hq]
  exact bodyPost_ret (v := .agg #[.int .i64 (wrap64 (3 + wrap64 ((IntKind.u64.wrap x).tmod 3))), .int .i64 20, .int .i64 6, .int .i64 256]) (by simp [results, Tryz.results19, go_sem]) rfl ⟨rfl, bel_alloc (Below.refl _ w) _⟩
theorem ptGood (n : Nat) (h : 3 ≤ n ∧ n ≤ 5) : GoodG (n : Int) (20 : Nat) (6 : Nat) (256 : Nat) := by
  unfold GoodG
  omega
theorem SegIs.cong {s s2 : RS} {seg R : Nat} {C : Nat → RH × List Nat} (h : SegIs s seg R C) (e1 : s2.n = s.n) (e2 : s2.pg = s.pg) (e3 : s2.sz = s.sz) (e4 : s2.gone = s.gone) (hF : ∀ m r, s2.F (m, seg, r) = s.F (m, seg, r)) : SegIs s2 seg R C :=
  ⟨fun r hr => by rw [e1]; exact (h.1 r hr).cong e1 e2 e3 e4 fun m => hF m r, fun r hr hp m hm => by rw [hF]; exact h.2 r hr (by rw [← e2]; exact hp) m (by rw [← e1]; exact hm)⟩
theorem PtD.In.cong {s s2 : RS} {seg : Nat} {x : PtD} (h : PtD.In s seg x) (e1 : s2.n = s.n) (e2 : s2.pg = s.pg) (e3 : s2.sz = s.sz) (e4 : s2.gone = s.gone) (hF : ∀ m r, s2.F (m, seg, r) = s.F (m, seg, r)) : PtD.In s2 seg x := by
  unfold PtD.In SegPt at *
  rcases h with ⟨a, b, c, d⟩ | ⟨a, b, c, d, e, f⟩
  · exact .inl ⟨a, b, by rw [e1, e2, e3]; exact c, by rw [e1, e3]; exact d.cong e1 e2 e3 e4 hF⟩
  · exact .inr ⟨a, b, c, d, e, f.cong e1 e2 e3 e4 hF⟩
/-- Members with so many chips, on which k points were written. -/
structure Mem2 (B : Nat) (s : RS) (n k : Nat) (X : Nat → PtD) (w : World) : Prop where
  ram : Ram B s w
  hB : B ≤ w.heap.size
  live : ∀ m, s.gone m = 0
  n_ : s.n = n
  pg_ : s.pg = 6
  sz_ : s.sz = 256
  bl_ : s.bl = 20
  hn : 3 ≤ n ∧ n ≤ 5
  ol : s.ol.length ≤ k * 30
  s0 : PtD.In s 2 (X 0)
  s1 : PtD.In s 3 (X 1)
theorem mem2_new {rb pb gb n : Nat} {B : Nat} {w : World} (h : Ram B (rsNew rb pb gb n 20 6 256) w) (hB : B ≤ w.heap.size) (hn : 3 ≤ n ∧ n ≤ 5) : Mem2 B (rsNew rb pb gb n 20 6 256) n 0 (fun _ => PtD.zero) w :=
  ⟨h, hB, fun _ => rfl, rfl, rfl, rfl, rfl, hn, Nat.le_refl _, .inr ⟨rfl, rfl, rfl, rfl, rfl, fun _ hr => absurd hr (Nat.not_lt_zero _), fun _ _ _ _ _ => rfl⟩, .inr ⟨rfl, rfl, rfl, rfl, rfl, fun _ hr => absurd hr (Nat.not_lt_zero _), fun _ _ _ _ _ => rfl⟩⟩
theorem Mem2.step {B : Nat} {s : RS} {n k : Nat} {X : Nat → PtD} {w w' : World} (h : Mem2 B s n k X w) (hb : Below w.heap.size w w') : Mem2 B s n k X w' :=
  ⟨h.ram.step hb, Nat.le_trans h.hB hb.size, h.live, h.n_, h.pg_, h.sz_, h.bl_, h.hn, h.ol, h.s0, h.s1⟩
def setX (X : Nat → PtD) (j : Nat) (x : PtD) : Nat → PtD := fun i => if i = j then x else X i
theorem mem2_write {B : Nat} {s : RS} {n k : Nat} {X : Nat → PtD} {w : World} (h : Mem2 B s n k X w) (hk : k ≤ 20) (sq ba : Nat) (ma : Option Addr) (mn mc : Nat) (ml : List Nat) (ea : Option Addr) (en ec : Nat) (el : List Nat) (hp : PT.Ok ⟨sq, ba, ma, mn, mc, ml, ea, en, ec, el⟩ w) (hm : mn ≤ 1000) (he : en ≤ 1000)
    (hfit : manyOf 256 (16 + 4 * ml.length + 4 * el.length) ≤ 6 * (n - 1)) :
    Calls Tryz.prog 21 #[.iface 51 (.pointer (some ⟨s.rb, 0, none⟩)), .agg #[.int .u32 (sq : Int), .int .u32 (ba : Int), .slice ma mn mc, .slice ea en ec]] w fun e w' =>
      ∃ s', e = .returned (.int .i64 0) ∧ Mem2 B s' n (k + 1) (setX X (sq % 2) ⟨true, sq, ba, ml, el, sq⟩) w' ∧ RStep s w s' w' := by
  have hn := h.hn
  have hol : s.ol.length + s.n * s.pg ≤ s.ol.length + 30 := by rw [h.n_, h.pg_]; omega
  have hol2 := h.ol
  have hk30 : k * 30 ≤ 600 := by omega
  refine (ptWrite_any h.ram h.hB sq ba ma mn mc ml ea en ec el hp hm he (by rw [h.sz_, h.pg_, h.n_]; exact hfit) (by omega) (by rw [deads_none h.live]; omega) (by rw [h.sz_]; omega)).mono ?_
  rintro e w' ⟨s', rfl, hr, hst, hg, hl, hF, hS⟩
  obtain ⟨e1, e2, e3, e4, e5, e6, e7, e8⟩ := hst.same
  have hnew : ∀ seg, seg = 2 + sq % 2 → PtD.In s' seg ⟨true, sq, ba, ml, el, sq⟩ := by
    intro seg hseg
    subst hseg
    have hml := hp.ml_.1
    have hel := hp.el_.1
    refine .inl ⟨rfl, ⟨hp.sq_, hp.ba_, hp.ml_.2.1, hp.el_.2.1, ?_, ?_⟩, ?_, ?_⟩
    · simp only [] at hml; show ml.length ≤ 1000; omega
    · simp only [] at hel; show el.length ≤ 1000; omega
    · rw [e7, e6, e4, h.sz_, h.pg_, h.n_]; exact hfit
    · rw [e4, e7]; exact hS
  refine ⟨s', rfl, ⟨hr, Nat.le_trans h.hB hst.size, fun m => by rw [hg]; exact h.live m, e4.trans h.n_, e6.trans h.pg_, e7.trans h.sz_, e5.trans h.bl_, h.hn, by omega, ?_, ?_⟩, hst⟩
  · unfold setX
    rcases Nat.mod_two_eq_zero_or_one sq with c | c
    · rw [if_pos (by omega)]; exact hnew 2 (by omega)
    · rw [if_neg (by omega)]; exact h.s0.cong e4 e6 e7 hg fun m r => hF (m, 2, r) (by simp only []; omega)
  · unfold setX
    rcases Nat.mod_two_eq_zero_or_one sq with c | c
    · rw [if_neg (by omega)]; exact h.s1.cong e4 e6 e7 hg fun m r => hF (m, 3, r) (by simp only []; omega)
    · rw [if_pos (by omega)]; exact hnew 3 (by omega)
theorem mem2_last {B : Nat} {s : RS} {n k : Nat} {X : Nat → PtD} {w : World} (h : Mem2 B s n k X w) :
    Calls Tryz.prog 22 #[.iface 51 (.pointer (some ⟨s.rb, 0, none⟩))] w (RdIs (PtD.fold X 2).f (PtD.fold X 2).q (PtD.fold X 2).b (PtD.fold X 2).m (PtD.fold X 2).e (PtD.fold X 2).top w) :=
  ptLast_any h.ram X h.s0 h.s1 h.live (by rw [h.sz_]; omega)
end Go.Proofs.YthgcjiocelcblaaGreat
