/- point.pages: a point's bytes as pages. -/
import Derived.Test.YthgcjiocelcblaaGreatK31
import Derived.Test.YthgcjiocelcblaaGreatK32
import Derived.Maps.AppendAt
namespace Go.Proofs.YthgcjiocelcblaaGreat
open Go.RowKit Go.Deep

theorem wx_raw {w0 x : World} {X : List Nat} (h : WX w0 X x) (hX : X.length ≤ 100000) (xa : Option Addr) (m c : Nat) (cs : List Nat) (hr : Row x xa m cs) (hc : xa = none → c = 0) (hm : m ≤ 100000) :
    Calls Tryz.prog 51 #[.pointer (some ⟨w0.heap.size, 0, none⟩), .slice xa m c] x fun e y => e = .returned (.pointer (some ⟨w0.heap.size, 0, none⟩)) ∧ WX w0 (X ++ cs) y := by
  obtain ⟨sv, h1, h2⟩ := h
  exact (raw_any _ _ sv X x h1 h2.size xa m c cs hr hc (by omega)).mono fun e y hr => wx_of h1 h2 hr
/-- The pages that were made: of the parts that came. -/
def pgPS (gb sz many : Nat) (X : List Nat) (x : Nat) : PS := ⟨some ⟨gb, min x (many - 1) * sz, none⟩, sz, sz, chunkL sz X (min x (many - 1))⟩
def pgsOf (sq many gb sz : Nat) (X : List Nat) (pre : List Nat) : List SP := pre.mapIdx fun i x => ⟨ptHdr sq many i, pgPS gb sz many X x⟩
theorem pgsOf_more (sq many gb sz : Nat) (X : List Nat) (pre : List Nat) (x : Nat) : pgsOf sq many gb sz X (pre ++ [x]) = pgsOf sq many gb sz X pre ++ [⟨ptHdr sq many pre.length, pgPS gb sz many X x⟩] := by
  unfold pgsOf; rw [List.mapIdx_concat]
theorem pgsOf_len (sq many gb sz : Nat) (X : List Nat) (pre : List Nat) : (pgsOf sq many gb sz X pre).length = pre.length := by
  unfold pgsOf; simp
theorem pgsOf_at (sq many gb sz : Nat) (X : List Nat) (i : Nat) (hi : i < many) : (pgsOf sq many gb sz X (upto (fun j => j) many)).getD i SP.nil = ⟨ptHdr sq many i, ⟨some ⟨gb, i * sz, none⟩, sz, sz, chunkL sz X i⟩⟩ := by
  have e : (upto (fun j => j) many)[i]? = some i := by simp [upto, hi]
  unfold pgsOf pgPS
  rw [List.getD, List.getElem?_mapIdx, e, Option.map_some, Option.getD_some, show min i (many - 1) = i by omega]
theorem ckB_enc (gb sz many : Nat) (hm : 0 < many) : ckBEnc gb 0 (many * sz) sz many = fun x => #[.slice (some ⟨gb, min x (many - 1) * sz, none⟩) sz sz] := by
  funext x
  have h : ckN (many * sz) sz (min x (many - 1)) = sz := by
    have := chunk_at (sz := sz) (show min x (many - 1) < many by omega)
    unfold ckN
    omega
  unfold ckBEnc
  rw [h, Nat.zero_add]
/-- slices.Chunk hands its function back. -/
def ChunkRet (sv : Value) (sz : Nat) (w : World) (e : Ending) (w' : World) : Prop :=
  ∃ bs bn, e = .returned (.func (.func 66) #[] #[.pointer (some ⟨bs, 0, none⟩), .pointer (some ⟨bn, 0, none⟩)]) ∧ CkMem sv sz bs bn w' ∧ w.heap.size ≤ bs ∧ w.heap.size ≤ bn ∧ Below w.heap.size w w'
set_option maxRecDepth 100000 in
theorem chunkB_any (sv : Value) (hsv : ∃ a n c, sv = .slice a n c) (sz : Nat) (h0 : 0 < sz) (hs : sz ≤ 100000) (w : World) :
    Calls Tryz.prog 53 #[sv, .int .i64 (sz : Int)] w (ChunkRet sv sz w) := by
  obtain ⟨a, n, c, rfl⟩ := hsv
  have q1 : decide ((sz : Int) < 1) = false := by simp; omega
  have q1' : decide (sz < 1) = false := by simp; omega
  have h1 := heap_alloc_new w (.cells #[.slice a n c] 28)
  have h2 := heap_alloc_new (w.alloc (.cells #[.slice a n c] 28)) (.cells #[.int .i64 (sz : Int)] 3)
  have hb := bel_alloc (bel_alloc (Below.refl _ w) (.cells #[.slice a n c] 28)) (.cells #[.int .i64 (sz : Int)] 3)
  have H : Hid (CkMem (.slice a n c) sz w.heap.size (w.heap.size + 1) ((w.alloc (.cells #[.slice a n c] 28)).alloc (.cells #[.int .i64 (sz : Int)] 3))) := Lib.hid ⟨(heap_alloc_old' (by simp) _).trans h1, by rw [show w.heap.size + 1 = (w.alloc (.cells #[.slice a n c] 28)).heap.size by simp]; exact h2⟩
  have HB := Lib.hid hb
  obtain ⟨c0, c1⟩ := ckB_cells H.out
  clear h1 h2 hb
  go_enter Tryz.func53, Tryz.ntmps53
  go_wp2
  go_ret
  exact ⟨_, _, rfl, H.out, Nat.le_refl _, by simp, HB.out⟩
theorem wrapN {a : Int} {b : Nat} (h : a = (b : Int)) (hb : b ≤ 1000000) : wrap64 a = (b : Int) := by
  rw [h, IntWalk.wrap64_in _ (by omega)]
/-- What is reckoned of a point's pages. -/
structure PgF (sz len many nn : Nat) : Prop where
  t : wrap64 ((wrap64 (wrap64 ((len : Int) + (sz : Int)) - 1)).tdiv (sz : Int)) = (many : Int)
  w3 : IntKind.i64.wrap ((many : Int) * (sz : Int)) = (nn : Int)
  ge : len ≤ nn
  le : nn ≤ 10000
  pos : 0 < many
  m40 : many ≤ 40
theorem pgF_le {many sz nn : Nat} (h : nn = many * sz) (h0 : 256 ≤ sz) (hle : nn ≤ 10000) : many ≤ 40 := by
  rcases Nat.lt_or_ge 40 many with c | c
  · have := Nat.mul_le_mul c h0
    rw [← h] at this
    omega
  · exact c
theorem pgF (sz len : Nat) (h0 : 256 ≤ sz) (h1 : sz ≤ 1024) (hl : 16 ≤ len) (hl2 : len ≤ 8016) : PgF sz len (manyOf sz len) (manyOf sz len * sz) := by
  have a := many_ge (sz := sz) (len := len) (by omega)
  have b := many_le (sz := sz) (len := len)
  have c := many_pos (sz := sz) (len := len) (by omega) (by omega)
  have d : manyOf sz len * sz ≤ 10000 := Nat.le_trans b (by omega)
  have e : manyOf sz len ≤ 40 := pgF_le rfl h0 d
  have t1 : wrap64 ((len : Int) + (sz : Int)) = ((len + sz : Nat) : Int) := wrapN (Int.natCast_add _ _).symm (by omega)
  have t2 : wrap64 (((len + sz : Nat) : Int) - 1) = ((len + sz - 1 : Nat) : Int) := wrapN (by omega) (by omega)
  have t : wrap64 ((wrap64 (wrap64 ((len : Int) + (sz : Int)) - 1)).tdiv (sz : Int)) = ((manyOf sz len : Nat) : Int) := by
    rw [t1, t2]
    exact wrapN (Int.ofNat_tdiv _ _).symm (by omega)
  exact ⟨t, by rw [← Int.natCast_mul]; exact wrap_of (by omega) (by omega), a, d, c, e⟩
theorem cells_new (w : World) (b : Nat) (hb : b = w.heap.size) (cs : List Value) (t : TypeId) (j : Nat) (u : Value) (h : cs[j]? = some u) : (w.alloc (.cells cs.toArray t)).cell? ((⟨b, 0, none⟩ : Addr).add j) = some u := by
  subst hb
  have h1 := heap_alloc_new w (.cells cs.toArray t)
  have e : (⟨w.heap.size, 0, none⟩ : Addr).add j = ⟨w.heap.size, j, none⟩ := by cases j <;> simp [Addr.add]
  rw [e, cell_of_row _ _ _ _ _ _ h1]
  simpa using h
theorem ownsRow_base {B B' : Nat} {w : World} {e : TypeId} {size : Nat} {v : Value} {n : Nat} {xs : List Value} (h : w.ownsRow B e size v n xs) (hB : B' ≤ B) : w.ownsRow B' e size v n xs := by
  refine ⟨h.1, ?_⟩
  rcases h.2 with q | ⟨g, cap, cur, e1, hb, r⟩
  · exact .inl q
  · exact .inr ⟨g, cap, cur, e1, Nat.le_trans hB hb, r⟩
theorem sp_one (p : SP) : ∀ u ∈ SP.cl p, u.oneCell' = true := by
  intro u hu
  simp only [SP.cl, List.mem_cons, List.not_mem_nil, or_false] at hu
  rcases hu with rfl | rfl | rfl | rfl | rfl | rfl | rfl | rfl <;> rfl
theorem box_app {W w1 : World} {lb c n₀ size k : Nat} {tc e : TypeId} {u v : Value} {xs : List Value} (h : Go.Boxed W c tc u) (hte : tc ≠ e) (hrow : W.ownsRow n₀ e size v k xs) (o1 o2 : Obj) (hgrow : ((W.alloc o1).alloc o2).grownBy w1 v.ownBlock) (hne : c ≠ lb) (v' : Value) : (w1.setCell ⟨lb, 0, none⟩ v').heap[c]? = W.heap[c]? :=
  (heap_setCell_other w1 ⟨lb, 0, none⟩ c v' hne).trans ((hgrow.block c (by have := h.lt; simp; omega) (h.not_row hte hrow)).trans ((heap_alloc_old' (by have := h.lt; simp; omega) _).trans (heap_alloc_old' h.lt _)))
def PagesRet (sz sq ba : Nat) (ml el : List Nat) (w : World) (e : Ending) (w' : World) : Prop :=
  ∃ sv L, e = .returned sv ∧ OwnSP w.heap.size w' sv L ∧ L.length = manyOf sz (16 + 4 * ml.length + 4 * el.length) ∧ Below w.heap.size w w' ∧
    ∀ i, i < L.length → (L.getD i SP.nil).h = ptHdr sq L.length i ∧ (L.getD i SP.nil).d.l = chunkL sz (ptX sz sq ba ml el) i ∧ (L.getD i SP.nil).d.n = sz ∧ PartOk w' (L.getD i SP.nil).d ∧ Far w.heap.size (L.getD i SP.nil).d
theorem pt_box {w : World} (n bl pg sz : Int) (v0 v1 v2 v3 : Value) : ∀ x, Below (w.heap.size + 2) ((w.alloc (.cells #[.int .i64 n, .int .i64 bl, .int .i64 pg, .int .i64 sz] 49)).alloc (.cells #[v0, v1, v2, v3] 25)) x →
    x.cell? ⟨w.heap.size, 0, none⟩ = some (.int .i64 n) ∧ x.cell? ⟨w.heap.size, 1, none⟩ = some (.int .i64 bl) ∧ x.cell? ⟨w.heap.size, 2, none⟩ = some (.int .i64 pg) ∧ x.cell? ⟨w.heap.size, 3, none⟩ = some (.int .i64 sz) ∧
    x.cell? ⟨w.heap.size + 1, 0, none⟩ = some v0 ∧ x.cell? ⟨w.heap.size + 1, 1, none⟩ = some v1 ∧ x.cell? ⟨w.heap.size + 1, 2, none⟩ = some v2 ∧ x.cell? ⟨w.heap.size + 1, 3, none⟩ = some v3 := by
  intro x hx
  have h1 := (heap_alloc_old' (w := w.alloc (.cells #[.int .i64 n, .int .i64 bl, .int .i64 pg, .int .i64 sz] 49)) (k := w.heap.size) (by simp) (.cells #[v0, v1, v2, v3] 25)).trans (heap_alloc_new w _)
  have h2 := heap_alloc_new (w.alloc (.cells #[.int .i64 n, .int .i64 bl, .int .i64 pg, .int .i64 sz] 49)) (.cells #[v0, v1, v2, v3] 25)
  rw [show (w.alloc (.cells #[.int .i64 n, .int .i64 bl, .int .i64 pg, .int .i64 sz] 49)).heap.size = w.heap.size + 1 by simp] at h2
  have k1 := (hx.block _ (by omega)).trans h1
  have k2 := (hx.block _ (by omega)).trans h2
  refine ⟨?_, ?_, ?_, ?_, ?_, ?_, ?_, ?_⟩ <;> simp [World.cell?, k1, k2]
attribute [local go_sem] Oper.semAt_some
set_option maxRecDepth 100000 in
set_option maxHeartbeats 4000000 in
theorem ptPages_any (n bl pg : Int) (sz sq ba : Nat) (ma : Option Addr) (mn mc : Nat) (ml : List Nat) (ea : Option Addr) (en ec : Nat) (el : List Nat) (w : World) (h : PT.Ok ⟨sq, ba, ma, mn, mc, ml, ea, en, ec, el⟩ w) (hm : mn ≤ 1000) (he : en ≤ 1000) (h0 : 256 ≤ sz) (h1 : sz ≤ 1024) :
    Calls Tryz.prog 36 #[.agg #[.int .i64 n, .int .i64 bl, .int .i64 pg, .int .i64 (sz : Int)], .agg #[.int .u32 (sq : Int), .int .u32 (ba : Int), .slice ma mn mc, .slice ea en ec]] w (PagesRet sz sq ba ml el w) := by
  refine (callsIn_wide (n := 3)).1 ?_
  have hml : ml.length = mn := h.ml_.1
  have hel : el.length = en := h.el_.1
  obtain ⟨len, hlen⟩ : ∃ x, x = 16 + 4 * mn + 4 * en := ⟨_, rfl⟩
  obtain ⟨many, hmany⟩ : ∃ x, x = manyOf sz len := ⟨_, rfl⟩
  obtain ⟨X, hX⟩ : ∃ x, x = ptX sz sq ba ml el := ⟨_, rfl⟩
  have hF := pgF sz len h0 h1 (by omega) (by omega)
  rw [← hmany] at hF
  obtain ⟨nn, hnn⟩ : ∃ x, x = many * sz := ⟨_, rfl⟩
  rw [← hnn] at hF
  have HF := Lib.hid hF
  have hXl : X.length = nn := by rw [hX, ptX_len (Nat.lt_of_lt_of_le (by decide) h0), hnn, hmany, hlen, hml, hel]
  have HPB := Lib.hid fun (x : World) (hx : Below w.heap.size w x) => ptEncode_any sq ba ma mn mc ml ea en ec el x (h.step hx) hm he
  have HBX := Lib.hid (pt_box (w := w) n bl pg (sz : Int) (.int .u32 (sq : Int)) (.int .u32 (ba : Int)) (.slice ma mn mc) (.slice ea en ec))
  have HBL : Hid ((ptB sq ba ml el).length = len) := Lib.hid (by rw [ptB_len, hml, hel, hlen])
  obtain ⟨w2, hw2'⟩ : ∃ x, x = (w.alloc (.cells #[.int .i64 n, .int .i64 bl, .int .i64 pg, .int .i64 (sz : Int)] 49)).alloc (.cells #[.int .u32 (sq : Int), .int .u32 (ba : Int), .slice ma mn mc, .slice ea en ec] 25) := ⟨_, rfl⟩
  have HB2 : Hid (Below w.heap.size w w2 ∧ w2.heap.size = w.heap.size + 2) := Lib.hid ⟨by rw [hw2']; exact bel_alloc (bel_alloc (Below.refl _ _) _) _, by rw [hw2']; simp⟩
  rw [← hw2'] at HBX
  have HWN := Lib.hid hw2'
  have HZ := Lib.hid (And.intro h0 h1)
  clear h0 h1
  have HN := Lib.hid (And.intro hml (And.intro hel (And.intro hlen (And.intro hmany (And.intro hX (And.intro hnn hXl))))))
  clear hF h hml hel hlen hmany hX hnn hXl hw2' hm he
  refine callsIn_of_wp_marks Tryz.func36 rfl trivial ?_ rfl
  simp only [Tryz.ntmps36, List.size_toArray, List.length_cons, List.length_nil, Nat.reduceAdd, Nat.reduceSub, Array.replicate_succ, Array.replicate_zero, List.push_toArray, List.append_toArray, List.nil_append, List.cons_append]
  refine wpIn_wide.2 ?_
  go_upto_region 1 with fail
  rw [← HWN.out]
  obtain ⟨c0, c1, c2, c3, c4, c5, c6, c7⟩ := HBX.out w2 (Below.refl _ _)
  go_wp2_with fail
  ((with_reducible refine (HPB.out w2 HB2.out.1).mono ?_))
  rintro e w3 hr
  obtain ⟨xa, xc, rfl, hrow, hnc, hown, hb3⟩ := retOwn_len hr
  rw [HBL.out] at hrow hown ⊢
  have hb3' : Below (w.heap.size + 2) w2 w3 := by have := HB2.out.2; rw [← this]; exact hb3
  have HR3 := Lib.hid (And.intro hrow (And.intro hnc hb3'))
  obtain ⟨d0, d1, d2, d3, d4, d5, d6, d7⟩ := HBX.out w3 hb3'
  clear hr hrow hnc hown hb3 hb3' c0 c1 c2 c3 c4 c5 c6 c7 d0 d1 d2 d4 d5 d6 d7
  have hsz0 : ((sz : Nat) : Int) ≠ 0 := by have := HZ.out.1; omega
  go_upto_region 3 with fail
  rw [HF.out.t]
  have hbx := heap_alloc_new w3 (.cells #[.int .i64 (many : Int)] 3)
  have hb4 := bel_alloc (Below.refl w3.heap.size w3) (.cells #[.int .i64 (many : Int)] 3)
  obtain ⟨mb, hmb⟩ : ∃ x, x = w3.heap.size := ⟨_, rfl⟩
  obtain ⟨w4, hw4⟩ : ∃ x, x = w3.alloc (.cells #[.int .i64 (many : Int)] 3) := ⟨_, rfl⟩
  rw [← hw4, ← hmb] at hbx
  rw [← hw4] at hb4 ⊢
  rw [← hmb]
  have HR4 : Hid (Row w4 xa len (ptB sq ba ml el) ∧ (xa = none → xc = 0) ∧ Below (w.heap.size + 2) w2 w4) := Lib.hid ⟨row_keep HR3.out.1 hb4 (Nat.le_refl _), HR3.out.2.1, HR3.out.2.2.trans (hb4.mono (by have := HR3.out.2.2.size; have := HB2.out.2; omega))⟩
  have HM4 : Hid (w4.heap[mb]? = some (.cells #[.int .i64 (many : Int)] 3 (0, 0)) ∧ mb < w4.heap.size ∧ w.heap.size + 2 ≤ mb) := Lib.hid ⟨hbx, (Array.getElem?_eq_some_iff.1 hbx).1, by rw [hmb]; have := HR3.out.2.2.size; have := HB2.out.2; omega⟩
  clear hbx hb4 hmb hw4 d3 hsz0 HR3
  have HXP : Hid (padTo ([] ++ ptB sq ba ml el) ((nn : Nat) : Int) = X) := Lib.hid (by
    obtain ⟨e1, e2, e3, e4, e5, e6, _⟩ := HN.out
    rw [e5, e6, e4, e3, ← e1, ← e2]; rfl)
  have HRA : Hid (Calls Tryz.prog 51 #[.pointer (some ⟨w4.heap.size, 0, none⟩), .slice xa len xc] (w4.alloc (.cells #[.slice none 0 0] 72)).drew fun e y => e = .returned (.pointer (some ⟨w4.heap.size, 0, none⟩)) ∧ WX w4 ([] ++ ptB sq ba ml el) y) := Lib.hid
    (wx_raw ((wx_new w4).step (Below.refl _ _).drew) (by simp) xa len xc (ptB sq ba ml el) (row_keep HR4.out.1 (bel_alloc (Below.refl _ _) _).drew (Nat.le_refl _)) HR4.out.2.1 (by have := HF.out.ge; have := HF.out.le; omega))
  have HPA : Hid (∀ x y : World, WX x ([] ++ ptB sq ba ml el) y → Calls Tryz.prog 52 #[.pointer (some ⟨x.heap.size, 0, none⟩), .int .i64 (nn : Int)] y fun e z => e = .returned (.pointer (some ⟨x.heap.size, 0, none⟩)) ∧ WX x X z) := Lib.hid fun x y hy => by
    have := wx_pad hy (by rw [List.nil_append, HBL.out]; have := HF.out.ge; have := HF.out.le; omega) nn (by have := HF.out.le; omega)
    rw [HXP.out] at this
    exact this
  have HBY : Hid (∀ x y : World, WX x X y → Calls Tryz.prog 27 #[.pointer (some ⟨x.heap.size, 0, none⟩)] y (RetOwn y X)) := Lib.hid fun x y hy =>
    wx_bytes hy (by rw [HN.out.2.2.2.2.2.2]; have := HF.out.le; omega)
  have HC4 : Hid (∀ y : World, Below w4.heap.size w4 y → y.cell? ⟨mb, 0, none⟩ = some (.int .i64 (many : Int)) ∧ y.cell? ⟨w.heap.size, 3, none⟩ = some (.int .i64 (sz : Int))) := Lib.hid fun y hy => by
    have h1 := (hy.block mb HM4.out.2.1).trans HM4.out.1
    exact ⟨by simp [World.cell?, h1], (HBX.out y (HR4.out.2.2.trans (hy.mono (by have := HR4.out.2.2.size; have := HB2.out.2; omega)))).2.2.2.1⟩
  have hw3 := HF.out.w3
  have hS9 := HC4.out w4.drew (Below.refl _ _).drew
  have hS0 := HC4.out (w4.alloc (.cells #[.slice none 0 0] 72)).drew (bel_alloc (Below.refl _ _) _).drew
  go_wp2
  go_region_held3 (fun x => x.cell? ⟨mb, 0, none⟩ = some (.int .i64 (many : Int)) ∧ x.cell? ⟨w.heap.size, 3, none⟩ = some (.int .i64 (sz : Int)))
    (first | with_reducible exact hS9 | with_reducible exact hS0 | with_reducible exact hS1 | with_reducible exact hS2 | with_reducible exact hS3 | go_keep)
    (first
      | (go_simp; go_at_call 51; ((with_reducible refine HRA.out.mono ?_)); (intro e y1 hr; obtain ⟨rfl, hx⟩ := hr; have HX1 := Lib.hid hx; have hS1 := HC4.out y1 hx.bel; clear hx))
      | (go_simp; go_at_call 52; ((with_reducible refine (HPA.out _ _ HX1.out).mono ?_)); (intro e y2 hr; obtain ⟨rfl, hx⟩ := hr; have HX2 := Lib.hid hx; have hS2 := HC4.out y2 hx.bel; clear hx))
      | (go_simp; go_at_call 27; ((with_reducible refine (HBY.out _ _ HX2.out).mono ?_)); (intro e y3 hr; obtain ⟨ba3, bc3, rfl, hrw, hn3, ho3, hb3⟩ := retOwn_len hr; have HX3 := Lib.hid (And.intro hrw (And.intro hn3 (And.intro ho3 hb3))); have hS3 := HC4.out y3 (HX2.out.bel.trans (hb3.mono HX2.out.size)); clear hr hrw hn3 ho3 hb3)))
  all_goals
    obtain ⟨gb, hgb⟩ : ∃ gb, ba3 = some ⟨gb, 0, none⟩ := by
      rcases HX3.out.2.2.1.1.2 with ⟨_, q0⟩ | ⟨g, cap, cur, e, _⟩
      · have := HF.out.ge; have := HN.out.2.2.2.2.2.2; have := HN.out.2.2.1; omega
      · simp only [Value.slice.injEq] at e
        exact ⟨g, e.1⟩
    subst hgb
    have hXL := HN.out.2.2.2.2.2.2
    have HBY3 : Hid (Below (w.heap.size + 2) w2 y3 ∧ w4.heap.size ≤ y3.heap.size) := Lib.hid ⟨HR4.out.2.2.trans ((HX2.out.bel.trans (HX3.out.2.2.2.mono HX2.out.size)).mono (by have := HR4.out.2.2.size; have := HB2.out.2; omega)), Nat.le_trans HX2.out.size HX3.out.2.2.2.size⟩
    have HRW : Hid (Row y3 (some ⟨gb, 0, none⟩) nn X) := Lib.hid (by rw [← hXL]; exact HX3.out.1)
    have HM3 : Hid (y3.heap[mb]? = some (.cells #[.int .i64 (many : Int)] 3 (0, 0)) ∧ mb < y3.heap.size) := Lib.hid (by
      have := (HX2.out.bel.trans (HX3.out.2.2.2.mono HX2.out.size)).block mb HM4.out.2.1
      exact ⟨this.trans HM4.out.1, Nat.lt_of_lt_of_le HM4.out.2.1 HBY3.out.2⟩)
    have HGB : Hid (gb < y3.heap.size ∧ nn ≤ bc3 ∧ w.heap.size ≤ gb) := Lib.hid (by
      rcases HX3.out.2.2.1.1.2 with ⟨_, q0⟩ | ⟨g, cap, cur, e, hgl, hg, hc, _⟩
      · have := HF.out.ge; have := HN.out.2.2.1; omega
      · simp only [Value.slice.injEq, Option.some.injEq, Addr.mk.injEq] at e
        obtain ⟨⟨e1, _⟩, _, e3⟩ := e
        rw [e1, e3, ← hXL]
        exact ⟨(Array.getElem?_eq_some_iff.1 hg).1, hc, Nat.le_trans (Nat.le_trans (by have := HR4.out.2.2.size; have := HB2.out.2; omega) HX2.out.size) hgl⟩)
    rw [hXL]
    clear hXL
    go_upto_region 5 with fail
    have hlx : Go.Boxed (y3.alloc (.cells #[.slice none 0 0] 84)) y3.heap.size 84 (.slice none 0 0) := Go.Boxed.new _ _ _
    have hb5 := bel_alloc (Below.refl y3.heap.size y3) (.cells #[.slice none 0 0] 84)
    obtain ⟨lb, hlb⟩ : ∃ x, x = y3.heap.size := ⟨_, rfl⟩
    obtain ⟨w5, hw5⟩ : ∃ x, x = y3.alloc (.cells #[.slice none 0 0] 84) := ⟨_, rfl⟩
    rw [← hw5, ← hlb] at hlx
    rw [← hw5, ← hlb] at hb5
    rw [← hw5, ← hlb]
    have HL5 : Hid (Go.Boxed w5 lb 84 (.slice none 0 0) ∧ Below lb y3 w5 ∧ lb = y3.heap.size) := Lib.hid ⟨hlx, hb5, hlb⟩
    have d3 := (HBX.out w5 (HBY3.out.1.trans (hb5.mono (by have := HBY3.out.1.size; have := HB2.out.2; omega)))).2.2.2.1
    clear hlx hb5 hlb hw5
    have HCH := Lib.hid (chunkB_any (.slice (some ⟨gb, 0, none⟩) nn bc3) ⟨_, _, _, rfl⟩ sz (by have := HZ.out.1; omega) (by have := HZ.out.2; omega) w5)
    go_wp2_with fail
    ((with_reducible refine HCH.out.mono ?_))
    rintro e w6 ⟨bs, bn, rfl, hck, hbs, hbn, hb6⟩
    have HK6 := Lib.hid (And.intro hck (And.intro hbs (And.intro hbn hb6)))
    clear hck hbs hbn hb6 d3
    go_wp2
    have hbs5 : lb < w5.heap.size := HL5.out.1.lt
    have hck6 := HK6.out.1
    have hnm : ∀ k, k < many ↔ k * sz < nn := by
      have e := HN.out.2.2.2.2.2.1
      have hs := HZ.out.1
      intro k
      rw [e]
      constructor
      · intro h; exact Nat.mul_lt_mul_of_pos_right h (by omega)
      · intro h; exact Nat.lt_of_mul_lt_mul_right h
    have henc : ckBEnc gb 0 nn sz many = fun x => #[.slice (some ⟨gb, min x (many - 1) * sz, none⟩) sz sz] := by
      rw [HN.out.2.2.2.2.2.1]; exact ckB_enc gb sz many HF.out.pos
    have hst := ckB_stops 2 (by omega) gb 0 nn bc3 sz many bs bn (by have := HF.out.le; omega) HGB.out.2.1 (by have := HZ.out.1; omega) (by have := HZ.out.2; omega) hnm w6 hck6
    rw [henc] at hst
    obtain ⟨kb1, kb2⟩ := ckB_lt hck6
    have hlb6 : lb ≤ w6.heap.size := Nat.le_trans (Nat.le_of_lt hbs5) HK6.out.2.2.2.size
    have HI0 : Hid (Go.Boxed w6 lb 84 (.slice none 0 0) ∧ Below lb y3 w6) := Lib.hid ⟨(HK6.out.2.2.2.block lb hbs5).trans HL5.out.1, HL5.out.2.1.trans (HK6.out.2.2.2.mono (Nat.le_of_lt hbs5))⟩
    have HQ := Lib.hid HL5.out.2.2
    clear henc hnm
    refine (wpIn_wide (n := 3)).1 ?_
    refine wpIn_rangeFunc_ownG (n := 3) rfl (by omega) (gf := 66) (lb := #[.pointer (some ⟨bs, 0, none⟩), .pointer (some ⟨bn, 0, none⟩)]) rfl trivial (enters_of Tryz.func66 (by kernel_rfl) rfl)
      hst twoKept_t (twoKept_b kb1 kb2) (Below.refl _ _) (fun _ => rfl)
      (fun pre W => ((∃ v, Go.Boxed W lb 84 v ∧ W.ownsRow lb 95 8 v (pgsOf sq many gb sz X pre).length ((pgsOf sq many gb sz X pre).flatMap SP.cl) ∧ True) ∧ (Go.Boxed W bs 28 (.slice (some ⟨gb, 0, none⟩) nn bc3) ∧ Go.Boxed W bn 3 (.int .i64 (sz : Int)))) ∧ Below lb y3 W)
      (fun _ _ _ => False)
      (OwnFrom.and (OwnFrom.and (Own.from (holdsRow_own lb lb 84 95 8 (fun pre => (pgsOf sq many gb sz X pre).length) (fun pre => (pgsOf sq many gb sz X pre).flatMap SP.cl) (fun _ _ => True)) _) (OwnFrom.and (Own.from (boxed_own _ _ _) _) (Own.from (boxed_own _ _ _) _))) (ownFrom_below (Nat.le_of_eq HQ.out) hlb6))
      (fun c => Own.from (fun _ _ _ _ hs _ _ => hs) _)
      ⟨⟨⟨_, HI0.out.1, World.ownsRow_nil w6 lb _ 8, trivial⟩, hck6.1, hck6.2⟩, HI0.out.2⟩
      (fun x => { tmps := #[.agg #[.int .i64 n, .int .i64 bl, .int .i64 pg, .int .i64 (sz : Int)], .agg #[.int .u32 (sq : Int), .int .u32 (ba : Int), .slice ma mn mc, .slice ea en ec], .pointer (some ⟨w.heap.size, 0, none⟩), .pointer (some ⟨w.heap.size + 1, 0, none⟩), .slice none 0 0, .slice (some ⟨gb, 0, none⟩) nn bc3, .pointer (some ⟨mb, 0, none⟩), .pointer (some ⟨lb, 0, none⟩), .slice (some ⟨gb, min x (many - 1) * sz, none⟩) sz sz, undef,
        .agg #[.int .u32 (sq : Int), .int .u32 (ba : Int), .slice ma mn mc, .slice ea en ec], .slice xa len xc, .slice xa len xc, .int .i64 (len : Int), .pointer (some ⟨w.heap.size, 3, none⟩), .int .i64 (sz : Int), .int .i64 (wrap64 ((len : Int) + (sz : Int))), .int .i64 (wrap64 (wrap64 ((len : Int) + (sz : Int)) - 1)), .pointer (some ⟨w.heap.size, 3, none⟩), .int .i64 (sz : Int), .int .i64 (many : Int), .agg #[.slice none 0 0], .pointer (some ⟨w4.heap.size, 0, none⟩), .slice xa len xc, .pointer (some ⟨w4.heap.size, 0, none⟩), .int .i64 (many : Int), .pointer (some ⟨w.heap.size, 3, none⟩), .int .i64 (sz : Int), .int .i64 (nn : Int), .pointer (some ⟨w4.heap.size, 0, none⟩), .slice (some ⟨gb, 0, none⟩) nn bc3, .slice (some ⟨gb, 0, none⟩) nn bc3, .pointer (some ⟨w.heap.size, 3, none⟩), .int .i64 (sz : Int), .func (.func 66) #[] #[.pointer (some ⟨bs, 0, none⟩), .pointer (some ⟨bn, 0, none⟩)], .slice (some ⟨gb, min x (many - 1) * sz, none⟩) sz sz, undef, undef, undef, undef, undef, undef, undef, undef, undef, undef, undef, undef, undef, undef, undef], defers := [] }) ?assign ?body ?done ?stop
    case assign =>
      intro l x W K hK
      gi_wp2
      exact hK
    case body =>
      rintro l pre x W ⟨⟨⟨v, hv, hown, _⟩, hs1, hs2⟩, hB⟩ hlen
      have hlq := HQ.out
      obtain ⟨va, vc, rfl, _⟩ := cellsSP_own (B := lb) (L := pgsOf sq many gb sz X pre) hown
      rw [pgsOf_len] at hown hv
      have hB2 : Below (w.heap.size + 2) w2 W := HBY3.out.1.trans (hB.mono (by have := HBY3.out.1.size; have := HB2.out.2; omega))
      have g4 := (HBX.out W hB2).2.2.2.2.1
      have g5 : W.cell? ⟨mb, 0, none⟩ = some (.int .i64 (many : Int)) := by
        have h1 := (hB.block mb (by rw [HQ.out]; exact HM3.out.2)).trans HM3.out.1
        simp [World.cell?, h1]
      have u1 : IntKind.u16.wrap ((pre.length : Nat) : Int) = ((pre.length : Nat) : Int) := by rw [IntKind.wrap_u16]; have := HF.out.m40; omega
      have u2 : IntKind.u16.wrap ((many : Nat) : Int) = ((many : Nat) : Int) := by rw [IntKind.wrap_u16]; have := HF.out.m40; omega
      have hvc := hv.cell
      have hvf := hv.frozen
      have hvl := hv.lt
      have HV := Lib.hid (And.intro hv (And.intro hown (And.intro hs1 (And.intro hs2 (And.intro hB hlen)))))
      clear hv hown hs1 hs2 hB hlen hB2 hst kb1 kb2 hlb6 hck6 hbs5 hlq
      obtain ⟨i0, hi0, hz0, hz1, hz2⟩ := info_parts info_sp
      gi_wp2_with (gi_at_builtin; refine wpListIn_append_own _ rfl _ _ 84 rfl lb 95 i0 _ 8 48 Tryz.underlying84 hi0 hz0 hz1 hz2 rfl (by decide) _ _ _ rfl ((HV.out.2.1.alloc _).alloc _) ⟨_, 0, none⟩ 1 1 (SP.cl ⟨ptHdr sq many pre.length, pgPS gb sz many X x⟩) rfl rfl (cells_new _ _ (by simp) _ _) (sp_one _) (by have := HV.out.2.2.2.2.2; have := HF.out.m40; unfold maxLen; omega) (by have := HV.out.2.2.2.2.2; have := HF.out.m40; omega) (by have := HV.out.1.lt; simp; omega) ?_)
      intro v' w1 hown1 hgrow _
      obtain ⟨g', cap', rfl⟩ := ownsRow_succ hown1
      obtain ⟨hv1, hv2, hr2, hk2, hb2⟩ := (HV.out.1.alloc _).appended (by decide) (HV.out.2.1.alloc _) (by have := HV.out.1.lt; simp; omega) (Nat.le_refl _) hown1 hgrow
      have hkA := box_app (lb := lb) HV.out.2.2.1 (by decide) HV.out.2.1 _ _ hgrow (by have := HK6.out.2.1; have := HL5.out.1.lt; omega) (.slice (some ⟨g', 0, none⟩) (pre.length + 1) cap')
      have hkB := box_app (lb := lb) HV.out.2.2.2.1 (by decide) HV.out.2.1 _ _ hgrow (by have := HK6.out.2.2.1; have := HL5.out.1.lt; omega) (.slice (some ⟨g', 0, none⟩) (pre.length + 1) cap')
      have hc1 := hv1.cell
      have hf1 := hv1.frozen
      have hk3 := (KeepsOthers.alloc W _).trans hk2
      have hb3 := ((Below.refl lb W).alloc (Nat.le_of_lt HV.out.1.lt) _).trans hb2
      have HE := Lib.hid (And.intro hv2 (And.intro hr2 (And.intro hk3 (And.intro hb3 (And.intro hkA hkB)))))
      clear hk3 hb3
      clear hv1 hv2 hr2 hk2 hb2 hkA hkB hown1 hgrow
      gi_wp2
      obtain ⟨hv2, hr2, hk2, hb2, hkA, hkB⟩ := HE.out
      refine ⟨hk2.from _, ⟨hb2.size, hkA, hkB⟩, ⟨⟨_, hv2, ?_, trivial⟩, hkA.trans HV.out.2.2.1, hkB.trans HV.out.2.2.2.1⟩, HV.out.2.2.2.2.1.trans hb2⟩
      rw [pgsOf_len, pgsOf_more, List.flatMap_append, List.length_append]
      simpa using hr2
    case done =>
      rintro D ys W hD rfl ⟨⟨⟨v, hv, hown, _⟩, _, _⟩, hB⟩ hK
      obtain ⟨va, vc, rfl, hcl⟩ := cellsSP_own (B := lb) (L := pgsOf sq many gb sz X (upto (fun j => j) many)) hown
      rw [pgsOf_len, upto_length] at hown hv
      have hvc := hv.cell
      have HV := Lib.hid (And.intro hv (And.intro hown (And.intro hB hK)))
      clear hv hown hB hcl hK hst
      gi_wp2
      refine (wpIn_wide (n := 3)).1 ?_
      gi_wp2
      obtain ⟨hv, hown, hB, hK⟩ := HV.out
      refine ⟨by simp, .inl ⟨_, _, rfl, run_takeDeferred hK, ?_⟩⟩
      have hBK := belowK_b (w := w6) hlb6 W D _ (.deferred none) hD hK rfl rfl
      have hown2 := ownsRow_putObj hown (.deferred none) hK rfl
      have hB2 := hB.trans hBK
      have hlq := HQ.out
      have hwl : w.heap.size ≤ lb := by rw [hlq]; have := HBY3.out.1.size; have := HB2.out.2; omega
      have hrow := row_below (HRW.out) hB2 (fun x hx => by cases hx; rw [hlq]; exact HGB.out.1)
      obtain ⟨e1, e2, e3, e4, e5, e6, e7⟩ := HN.out
      refine ⟨.slice va many vc, ?_, _, pgsOf sq many gb sz X (upto (fun j => j) many), rfl, ?_, ?_, ?_, ?_⟩
      · simp [results, Tryz.results36, go_sem]
      · unfold OwnSP
        rw [pgsOf_len, upto_length]
        exact ownsRow_base hown2 hwl
      · rw [pgsOf_len, upto_length, e4, e3, e1, e2]
      · exact (HB2.out.1.trans (HBY3.out.1.mono (by omega))).trans (hB2.mono hwl)
      · intro i hi
        rw [pgsOf_len, upto_length] at hi ⊢
        rw [pgsOf_at _ _ _ _ _ _ hi]
        have hat := chunk_at (sz := sz) hi
        refine ⟨rfl, by rw [e5], rfl, ⟨?_, Nat.le_refl _, show sz ≤ maxLen by have := HZ.out.2; unfold maxLen; omega, fun h => by cases h⟩, fun x hx => ?_⟩
        · have := row_mid hrow (i * sz) sz (by rw [e6]; exact hat)
          rw [Nat.zero_add] at this
          exact this
        · cases hx
          exact HGB.out.2.2
    case stop =>
      rintro D c pre W _ _ h _
      exact h.elim
end Go.Proofs.YthgcjiocelcblaaGreat
