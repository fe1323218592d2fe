/- gabionlaw10.kept: a page is read, though its member is dead. -/
import Derived.Test.YtnhklomofebfaaaStBack
import Derived.Test.YtnhklomofebfaaaRamKill
namespace Go.Proofs.Ytnhklomofebfaaa
open Go.RowKit Go.Deep

theorem ordL_all {n : Nat} {z : Int} {x : Nat} (hx : x < n) : x ∈ ordL 0 n z := by
  have hr : ∀ i (h : i < (rangeL 0 n).length), (rangeL 0 n)[i] = i := fun i h => by simp [rangeL]
  have hl : (rangeL 0 n).length = n := rangeL_len 0 n
  unfold ordL
  split
  · rename_i hz
    by_cases e : x = z.toNat
    · rw [e]; exact List.mem_cons_self
    · refine List.mem_cons_of_mem _ (List.mem_eraseIdx_iff_getElem.2 ⟨x, by omega, by omega, hr x (by omega)⟩)
  · exact List.mem_iff_getElem.2 ⟨x, by omega, hr x (by omega)⟩
theorem has_wrote {s s' : RS} {n p seg row : Nat} {G : List PG} {P : PG} (hW : Wrote s s' seg row (ordL 0 n s.first) (onB p G P)) {m : Nat} (hm : m < n) (hg : s.gone m = 0) : s'.page (m, seg, row) = onB p G P m := by
  obtain ⟨q, h1, h2⟩ := hW.1 m (ordL_all hm) hg
  rw [row_page_some h1]; exact h2
theorem ownsI_shape {B : Nat} {w : World} {e : TypeId} {sz : Nat} {v : Value} {n : Nat} {xs : List Value} (h : w.ownsRow B e sz v n xs) : ∃ a c, v = .slice a n c := by
  rcases h.2 with ⟨rfl, h0⟩ | ⟨g, cap, cur, rfl, _⟩
  · exact ⟨none, 0, by rw [h0]⟩
  · exact ⟨_, _, rfl⟩
theorem deads_none {s : RS} (h : ∀ m, s.gone m = 0) (ms : List Nat) : deads s ms = 0 := by
  unfold deads
  simp [h]
theorem chips0 : chipsOf 0 = 3 := by
  unfold chipsOf modN
  rw [IntKind.wrap_u64]
  rfl
/-- Pages that aren't the members'. -/
structure Pgs (s : RS) (w : World) (a : Option Addr) (L : List SP) : Prop where
  pg : PagesSP w a L
  len : 0 < L.length ∧ ∀ q ∈ L, 0 < q.d.n
  at_ : ∀ x, a = some x → ¬ s.ob x.block
  parts : ∀ q ∈ L, ∀ x, q.d.a = some x → ¬ s.ob x.block
theorem spat_at {q : SP} {b o : Nat} {w w' : World} (h : SPat q b o w) (e : w'.heap[b]? = w.heap[b]?) : SPat q b o w' := by
  obtain ⟨h0, h1, h2, h3, h4, h5, h6, h7⟩ := h
  exact ⟨(World.cell?_of_block (w := w) (a := ⟨b, o, none⟩) e).trans h0, (World.cell?_of_block (w := w) (a := ⟨b, o + 1, none⟩) e).trans h1, (World.cell?_of_block (w := w) (a := ⟨b, o + 2, none⟩) e).trans h2, (World.cell?_of_block (w := w) (a := ⟨b, o + 3, none⟩) e).trans h3, (World.cell?_of_block (w := w) (a := ⟨b, o + 4, none⟩) e).trans h4, (World.cell?_of_block (w := w) (a := ⟨b, o + 5, none⟩) e).trans h5, (World.cell?_of_block (w := w) (a := ⟨b, o + 6, none⟩) e).trans h6, (World.cell?_of_block (w := w) (a := ⟨b, o + 7, none⟩) e).trans h7⟩
theorem Pgs.move {s s' : RS} {w w' : World} {a : Option Addr} {L : List SP} (h : Pgs s w a L) (hs : ∀ k, k < w.heap.size → ¬ s.ob k → ¬ s'.ob k ∧ w'.heap[k]? = w.heap[k]?) : Pgs s' w' a L := by
  obtain ⟨b, off, e, hc⟩ := h.pg.1 h.len.1
  have hlt : b < w.heap.size := World.block_lt_of_cell? w _ (hc 0 h.len.1).1
  have hb := hs b hlt (h.at_ _ e)
  have hq : ∀ q ∈ L, ∀ x, q.d.a = some x → ¬ s'.ob x.block ∧ w'.heap[x.block]? = w.heap[x.block]? := fun q hq x hx => hs x.block ((h.pg.2 q hq).1.lt (h.len.2 q hq) x hx) (h.parts q hq x hx)
  refine ⟨⟨fun h0 => ⟨b, off, e, fun i hi => spat_at (hc i hi) hb.2⟩, fun q hq' => ⟨(h.pg.2 q hq').1.at_ fun _ x hx => (hq q hq' x hx).2, (h.pg.2 q hq').2⟩⟩, h.len, fun x hx => ?_, fun q hq' x hx => (hq q hq' x hx).1⟩
  rw [e] at hx
  cases hx
  exact hb.1
theorem Pgs.step {s : RS} {w w' : World} {a : Option Addr} {L : List SP} (h : Pgs s w a L) (hb : Below w.heap.size w w') : Pgs s w' a L := h.move fun k hk hn => ⟨hn, hb.block k hk⟩
theorem Pgs.rstep {s s' : RS} {w w' : World} {a : Option Addr} {L : List SP} (h : Pgs s w a L) (hs : RStep s w s' w') : Pgs s' w' a L := h.move hs.block
theorem pgs_new {q : Nat → List Nat × RH} {k sz : Nat} {sv : Value} {L : List SP} {B : Nat} {s : RS} {w0 w : World} (hr : Ram B s w0) (h : GotP sz q w0.heap.size k sv L w) (hq : ∀ j, j < k → (q j).1.length = sz ∧ (q j).2.Fits ∧ 1 ≤ (q j).2.ki ∧ (q j).2.ki ≤ 6) (hk : 0 < k) (hsz : 0 < sz) :
    ∃ a cap, sv = .slice a k cap ∧ Pgs s w a L ∧ (∀ x ∈ L, x.d.n = sz) ∧ LOk L sz ∧ L.length = k := by
  obtain ⟨a, cap, e, h1, h2, h3, h4⟩ := gotP_sp h hq
  refine ⟨a, cap, e, ⟨h1, ⟨by omega, fun q hq => by rw [h2 q hq]; exact hsz⟩, fun x hx => ?_, fun q hq x hx => ?_⟩, h2, h3, h4⟩
  · rw [e, hx] at h
    rcases h.1.2 with ⟨e0, _⟩ | ⟨g, cap, cur, e0, hge, _⟩
    · cases e0
    · cases e0; exact hr.fresh hge
  · obtain ⟨j, hj, ej⟩ := List.mem_iff_getElem.1 hq
    have e2 : L.getD j SP.nil = q := by simp [List.getD, hj, ej]
    have := (h.2.2 j (by omega)).2.2.2.2.1
    rw [e2] at this
    exact hr.fresh (this x hx)
/-- A page of a slice of pages, cell by cell. -/
theorem spage_at {w : World} {a : Option Addr} {L : List SP} (h : CellsSP w a L) {i : Nat} (hi : i < L.length) : ∃ b off, a = some ⟨b, off, none⟩ ∧ SPat (L.getD i SP.nil) b (off + i * 8) w := by
  obtain ⟨b, off, e, hc⟩ := h (by omega)
  exact ⟨b, off, e, hc i hi⟩
set_option maxRecDepth 100000 in
set_option maxHeartbeats 4000000 in
theorem kept_any (w : World) : Calls Try.prog 4 #[] w fun e w' => e = .returned (.bool true) ∧ Below w.heap.size w w' := by
  have HSH := Lib.hid fun x : World => caseShape_any 0 6 2 none 0 0 none 0 0 0 0 none 0 0 x
  rw [chips0, show ((3 : Nat) : Int) = 3 from rfl] at HSH
  have HPG := Lib.hid fun x : World => casePages_any 0 6 2 none 0 0 none 0 0 0 0 none 0 0 [] [] x (fun h => absurd h (Nat.not_lt_zero _)) rfl (Nat.zero_le _) (fun h hh => by cases hh) ⟨rfl, fun x hx => (by cases hx), fun h => absurd h (Nat.lt_irrefl _)⟩ (Nat.zero_le _)
  have hgood : GoodG (3 : Nat) (20 : Nat) (6 : Nat) (256 : Nat) := by unfold GoodG; omega
  have HNW := Lib.hid fun x : World => ramNew_any 3 20 6 256 x hgood
  have HME := Lib.hid fun x : World => member_any 3 20 6 256 6 2 2 0 x hgood (by omega) (by omega) (by omega) (by omega) (by decide) (by omega)
  rw [show ((3 : Nat) : Int) = 3 from rfl, show ((20 : Nat) : Int) = 20 from rfl, show ((6 : Nat) : Int) = 6 from rfl, show ((256 : Nat) : Int) = 256 from rfl] at HNW
  rw [show ((memOf 2 0 : Nat) : Int) = 0 from rfl, show ((0 : Nat) : Int) = 0 from rfl] at HME
  clear hgood
  go_enter Try.func4, Try.ntmps4
  have l1 := heap_alloc_new w (.cells #[.int .i64 0, .int .i64 6, .int .i64 2, .slice none 0 0, .slice none 0 0, .int .i64 0, .int .i64 0, .slice none 0 0] 25)
  have hb1 := bel_alloc (Below.refl _ w) (.cells #[.int .i64 0, .int .i64 6, .int .i64 2, .slice none 0 0, .slice none 0 0, .int .i64 0, .int .i64 0, .slice none 0 0] 25)
  go_upto_region 2 with fail
  obtain ⟨w1, hw1⟩ : ∃ x, x = w.alloc (.cells #[.int .i64 0, .int .i64 6, .int .i64 2, .slice none 0 0, .slice none 0 0, .int .i64 0, .int .i64 0, .slice none 0 0] 25) := ⟨_, rfl⟩
  obtain ⟨xb, hxb⟩ : ∃ x, x = w.heap.size := ⟨_, rfl⟩
  rw [← hw1, ← hxb] at l1
  rw [← hw1] at hb1
  rw [← hw1, ← hxb]
  have HL1 := Lib.hid l1
  have HB1 := Lib.hid hb1
  obtain ⟨z0, z1, z2, z3, z4, z5, z6, z7⟩ := eight_at l1
  clear hw1 hxb l1 hb1
  go_wp2_with fail
  ((with_reducible refine (HSH.out _).mono ?_))
  rintro e w2 ⟨rfl, hb2⟩
  have HB2 := Lib.hid (bel_trans HB1.out hb2)
  have HL2 := Lib.hid ((hb2.block _ (Array.getElem?_eq_some_iff.1 HL1.out).1).trans HL1.out)
  clear z0 z1 z2 z3 z4 z5 z6 z7 hb2
  go_wp2_with fail
  ((with_reducible refine (HNW.out _).mono ?_))
  rintro e w3 ⟨rb, pb, gb, rfl, hr3, hb3⟩
  obtain ⟨B, hB⟩ : ∃ B, B = w2.heap.size := ⟨_, rfl⟩
  rw [← hB] at hr3
  have HWB : Hid (w.heap.size ≤ B ∧ B ≤ w3.heap.size) := Lib.hid ⟨by rw [hB]; exact HB2.out.size, by rw [hB]; exact hb3.size⟩
  have HB3 := Lib.hid (bel_trans HB2.out hb3)
  have HR3 := Lib.hid hr3
  obtain ⟨z0, z1, z2, z3, z4, z5, z6, z7⟩ := eight_at ((hb3.block _ (Array.getElem?_eq_some_iff.1 HL2.out).1).trans HL2.out)
  clear hr3 hb3 hB
  go_wp2_with fail
  ((with_reducible refine (HPG.out _).mono ?_))
  rintro e w4 ⟨sv, L, rfl, hG, hb4⟩
  rw [chips0, show 3 - 1 = 2 from rfl] at hG
  obtain ⟨a, cap, rfl, hPG, hPn, hLO, hLn⟩ := pgs_new HR3.out hG (fun j hj => pgAt_ok [] [] (fun h hh => by cases hh) j (by omega)) (by omega) (by omega)
  have hP := hPG.pg
  have HLO := Lib.hid (And.intro hLO hLn)
  have HPG4 := Lib.hid hPG
  have HR4 := Lib.hid (HR3.out.step hb4)
  have HB4 := Lib.hid (bel_trans HB3.out hb4)
  have HBB4 : Hid (B ≤ w4.heap.size) := Lib.hid (Nat.le_trans HWB.out.2 hb4.size)
  have HWR : Hid (Calls Try.prog 8 #[.iface 30 (.pointer (some ⟨rb, 0, none⟩)), .int .i64 6, .int .i64 2, .slice a 2 cap] w4 (WriteRet B (rsNew rb pb gb 3 20 6 256) 2 6 2 L w4)) := Lib.hid (by
    have hw := write_any HR4.out HBB4.out 6 2 2 a 2 cap L (by show 6 + 5 < 20; omega) (by show 2 < 6; omega) (by show 256 ≤ 1000; omega) (by show ((2 : Nat) : Int) = ParOf 3 6 6 2; decide) (by show 2 < 3; omega) hLn.symm rfl hP hPn (Nat.zero_le _) (by rw [deads_none (fun _ => rfl)]; omega)
    exact hw)
  clear z0 z1 z2 z3 z4 z5 z6 z7 hG hP hPn hLO hLn hb4 hPG
  go_wp2_with fail
  ((with_reducible refine HWR.out.mono ?_))
  rintro e w5 ⟨s', G, P, rfl, hr5, hs5, hol, hgo, hwr, hst⟩
  obtain ⟨e1, e2, e3, e4, e5, e6, e7, e8⟩ := hs5.same
  have hrb : s'.rb = rb := e1
  have hgb : s'.gb = gb := e3
  have HR5 := Lib.hid hr5
  have HE : Hid (s'.n = 3 ∧ s'.bl = 20 ∧ s'.pg = 6 ∧ s'.sz = 256) := Lib.hid ⟨e4, e5, e6, e7⟩
  have HSB : Hid (Below B w4 w5 ∧ B ≤ w5.heap.size) := Lib.hid ⟨hs5.below HR4.out HBB4.out, Nat.le_trans HBB4.out hs5.size⟩
  have HST := Lib.hid hst
  have HPGE : Hid (∀ m, m < 3 → s'.page (m, 6, 2) = onB 2 G P m) := Lib.hid fun m hm => has_wrote hwr hm rfl
  have HGO : Hid (∀ m, s'.gone m = 0) := Lib.hid fun m => by rw [hgo]; rfl
  have HOL : Hid (s'.ol.length = 3) := Lib.hid (by rw [hol]; show ([] ++ ordL 0 3 _ : List Nat).length = 3; rw [List.nil_append, ordL_len])
  have HXC : Hid (∀ x : World, Below w5.heap.size w5 x → x.cell? ⟨rb, 0, none⟩ = some (.int .i64 3) ∧ x.cell? ⟨rb, 1, none⟩ = some (.int .i64 20) ∧ x.cell? ⟨rb, 2, none⟩ = some (.int .i64 6) ∧ x.cell? ⟨rb, 3, none⟩ = some (.int .i64 256) ∧ x.cell? ⟨rb, 5, none⟩ = some (.map (some gb))) := Lib.hid fun x hx => by
    have hc := (HR5.out.step hx).c
    rw [hrb, hgb, HE.out.1, HE.out.2.1, HE.out.2.2.1, HE.out.2.2.2] at hc
    exact ⟨hc.1, hc.2.1, hc.2.2.1, hc.2.2.2.1, hc.2.2.2.2.2.1⟩
  have HKI : Hid (∀ x : World, Below w5.heap.size w5 x → ∃ w7, (Instr.mapUpdate 50 (.map (some gb)) (.int .i64 0) (.int .i64 1)).run Try.prog x = .ok () w7 ∧ Ram B (s'.kill 0) w7 ∧ RStep s' x (s'.kill 0) w7) := Lib.hid fun x hx => by
    have := ram_die (HR5.out.step hx) 0 (by omega)
    rw [hgb] at this
    exact this
  have HRB := Lib.hid hrb
  have HP5 := Lib.hid (HPG4.out.rstep hs5)
  have HKC : Hid (∀ x : World, Ram B (s'.kill 0) x → x.cell? ⟨rb, 0, none⟩ = some (.int .i64 3) ∧ x.cell? ⟨rb, 1, none⟩ = some (.int .i64 20) ∧ x.cell? ⟨rb, 2, none⟩ = some (.int .i64 6) ∧ x.cell? ⟨rb, 3, none⟩ = some (.int .i64 256) ∧ x.cell? ⟨rb, 5, none⟩ = some (.map (some gb))) := Lib.hid fun x hx => by
    have hc := hx.c
    rw [show (s'.kill 0).rb = rb from hrb, show (s'.kill 0).gb = gb from hgb, show (s'.kill 0).n = 3 from HE.out.1, show (s'.kill 0).bl = 20 from HE.out.2.1, show (s'.kill 0).pg = 6 from HE.out.2.2.1, show (s'.kill 0).sz = 256 from HE.out.2.2.2] at hc
    exact ⟨hc.1, hc.2.1, hc.2.2.1, hc.2.2.2.1, hc.2.2.2.2.2.1⟩
  have HRD : Hid (∀ x : World, Ram B (s'.kill 0) x → Calls Try.prog 13 #[.iface 30 (.pointer (some ⟨rb, 0, none⟩)), .agg #[.int .i64 6, .int .i64 2, .int .i64 0]] x (ReadPRet (L.getD 0 SP.nil).h (L.getD 0 SP.nil).d.l x)) := Lib.hid fun x hx => by
    have := stripe_read hx (by show s'.sz ≤ 1000; rw [HE.out.2.2.2]; omega) 6 2 0 2 0 (by show 6 + 5 < s'.bl; rw [HE.out.2.1]; omega) (by show 2 < s'.pg; rw [HE.out.2.2.1]; omega) (by show 0 + 1 < s'.n; rw [HE.out.1]; omega)
      (by show ((2 : Nat) : Int) = ParOf (s'.n : Nat) (s'.pg : Nat) (6 : Nat) (2 : Nat); rw [HE.out.1, HE.out.2.2.1]; decide) (by show 2 < s'.n; rw [HE.out.1]; omega)
      (by show StripeB s'.n 2 s'.sz 6 2 L G P; rw [HE.out.1, HE.out.2.2.2]; exact HST.out) (by show LOk L s'.sz; rw [HE.out.2.2.2]; exact HLO.out.1) (by show L.length + 1 = s'.n; rw [HE.out.1, HLO.out.2])
      (fun m hm hne => ⟨by show (if m = 0 then 1 else s'.gone m) = 0; rw [if_neg hne]; exact HGO.out m, HPGE.out m (by have h2 : m < s'.n := hm; rw [HE.out.1] at h2; exact h2)⟩) (Or.inl (by show (if 0 = 0 then 1 else s'.gone 0) ≠ 0; simp))
    rw [show (s'.kill 0).rb = rb from hrb] at this
    exact this
  obtain ⟨q0, hq0⟩ : ∃ q, q = L.getD 0 SP.nil := ⟨_, rfl⟩
  rw [← hq0] at HRD
  have HQ0 := Lib.hid hq0
  clear hq0
  obtain ⟨oa, oc, hoe⟩ := ownsI_shape hr5.ordF
  have HOE : Hid (s'.ord = .slice oa 3 oc) := Lib.hid (by rw [hoe, HOL.out])
  clear hoe
  clear e1 e2 e3 e4 e5 e6 e7 e8 hrb hgb hr5 hs5 hst hwr hol hgo
  go_upto_region 6 with fail
  have HD5 : Hid (Below w5.heap.size w5 w5.drew) := Lib.hid (Below.refl _ _).drew
  have hS0 := HXC.out w5.drew HD5.out
  go_region_held3 (fun x => x.cell? ⟨rb, 0, none⟩ = some (.int .i64 3) ∧ x.cell? ⟨rb, 1, none⟩ = some (.int .i64 20) ∧ x.cell? ⟨rb, 2, none⟩ = some (.int .i64 6) ∧ x.cell? ⟨rb, 3, none⟩ = some (.int .i64 256) ∧ x.cell? ⟨rb, 5, none⟩ = some (.map (some gb)))
    (first | with_reducible exact hS0 | with_reducible exact hS1 | with_reducible exact hS2 | go_keep)
    (first
      | (go_simp; go_at_call 12; ((with_reducible refine (HME.out _).mono ?_)); (intro e wa hr; obtain ⟨rfl, hba⟩ := hr; have HBa := Lib.hid (bel_trans HD5.out hba); have hS1 := HXC.out wa HBa.out; obtain ⟨wk, hk1, hk2, hk3⟩ := HKI.out wa HBa.out; have hS2 : wk.cell? ⟨rb, 0, none⟩ = some (.int .i64 3) ∧ wk.cell? ⟨rb, 1, none⟩ = some (.int .i64 20) ∧ wk.cell? ⟨rb, 2, none⟩ = some (.int .i64 6) ∧ wk.cell? ⟨rb, 3, none⟩ = some (.int .i64 256) ∧ wk.cell? ⟨rb, 5, none⟩ = some (.map (some gb)) := HKC.out wk hk2; have HK2 := Lib.hid hk2; have HK3 := Lib.hid hk3; clear hba hk2 hk3)))
  all_goals
    clear hS0 hS1 hS2 hk1
    have HPK := Lib.hid ((HP5.out.step HBa.out).rstep HK3.out)
    have HBK : Hid (Below B w4 wk ∧ B ≤ wk.heap.size) := Lib.hid (by
      have h1 : B ≤ wa.heap.size := Nat.le_trans HSB.out.2 HBa.out.size
      exact ⟨HSB.out.1.trans ((HBa.out.mono HSB.out.2).trans (HK3.out.below (HR5.out.step HBa.out) h1)), Nat.le_trans h1 HK3.out.size⟩)
    go_wp2_with fail
    ((with_reducible refine (HRD.out _ HK2.out).mono ?_))
    rintro e w8 ⟨E, rfl, q1, q2, q3, hb8⟩
    have l9 := heap_alloc_new w8 (.cells #[.int .u8 (q0.h.ki : Int), .int .u32 (q0.h.ep : Int), .int .u32 (q0.h.ba : Int), .int .u16 (q0.h.ix : Int), .int .u16 (q0.h.ct : Int), .int .u32 (q0.h.bl : Int), .int .u32 (q0.h.mo : Int), .slice E.a E.n E.c] 47)
    have hb9 := bel_trans hb8 (bel_alloc (Below.refl _ w8) (.cells #[.int .u8 (q0.h.ki : Int), .int .u32 (q0.h.ep : Int), .int .u32 (q0.h.ba : Int), .int .u16 (q0.h.ix : Int), .int .u16 (q0.h.ct : Int), .int .u32 (q0.h.bl : Int), .int .u32 (q0.h.mo : Int), .slice E.a E.n E.c] 47))
    have hE9 := q2.step (bel_alloc (Below.refl _ w8) (.cells #[.int .u8 (q0.h.ki : Int), .int .u32 (q0.h.ep : Int), .int .u32 (q0.h.ba : Int), .int .u16 (q0.h.ix : Int), .int .u16 (q0.h.ct : Int), .int .u32 (q0.h.bl : Int), .int .u32 (q0.h.mo : Int), .slice E.a E.n E.c] 47))
    go_upto_region 8 with fail
    obtain ⟨w9, hw9⟩ : ∃ x, x = w8.alloc (.cells #[.int .u8 (q0.h.ki : Int), .int .u32 (q0.h.ep : Int), .int .u32 (q0.h.ba : Int), .int .u16 (q0.h.ix : Int), .int .u16 (q0.h.ct : Int), .int .u32 (q0.h.bl : Int), .int .u32 (q0.h.mo : Int), .slice E.a E.n E.c] 47) := ⟨_, rfl⟩
    obtain ⟨eb, heb⟩ : ∃ x, x = w8.heap.size := ⟨_, rfl⟩
    rw [← hw9, ← heb] at l9
    rw [← hw9] at hb9 hE9
    rw [← hw9, ← heb]
    have HP9 := Lib.hid (HPK.out.step hb9)
    have HB9 := Lib.hid (HBK.out.1.trans (hb9.mono HBK.out.2))
    have HE9 := Lib.hid (And.intro q1 hE9)
    obtain ⟨lb, lo, hae, _⟩ := spage_at HP9.out.pg.1 HP9.out.len.1
    subst hae
    have HCC : Hid (∀ x : World, Below w9.heap.size w9 x → (x.cell? ⟨eb, 0, none⟩ = some (.int .u8 (q0.h.ki : Int)) ∧ x.cell? ⟨eb, 1, none⟩ = some (.int .u32 (q0.h.ep : Int)) ∧ x.cell? ⟨eb, 2, none⟩ = some (.int .u32 (q0.h.ba : Int)) ∧ x.cell? ⟨eb, 3, none⟩ = some (.int .u16 (q0.h.ix : Int)) ∧ x.cell? ⟨eb, 4, none⟩ = some (.int .u16 (q0.h.ct : Int)) ∧ x.cell? ⟨eb, 5, none⟩ = some (.int .u32 (q0.h.bl : Int)) ∧ x.cell? ⟨eb, 6, none⟩ = some (.int .u32 (q0.h.mo : Int)) ∧ x.cell? ⟨eb, 7, none⟩ = some (.slice E.a E.n E.c) ∧ x.cell? ⟨lb, lo, none⟩ = some (.int .u8 (q0.h.ki : Int)) ∧ x.cell? ⟨lb, lo + 1, none⟩ = some (.int .u32 (q0.h.ep : Int)) ∧ x.cell? ⟨lb, lo + 2, none⟩ = some (.int .u32 (q0.h.ba : Int)) ∧ x.cell? ⟨lb, lo + 3, none⟩ = some (.int .u16 (q0.h.ix : Int)) ∧ x.cell? ⟨lb, lo + 4, none⟩ = some (.int .u16 (q0.h.ct : Int)) ∧ x.cell? ⟨lb, lo + 5, none⟩ = some (.int .u32 (q0.h.bl : Int)) ∧ x.cell? ⟨lb, lo + 6, none⟩ = some (.int .u32 (q0.h.mo : Int)) ∧ x.cell? ⟨lb, lo + 7, none⟩ = some (.slice q0.d.a q0.d.n q0.d.c) ∧ x.cell? ⟨rb, 7, none⟩ = some (.slice oa 3 oc))) := Lib.hid fun x hx => by
      obtain ⟨a0, a1, a2, a3, a4, a5, a6, a7⟩ := eight_at ((hx.block _ (Array.getElem?_eq_some_iff.1 l9).1).trans l9)
      obtain ⟨lb', lo', hae, hpa⟩ := spage_at (HP9.out.step hx).pg.1 HP9.out.len.1
      cases hae
      rw [← HQ0.out] at hpa
      obtain ⟨b0, b1, b2, b3, b4, b5, b6, b7⟩ := hpa
      have hc := ((HK2.out.step hb9).step hx).c.2.2.2.2.2.2.2
      rw [show (s'.kill 0).rb = rb from HRB.out, show (s'.kill 0).ord = .slice oa 3 oc from HOE.out] at hc
      exact ⟨a0, a1, a2, a3, a4, a5, a6, a7, b0, b1, b2, b3, b4, b5, b6, b7, hc⟩
    have HD9 : Hid (Below w9.heap.size w9 w9.drew) := Lib.hid (Below.refl _ _).drew
    have hS0 := HCC.out w9.drew HD9.out
    have HSM : Hid (∀ x : World, Below w9.heap.size w9 x → Calls Try.prog 11 #[.agg #[.int .u8 (q0.h.ki : Int), .int .u32 (q0.h.ep : Int), .int .u32 (q0.h.ba : Int), .int .u16 (q0.h.ix : Int), .int .u16 (q0.h.ct : Int), .int .u32 (q0.h.bl : Int), .int .u32 (q0.h.mo : Int), .slice E.a E.n E.c], .agg #[.int .u8 (q0.h.ki : Int), .int .u32 (q0.h.ep : Int), .int .u32 (q0.h.ba : Int), .int .u16 (q0.h.ix : Int), .int .u16 (q0.h.ct : Int), .int .u32 (q0.h.bl : Int), .int .u32 (q0.h.mo : Int), .slice q0.d.a q0.d.n q0.d.c]] x fun e w' => e = .returned (.bool true) ∧ Below x.heap.size x w') := Lib.hid fun x hx => by
      refine stSame_yes q0.h E q0.d x (HE9.out.2.step hx) ?_ HE9.out.1
      rw [HQ0.out]
      exact ((HP9.out.step hx).pg.2 _ (sp_mem L 0 HP9.out.len.1)).1
    have i0 : (0 : Int) ≤ 0 := by omega
    clear q1 q2 q3 hb8 l9 hb9 hE9 hw9 heb
    go_region_held3 (fun x => x.cell? ⟨eb, 0, none⟩ = some (.int .u8 (q0.h.ki : Int)) ∧ x.cell? ⟨eb, 1, none⟩ = some (.int .u32 (q0.h.ep : Int)) ∧ x.cell? ⟨eb, 2, none⟩ = some (.int .u32 (q0.h.ba : Int)) ∧ x.cell? ⟨eb, 3, none⟩ = some (.int .u16 (q0.h.ix : Int)) ∧ x.cell? ⟨eb, 4, none⟩ = some (.int .u16 (q0.h.ct : Int)) ∧ x.cell? ⟨eb, 5, none⟩ = some (.int .u32 (q0.h.bl : Int)) ∧ x.cell? ⟨eb, 6, none⟩ = some (.int .u32 (q0.h.mo : Int)) ∧ x.cell? ⟨eb, 7, none⟩ = some (.slice E.a E.n E.c) ∧ x.cell? ⟨lb, lo, none⟩ = some (.int .u8 (q0.h.ki : Int)) ∧ x.cell? ⟨lb, lo + 1, none⟩ = some (.int .u32 (q0.h.ep : Int)) ∧ x.cell? ⟨lb, lo + 2, none⟩ = some (.int .u32 (q0.h.ba : Int)) ∧ x.cell? ⟨lb, lo + 3, none⟩ = some (.int .u16 (q0.h.ix : Int)) ∧ x.cell? ⟨lb, lo + 4, none⟩ = some (.int .u16 (q0.h.ct : Int)) ∧ x.cell? ⟨lb, lo + 5, none⟩ = some (.int .u32 (q0.h.bl : Int)) ∧ x.cell? ⟨lb, lo + 6, none⟩ = some (.int .u32 (q0.h.mo : Int)) ∧ x.cell? ⟨lb, lo + 7, none⟩ = some (.slice q0.d.a q0.d.n q0.d.c) ∧ x.cell? ⟨rb, 7, none⟩ = some (.slice oa 3 oc))
      (first | with_reducible exact hS0 | with_reducible exact hS1 | go_keep)
      (first
        | (go_simp; go_at_call 11; ((with_reducible refine (HSM.out _ HD9.out).mono ?_)); (intro e wb hr; obtain ⟨rfl, hbb⟩ := hr; have HBb := Lib.hid (bel_trans HD9.out hbb); have hS1 := HCC.out wb HBb.out; clear hbb)))
    all_goals
      clear hS0 hS1
      go_wp2
      go_ret
      exact ⟨rfl, HB4.out.trans ((HB9.out.trans (HBb.out.mono (Nat.le_trans HBB4.out HB9.out.size))).mono HWB.out.1)⟩
end Go.Proofs.Ytnhklomofebfaaa
