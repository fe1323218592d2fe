/- ParitySpoilt: the walk. -/
import Derived.Test.YtnkkeffjnamcgaaCasePages
import Derived.Test.YtnkkeffjnamcgaaSummed
import Derived.Test.YtnkkeffjnamcgaaRefMiss
import Derived.BigRegion
namespace Go.Proofs.Ytnkkeffjnamcgaa
open Go.RowKit

theorem at_of (x : Int) : ∃ m : Nat, m < 64 ∧ wrap64 ((IntKind.u64.wrap x).tmod 64) = (m : Int) := by
  rw [IntKind.wrap_u64]
  have h0 : 0 ≤ x % 18446744073709551616 := Int.emod_nonneg _ (by omega)
  rw [Int.tmod_eq_emod_of_nonneg h0]
  refine ⟨(x % 18446744073709551616 % 64).toNat, by omega, ?_⟩
  unfold wrap64
  omega
theorem cellsG_at {x : World} {b off : Nat} {G : List PG} (h : CellsG x (some ⟨b, off, none⟩) G) {k : Nat} (hk : k < G.length) : x.cell? ⟨b, off + k * 2, none⟩ = some (G.getD k PG.nil).d.v ∧ x.cell? ⟨b, off + k * 2 + 1, none⟩ = some (G.getD k PG.nil).o.v := by
  obtain ⟨b', off', e, hc⟩ := h (by omega)
  cases e
  exact hc k hk
theorem cellsG_drop {x : World} {b off : Nat} {G : List PG} (h : CellsG x (some ⟨b, off, none⟩) G) : CellsG x (some ⟨b, off + 2, none⟩) (G.drop 1) := fun h0 => by
  rw [List.length_drop] at h0
  obtain ⟨b', off', e, hc⟩ := h (by omega)
  cases e
  refine ⟨_, _, rfl, fun i hi => ?_⟩
  rw [List.length_drop] at hi
  obtain ⟨h1, h2⟩ := hc (i + 1) (by omega)
  have e1 : off + 2 + i * 2 = off + (i + 1) * 2 := by omega
  have e2 : (G.drop 1).getD i PG.nil = G.getD (i + 1) PG.nil := by simp [List.getD]
  rw [e1, e2]
  exact ⟨h1, h2⟩
theorem cellsG_other {x : World} {b off c o : Nat} {G : List PG} {v : Value} (h : CellsG x (some ⟨b, off, none⟩) G) (hne : b ≠ c) : CellsG (x.setCell ⟨c, o, none⟩ v) (some ⟨b, off, none⟩) G := fun h0 => by
  obtain ⟨b', off', e, hc⟩ := h h0
  cases e
  refine ⟨_, _, rfl, fun i hi => ?_⟩
  obtain ⟨h1, h2⟩ := hc i hi
  exact ⟨(World.cell?_setCell_other x _ _ v (by simp)).trans h1, (World.cell?_setCell_other x _ _ v (by simp)).trans h2⟩
theorem cellsG_set {x : World} {b off : Nat} {G : List PG} {k : Nat} {O : PS} (h : CellsG x (some ⟨b, off, none⟩) G) (hk : k < G.length) : CellsG (x.setCell ⟨b, off + k * 2 + 1, none⟩ O.v) (some ⟨b, off, none⟩) (G.set k ⟨(G.getD k PG.nil).d, O⟩) := fun h0 => by
  rw [List.length_set] at h0
  obtain ⟨b', off', e, hc⟩ := h h0
  cases e
  refine ⟨_, _, rfl, fun i hi => ?_⟩
  rw [List.length_set] at hi
  obtain ⟨h1, h2⟩ := hc i hi
  by_cases hik : i = k
  · subst hik
    have e2 : (G.set i ⟨(G.getD i PG.nil).d, O⟩).getD i PG.nil = ⟨(G.getD i PG.nil).d, O⟩ := by simp [List.getD, hi]
    rw [e2]
    exact ⟨(World.cell?_setCell_other x _ _ O.v (by simp)).trans h1, World.cell?_setCell_same x _ O.v h2⟩
  · have e2 : (G.set k ⟨(G.getD k PG.nil).d, O⟩).getD i PG.nil = G.getD i PG.nil := by
      simp [List.getD, Ne.symm hik]
    rw [e2]
    exact ⟨(World.cell?_setCell_other x _ _ O.v (by first | (simp; done) | (simp; omega))).trans h1, (World.cell?_setCell_other x _ _ O.v (by first | (simp; done) | (simp; omega))).trans h2⟩
theorem frozen_at {x : World} {b : Nat} {T : TypeId} (h : ∃ cs, x.heap[b]? = some (.cells cs T (0, 0))) (o : Nat) : x.frozen? ⟨b, o, none⟩ = false := by
  obtain ⟨cs, h⟩ := h
  simp [World.frozen?, h]
theorem row_nil (w : World) : Row w none 0 [] := ⟨rfl, (fun x hx => by cases hx), fun h => absurd h (Nat.lt_irrefl 0)⟩
theorem own_at {T : TypeId} {B : Nat} {x : World} {a : Option Addr} {n c : Nat} {G : List PG} (h : OwnG T B x (.slice a n c) G) (h0 : 0 < n) : ∃ b, a = some ⟨b, 0, none⟩ ∧ n ≤ c ∧ c ≤ 2 ^ 63 - 1 ∧ ∃ cs, x.heap[b]? = some (.cells cs T (0, 0)) := by
  rcases h.2 with ⟨e, h1⟩ | ⟨g, cap, cur, e, _, h2, h3, h4, _⟩
  · simp only [Value.slice.injEq] at e
    omega
  · simp only [Value.slice.injEq] at e
    obtain ⟨rfl, rfl, rfl⟩ := e
    exact ⟨g, rfl, h3, h4, cur, h2⟩
theorem case14_at {W : World} {b : Nat} {v0 v1 v2 v3 v4 v5 v6 v7 v8 v9 v10 v11 v12 v13 : Value} {t : TypeId} (h : W.heap[b]? = some (.cells #[v0, v1, v2, v3, v4, v5, v6, v7, v8, v9, v10, v11, v12, v13] t (0, 0))) :
    W.cell? ⟨b, 0, none⟩ = some v0 ∧ W.cell? ⟨b, 1, none⟩ = some v1 ∧ W.cell? ⟨b, 2, none⟩ = some v2 ∧ W.cell? ⟨b, 3, none⟩ = some v3 ∧ W.cell? ⟨b, 4, none⟩ = some v4 ∧ W.cell? ⟨b, 5, none⟩ = some v5 ∧ W.cell? ⟨b, 6, none⟩ = some v6 ∧ W.cell? ⟨b, 7, none⟩ = some v7 ∧ W.cell? ⟨b, 8, none⟩ = some v8 ∧ W.cell? ⟨b, 9, none⟩ = some v9 ∧ W.cell? ⟨b, 10, none⟩ = some v10 ∧ W.cell? ⟨b, 11, none⟩ = some v11 ∧ W.cell? ⟨b, 12, none⟩ = some v12 ∧ W.cell? ⟨b, 13, none⟩ = some v13 := by
  simp [World.cell?, h]

theorem old_cell (w : World) {b o : Nat} {v : Value} (ob : Obj) (_ : b < w.heap.size) (h : w.cell? ⟨b, o, none⟩ = some v) : (w.alloc ob).cell? ⟨b, o, none⟩ = some v :=
  cell_st h (bel_alloc (Below.refl _ w) ob)

set_option maxRecDepth 100000 in
set_option maxHeartbeats 12800000 in
theorem paritySpoilt_in (c : CA) (H : List RH) (L : List PS) (wx at' : Int) (cb : Nat) (w : World) (hin : CaseIn w c H L) (hcb : cb < 256) :
    Calls Try.prog 3 #[.agg (c.cells ++ #[.int .i64 wx, .int .i64 at', .int .u8 (cb : Int)])] w fun e w' => e = .returned (.bool true) ∧ Below w.heap.size w w' := by
  have HS := Lib.hid summed_any
  have HI0 := Lib.hid hin
  have HCB := Lib.hid hcb
  have HPA : Hid (∀ x, CaseIn x c H L → Calls Try.prog 7 #[.agg c.cells] x (CaseRet x)) := Lib.hid fun x hx => pages_any c H L x hx
  obtain ⟨ha, hn, hc, da, dn, dc, size, which, wh⟩ := c
  have HWF : Hid (wh.Fits) := Lib.hid hin.wfit
  clear hin hcb
  unfold CA.cells at HPA ⊢
  simp only at HPA ⊢
  rw [show (#[.slice ha hn hc, .slice da dn dc, .int .i64 size, .int .i64 which, .int .u8 (wh.ki : Int), .int .u32 (wh.ep : Int), .int .u32 (wh.ba : Int), .int .u16 (wh.ix : Int), .int .u16 (wh.ct : Int), .int .u32 (wh.bl : Int), .int .u32 (wh.mo : Int)] ++ #[.int .i64 wx, .int .i64 at', .int .u8 (cb : Int)] : Array Value) = #[.slice ha hn hc, .slice da dn dc, .int .i64 size, .int .i64 which, .int .u8 (wh.ki : Int), .int .u32 (wh.ep : Int), .int .u32 (wh.ba : Int), .int .u16 (wh.ix : Int), .int .u16 (wh.ct : Int), .int .u32 (wh.bl : Int), .int .u32 (wh.mo : Int), .int .i64 wx, .int .i64 at', .int .u8 (cb : Int)] from rfl]
  go_enter Try.func3, Try.ntmps3
  go_upto_region 1 with fail
  have hpb := heap_alloc_new w (.cells #[.slice ha hn hc, .slice da dn dc, .int .i64 size, .int .i64 which, .int .u8 (wh.ki : Int), .int .u32 (wh.ep : Int), .int .u32 (wh.ba : Int), .int .u16 (wh.ix : Int), .int .u16 (wh.ct : Int), .int .u32 (wh.bl : Int), .int .u32 (wh.mo : Int), .int .i64 wx, .int .i64 at', .int .u8 (cb : Int)] 31)
  have hba := bel_alloc (Below.refl _ w) (.cells #[.slice ha hn hc, .slice da dn dc, .int .i64 size, .int .i64 which, .int .u8 (wh.ki : Int), .int .u32 (wh.ep : Int), .int .u32 (wh.ba : Int), .int .u16 (wh.ix : Int), .int .u16 (wh.ct : Int), .int .u32 (wh.bl : Int), .int .u32 (wh.mo : Int), .int .i64 wx, .int .i64 at', .int .u8 (cb : Int)] 31)
  obtain ⟨w0, hw0⟩ : ∃ x, x = w.alloc (.cells #[.slice ha hn hc, .slice da dn dc, .int .i64 size, .int .i64 which, .int .u8 (wh.ki : Int), .int .u32 (wh.ep : Int), .int .u32 (wh.ba : Int), .int .u16 (wh.ix : Int), .int .u16 (wh.ct : Int), .int .u32 (wh.bl : Int), .int .u32 (wh.mo : Int), .int .i64 wx, .int .i64 at', .int .u8 (cb : Int)] 31) := ⟨_, rfl⟩
  have HSZ : Hid (w0.heap.size = w.heap.size + 1) := Lib.hid (by rw [hw0]; simp)
  rw [← hw0] at hpb hba ⊢
  have HB0 := Lib.hid hba
  obtain ⟨c0, c1, c2, c3, c4, c5, c6, c7, c8, c9, c10, c11, c12, c13⟩ := case14_at hpb
  clear hw0 hpb
  have HI := Lib.hid (HI0.out.keep hba (Nat.le_refl _))
  have hlt : w.heap.size < w0.heap.size := by rw [HSZ.out]; exact Nat.lt_succ_self _
  have hne : ¬ (w.heap.size = w0.heap.size) := Nat.ne_of_lt hlt
  have e0 := fun o => old_cell w0 o hlt c0
  have e1 := fun o => old_cell w0 o hlt c1
  have e2 := fun o => old_cell w0 o hlt c2
  have e3 := fun o => old_cell w0 o hlt c3
  have e4 := fun o => old_cell w0 o hlt c4
  have e5 := fun o => old_cell w0 o hlt c5
  have e6 := fun o => old_cell w0 o hlt c6
  have e7 := fun o => old_cell w0 o hlt c7
  have e8 := fun o => old_cell w0 o hlt c8
  have e9 := fun o => old_cell w0 o hlt c9
  have e10 := fun o => old_cell w0 o hlt c10
  have e11 := fun o => old_cell w0 o hlt c11
  have e12 := fun o => old_cell w0 o hlt c12
  have e13 := fun o => old_cell w0 o hlt c13
  clear hba HI0
  go_region
  clear e0 e1 e2 e3 e4 e5 e6 e7 e8 e9 e10 e11 e12 e13 c0 c1 c2 c3 c4 c5 c6 c7 c8 c9 c10 c11 c12 c13 hlt hne
  go_upto_region 2 with fail
  have hpb : ((w0.alloc (.cells #[.slice ha hn hc, .slice da dn dc, .int .i64 size, .int .i64 which, .int .u8 (wh.ki : Int), .int .u32 (wh.ep : Int), .int .u32 (wh.ba : Int), .int .u16 (wh.ix : Int), .int .u16 (wh.ct : Int), .int .u32 (wh.bl : Int), .int .u32 (wh.mo : Int)] 29)).drew).heap[w0.heap.size]? = some (.cells #[.slice ha hn hc, .slice da dn dc, .int .i64 size, .int .i64 which, .int .u8 (wh.ki : Int), .int .u32 (wh.ep : Int), .int .u32 (wh.ba : Int), .int .u16 (wh.ix : Int), .int .u16 (wh.ct : Int), .int .u32 (wh.bl : Int), .int .u32 (wh.mo : Int)] 29 (0, 0)) := heap_alloc_new w0 (.cells #[.slice ha hn hc, .slice da dn dc, .int .i64 size, .int .i64 which, .int .u8 (wh.ki : Int), .int .u32 (wh.ep : Int), .int .u32 (wh.ba : Int), .int .u16 (wh.ix : Int), .int .u16 (wh.ct : Int), .int .u32 (wh.bl : Int), .int .u32 (wh.mo : Int)] 29)
  have hba : Below w0.heap.size w0 ((w0.alloc (.cells #[.slice ha hn hc, .slice da dn dc, .int .i64 size, .int .i64 which, .int .u8 (wh.ki : Int), .int .u32 (wh.ep : Int), .int .u32 (wh.ba : Int), .int .u16 (wh.ix : Int), .int .u16 (wh.ct : Int), .int .u32 (wh.bl : Int), .int .u32 (wh.mo : Int)] 29)).drew) := (bel_alloc (Below.refl _ w0) (.cells #[.slice ha hn hc, .slice da dn dc, .int .i64 size, .int .i64 which, .int .u8 (wh.ki : Int), .int .u32 (wh.ep : Int), .int .u32 (wh.ba : Int), .int .u16 (wh.ix : Int), .int .u16 (wh.ct : Int), .int .u32 (wh.bl : Int), .int .u32 (wh.mo : Int)] 29)).drew
  obtain ⟨wA, hwA⟩ : ∃ x, x = (w0.alloc (.cells #[.slice ha hn hc, .slice da dn dc, .int .i64 size, .int .i64 which, .int .u8 (wh.ki : Int), .int .u32 (wh.ep : Int), .int .u32 (wh.ba : Int), .int .u16 (wh.ix : Int), .int .u16 (wh.ct : Int), .int .u32 (wh.bl : Int), .int .u32 (wh.mo : Int)] 29)).drew := ⟨_, rfl⟩
  obtain ⟨bx, hbx⟩ : ∃ b, b = w0.heap.size := ⟨_, rfl⟩
  have HSZA : Hid (bx < wA.heap.size) := Lib.hid (by rw [hwA, hbx]; simp)
  rw [← hbx] at hpb ⊢
  rw [← hwA] at hpb hba ⊢
  have HPB := Lib.hid hpb
  have HBA := Lib.hid (bel_trans HB0.out hba)
  have HIA := Lib.hid (HI.out.keep hba (Nat.le_refl _))
  clear hwA hpb hba HI HB0 hbx
  obtain ⟨c0, c1, c2, c3, c4, c5, c6, c7, c8, c9, c10, _⟩ := case_all HPB.out
  go_wp2_with fail
  ((with_reducible refine (HPA.out _ HIA.out).mono ?_))
  intro e w1 hr
  clear c0 c1 c2 c3 c4 c5 c6 c7 c8 c9 c10 HPA HIA
  rcases hr with ⟨u, v, G, sz, rfl, hg0, hg12, hsz, hse, hcs, hb⟩ | ⟨rfl, hb⟩
  case inr =>
    have HB1 := Lib.hid (bel_trans HBA.out hb)
    clear hb
    go_wp2_with fail
    ((with_reducible refine (HS.out _).mono ?_))
    rintro e w2 ⟨rfl, hb⟩
    have HB2 := Lib.hid (bel_trans HB1.out hb)
    clear hb
    go_wp2_with fail
    ((with_reducible refine (HS.out _).mono ?_))
    rintro e w3 ⟨rfl, hb⟩
    have HB3 := Lib.hid (bel_trans HB2.out hb)
    clear hb
    go_wp2
    go_ret
    exact ⟨rfl, HB3.out⟩
  have HB1 : Hid (Below w.heap.size w w1) := Lib.hid (bel_trans HBA.out hb)
  have HP1 := Lib.hid (blk_step HPB.out hb)
  have HWA : Hid (w.heap.size ≤ wA.heap.size) := Lib.hid HBA.out.size
  have HSE := Lib.hid hse
  have HCS := Lib.hid hcs
  have HG0 := Lib.hid hg0
  have HG12 := Lib.hid hg12
  have HSZ3 := Lib.hid hsz
  obtain ⟨ua, uc, rfl, _⟩ := cellsG_own hcs.own1
  obtain ⟨va, vc, rfl, _⟩ := cellsG_own hcs.own2
  clear hb hse hcs hg0 hg12 hsz HPB HBA
  go_wp2_with fail
  ((with_reducible refine (HS.out _).mono ?_))
  rintro e w2 ⟨rfl, hb⟩
  have HB2 := Lib.hid (bel_trans HB1.out hb)
  have HP2 := Lib.hid (blk_step HP1.out hb)
  have HCS2 := Lib.hid (HCS.out.step hb)
  clear hb HB1 HP1 HCS
  go_upto_region 5 with fail
  obtain ⟨_, _, _, _, c4, c5, c6, c7, c8, c9, c10, _⟩ := case_all HP2.out
  have HPG : Hid (PagesL w2 ua G) := Lib.hid (pagesL_of (by
    obtain ⟨a', c', e, h, _⟩ := cellsG_own HCS2.out.own1
    simp only [Value.slice.injEq] at e
    rw [e.1]; exact h) HCS2.out.pages)
  have HGL : Hid (∀ q ∈ G, q.d.n ≤ 1000 ∧ q.o.n = 64) := Lib.hid fun q hq => by
    have h1 := part_len (HPG.out.2 q hq).1
    have h2 := part_len (HPG.out.2 q hq).2
    have h3 := HSE.out.len q hq
    obtain ⟨h, _, _, e⟩ := HSE.out.sealed q hq
    rw [e, sealB_len] at h2
    have := HSZ3.out
    exact ⟨by omega, h2⟩
  have HGL2 : Hid (∀ q ∈ G, q.d.n ≤ 1000 ∧ q.o.n ≤ 1000) := Lib.hid fun q hq => by
    obtain ⟨h1, h2⟩ := HGL.out q hq
    exact ⟨h1, by omega⟩
  obtain ⟨n, hn0⟩ : ∃ n, n = G.length := ⟨_, rfl⟩
  have HN : Hid (n = G.length) := Lib.hid hn0
  have HN2 : Hid (n ≤ 1000) := Lib.hid (by rw [hn0]; have := HG12.out; omega)
  have hn1 : 0 < n := by rw [hn0]; exact HG0.out
  have hn12 : n ≤ 12 := by rw [hn0]; exact HG12.out
  rw [← hn0] at HCS2 ⊢
  clear hn0
  have HOP : Hid (Calls Try.prog 9 #[.agg #[.int .u8 (wh.ki : Int), .int .u32 (wh.ep : Int), .int .u32 (wh.ba : Int), .int .u16 (wh.ix : Int), .int .u16 (wh.ct : Int), .int .u32 (wh.bl : Int), .int .u32 (wh.mo : Int)], .slice ua n uc] w2 (OfFar wh G w2)) := Lib.hid (of_far wh HWF.out ua n uc G w2 HN.out HPG.out HN2.out HGL2.out)
  go_wp2_with fail
  ((with_reducible refine HOP.out.mono ?_))
  intro e w4 hr
  obtain ⟨D, Ow, rfl, hdl, hol, hdk, hok, hdn2, hon2, hfd, hfo, hb⟩ := hr
  have hba := bel_trans hb (bel_alloc (Below.refl _ w4) (.cells #[.slice D.a D.n D.c, .slice Ow.a Ow.n Ow.c] 39))
  have hpb := heap_alloc_new w4 (.cells #[.slice D.a D.n D.c, .slice Ow.a Ow.n Ow.c] 39)
  have hb5 := bel_alloc (Below.refl _ w4) (.cells #[.slice D.a D.n D.c, .slice Ow.a Ow.n Ow.c] 39)
  have HZ4 : Hid (w2.heap.size ≤ w4.heap.size) := Lib.hid hb.size
  clear c4 c5 c6 c7 c8 c9 c10 HOP
  have HDN := Lib.hid hdn2
  have HON := Lib.hid hon2
  have HFD := Lib.hid hfd
  have HFO := Lib.hid hfo
  clear hdl hol hdn2 hon2 hfd hfo
  go_upto_region 6 with fail
  obtain ⟨w5, hw5⟩ : ∃ x, x = w4.alloc (.cells #[.slice D.a D.n D.c, .slice Ow.a Ow.n Ow.c] 39) := ⟨_, rfl⟩
  have HZ5 : Hid (w5.heap.size = w4.heap.size + 1) := Lib.hid (by rw [hw5]; simp)
  rw [← hw5] at hba hpb hb5 ⊢
  have HPB5 := Lib.hid hpb
  have HB5 := Lib.hid (bel_trans HB2.out hba)
  have HCS5 := Lib.hid (HCS2.out.step hba)
  have HD5 := Lib.hid (hdk.step hb5)
  have HO5 := Lib.hid (hok.step hb5)
  have HUV : Hid (∀ q, (Value.slice ua n uc).ownBlock = some q ∨ (Value.slice va n vc).ownBlock = some q → q < w2.heap.size) := Lib.hid fun q hq => hq.elim (fun h => (HCS2.out.own1.lt' q h).2) (fun h => (HCS2.out.own2.lt' q h).2)
  clear hb hba hpb hb5 hw5 hdk hok HP2 HB2 HPG HCS2
  obtain ⟨⟨p0, p1⟩, _⟩ := page_at HPB5.out
  go_upto_region 7 with fail
  have hba := bel_alloc (Below.refl _ w5) (.cells #[.slice D.a D.n D.c, .slice Ow.a Ow.n Ow.c] 41)
  have hpb := heap_alloc_new w5 (.cells #[.slice D.a D.n D.c, .slice Ow.a Ow.n Ow.c] 41)
  obtain ⟨w6, hw6⟩ : ∃ x, x = w5.alloc (.cells #[.slice D.a D.n D.c, .slice Ow.a Ow.n Ow.c] 41) := ⟨_, rfl⟩
  rw [← hw6] at hba hpb ⊢
  have HPB6 := Lib.hid (blk_step HPB5.out hba)
  have HPR6 := Lib.hid hpb
  have HB6 := Lib.hid (bel_trans HB5.out hba)
  have HCS6 := Lib.hid (HCS5.out.step hba)
  have HD6 := Lib.hid (HD5.out.step hba)
  have HO6 := Lib.hid (HO5.out.step hba)
  clear hba hpb hw6 HPB5 HB5 HCS5 HD5 HO5 p0 p1
  obtain ⟨b, e1, hub⟩ := own_at HCS6.out.own1 hn1
  obtain ⟨b2, e2, hvb⟩ := own_at HCS6.out.own2 hn1
  subst e1 e2
  have hu1 : n ≤ uc := hub.1
  have hv1 : n ≤ vc := hvb.1
  have hu2 : uc ≤ 2 ^ 63 - 1 := hub.2.1
  have hv2 : vc ≤ 2 ^ 63 - 1 := hvb.2.1
  have hq1 : (1 : Int) ≤ (n : Int) := by omega
  have hq2 : (1 : Int) ≤ (uc : Int) := by omega
  have hq3 : (1 : Int) ≤ (vc : Int) := by omega
  have hq4 : (n : Int) ≤ (uc : Int) := by omega
  have hq5 : (n : Int) ≤ (vc : Int) := by omega
  clear hub hvb
  go_region
  go_upto_region 8 with fail
  obtain ⟨w7, hw7⟩ : ∃ x, x = w6.drew := ⟨_, rfl⟩
  have hb7 : Below w6.heap.size w6 w6.drew := (Below.refl _ w6).drew
  rw [← hw7] at hb7 ⊢
  have HPBT0 := Lib.hid (blk_step HPB6.out hb7)
  have HPRT0 := Lib.hid (blk_step HPR6.out hb7)
  have HBT0 := Lib.hid (bel_trans HB6.out hb7)
  have HCS7 := Lib.hid (HCS6.out.step hb7)
  have HDT0 := Lib.hid (HD6.out.step hb7)
  have HOT0 := Lib.hid (HO6.out.step hb7)
  clear hb7 hw7 HPB6 HPR6 HB6 HCS6 HD6 HO6
  by_cases h1 : n = 1
  · subst h1
    generalize (if uc = 1 then some (⟨b, 0, none⟩ : Addr) else some ⟨b, 2, none⟩) = aT
    generalize (if vc = 1 then some (⟨b2, 0, none⟩ : Addr) else some ⟨b2, 2, none⟩) = bT
    have HNT : Hid (0 = ([] : List PG).length) := Lib.hid rfl
    have HPT : Hid (PagesL w7 aT []) := Lib.hid ⟨fun h => absurd h (Nat.lt_irrefl 0), fun g hg => by cases hg⟩
    have HPS : Hid (PagesL w7 bT []) := Lib.hid ⟨fun h => absurd h (Nat.lt_irrefl 0), fun g hg => by cases hg⟩
    have HGT : Hid (∀ q ∈ ([] : List PG), q.d.n ≤ 1000 ∧ q.o.n ≤ 1000) := Lib.hid fun q hq => by cases hq
    have HPBT := HPBT0
    have HPRT := HPRT0
    have HBT := HBT0
    have HDT := HDT0
    have HOT := HOT0
    go_upto_region 13 with fail
    have HNM : Hid ((0 : Nat) ≤ 1000) := Lib.hid (by omega)
    clear hu1 hv1 hu2 hv2 hq1 hq2 hq3 hq4 hq5 hn1 hn12 HS HSE HG0 HG12 HSZ3 HN HN2 HGL HGL2 HZ4 HZ5 HUV HCS7 HWA HSZ HSZA HWF HCB HFD HFO HPBT0 HPRT0 HBT0 HDT0 HOT0
    have HMA := Lib.hid (missing_any ⟨D, Ow⟩ aT 0 (uc - 1) [] w7 HNT.out ⟨HDT.out, HOT.out⟩ HPT.out HNM.out ⟨HDN.out, HON.out⟩ HGT.out)
    have HRA : Hid (∀ x, Below w7.heap.size w7 x → Calls Try.prog 12 #[.agg #[.slice D.a D.n D.c, .slice Ow.a Ow.n Ow.c], .slice bT 0 (vc - 1)] x (RMissRet ⟨D, Ow⟩ [] x)) := Lib.hid fun x hx => refMissing_any ⟨D, Ow⟩ bT 0 (vc - 1) [] x HNT.out ⟨HDT.out.step hx, HOT.out.step hx⟩ (HPS.out.step hx) HNM.out ⟨HDN.out, HON.out⟩ HGT.out
    obtain ⟨⟨p0, p1⟩, _⟩ := page_at HPBT.out
    by_cases hmo : MissOk ⟨D, Ow⟩ []
    · have HMO := Lib.hid hmo
      have HMC : Hid (Calls Try.prog 11 #[.agg #[.slice D.a D.n D.c, .slice Ow.a Ow.n Ow.c], .slice aT 0 (uc - 1)] w7 (MissRet ⟨D, Ow⟩ [] w7)) := Lib.hid (HMA.out.1 hmo)
      clear hmo HMA
      go_wp2_with fail
      ((with_reducible refine HMC.out.mono ?_))
      intro e w10 hr
      obtain ⟨D2, O2, rfl, hdl, hol, hdk, hok, hb⟩ := hr
      have HDL2 := Lib.hid hdl
      have HOL2 := Lib.hid hol
      have hba := bel_trans hb (bel_alloc (Below.refl _ w10) (.cells #[.slice D2.a D2.n D2.c, .slice O2.a O2.n O2.c] 39))
      have hb5 := bel_alloc (Below.refl _ w10) (.cells #[.slice D2.a D2.n D2.c, .slice O2.a O2.n O2.c] 39)
      have hpb := heap_alloc_new w10 (.cells #[.slice D2.a D2.n D2.c, .slice O2.a O2.n O2.c] 39)
      clear hdl hol HMC p0 p1
      go_upto_region 14 with fail
      obtain ⟨w11, hw11⟩ : ∃ x, x = w10.alloc (.cells #[.slice D2.a D2.n D2.c, .slice O2.a O2.n O2.c] 39) := ⟨_, rfl⟩
      rw [← hw11] at hba hpb hb5 ⊢
      have HRC := Lib.hid (HRA.out w11 hba)
      have HPB11 := Lib.hid hpb
      have HB11 := Lib.hid (bel_trans HBT.out hba)
      have HD11 := Lib.hid (hdk.step hb5)
      have HO11 := Lib.hid (hok.step hb5)
      obtain ⟨⟨q0, q1⟩, _⟩ := page_at (blk_step HPRT.out hba)
      clear hb hba hpb hb5 hdk hok hw11 HRA
      go_wp2_with fail
      ((with_reducible refine HRC.out.mono ?_))
      intro e w12 hr
      rcases hr with ⟨_, D3, O3, rfl, hdl, hol, hdk, hok, hb⟩ | ⟨hno, _⟩
      case inr => exact absurd HMO.out hno
      have hba := bel_trans hb (bel_alloc (Below.refl _ w12) (.cells #[.slice D3.a D3.n D3.c, .slice O3.a O3.n O3.c] 41))
      have hb5 := bel_alloc (Below.refl _ w12) (.cells #[.slice D3.a D3.n D3.c, .slice O3.a O3.n O3.c] 41)
      have hpb := heap_alloc_new w12 (.cells #[.slice D3.a D3.n D3.c, .slice O3.a O3.n O3.c] 41)
      have HDL3 := Lib.hid hdl
      have HOL3 := Lib.hid hol
      clear hdl hol HRC q0 q1
      go_upto_region 15 with fail
      obtain ⟨w13, hw13⟩ : ∃ x, x = w12.alloc (.cells #[.slice D3.a D3.n D3.c, .slice O3.a O3.n O3.c] 41) := ⟨_, rfl⟩
      rw [← hw13] at hba hpb hb5 ⊢
      have HS1 := Lib.hid (sameB_any D2.a D2.n D2.c D3.a D3.n D3.c D2.l D3.l w13 (HD11.out.step hba).1 (hdk.step hb5).1)
      have HS2 := Lib.hid (sameB_any O2.a O2.n O2.c O3.a O3.n O3.c O2.l O3.l w13 (HO11.out.step hba).1 (hok.step hb5).1)
      rw [HDL2.out, HDL3.out] at HS1
      rw [HOL2.out, HOL3.out] at HS2
      have HB13 := Lib.hid (bel_trans HB11.out hba)
      obtain ⟨⟨p0, p1⟩, _⟩ := page_at (blk_step HPB11.out hba)
      obtain ⟨⟨q0, q1⟩, _⟩ := page_at hpb
      clear hb hba hpb hb5 hdk hok hw13
      go_wp2_with fail
      ((with_reducible refine HS1.out.mono ?_))
      rintro e w14 ⟨rfl, rfl⟩
      simp only [decide_true]
      go_wp2_with fail
      ((with_reducible refine HS2.out.mono ?_))
      rintro e w15 ⟨rfl, rfl⟩
      simp only [decide_true]
      go_wp2
      go_ret
      exact ⟨rfl, HB13.out⟩
    · have HMO := Lib.hid hmo
      have HMC := Lib.hid (HMA.out.2 hmo)
      clear hmo HMA
      go_wp2_with fail
      ((with_reducible refine HMC.out.mono ?_))
      rintro e w10 ⟨rfl, hb⟩
      have hba := bel_trans hb (bel_alloc (Below.refl _ w10) (.cells #[.slice none 0 0, .slice none 0 0] 39))
      have hpb := heap_alloc_new w10 (.cells #[.slice none 0 0, .slice none 0 0] 39)
      clear HMC p0 p1
      go_upto_region 14 with fail
      obtain ⟨w11, hw11⟩ : ∃ x, x = w10.alloc (.cells #[.slice none 0 0, .slice none 0 0] 39) := ⟨_, rfl⟩
      rw [← hw11] at hba hpb ⊢
      have HRC := Lib.hid (HRA.out w11 hba)
      have HPB11 := Lib.hid hpb
      have HB11 := Lib.hid (bel_trans HBT.out hba)
      obtain ⟨⟨q0, q1⟩, _⟩ := page_at (blk_step HPRT.out hba)
      clear hb hba hpb hw11 HRA
      go_wp2_with fail
      ((with_reducible refine HRC.out.mono ?_))
      intro e w12 hr
      rcases hr with ⟨hyes, _⟩ | ⟨_, rfl, hb⟩
      case inl => exact absurd hyes HMO.out
      have hba := bel_trans hb (bel_alloc (Below.refl _ w12) (.cells #[.slice none 0 0, .slice none 0 0] 41))
      have hpb := heap_alloc_new w12 (.cells #[.slice none 0 0, .slice none 0 0] 41)
      clear HRC q0 q1
      go_upto_region 15 with fail
      obtain ⟨w13, hw13⟩ : ∃ x, x = w12.alloc (.cells #[.slice none 0 0, .slice none 0 0] 41) := ⟨_, rfl⟩
      rw [← hw13] at hba hpb ⊢
      have HS0 : Hid (Calls Try.prog 13 #[.slice none 0 0, .slice none 0 0] w13 fun e w' => e = .returned (.bool true) ∧ w' = w13) := Lib.hid (by
        have h := sameB_any none 0 0 none 0 0 [] [] w13 (row_nil w13) (row_nil w13)
        simpa using h)
      have HB13 := Lib.hid (bel_trans HB11.out hba)
      obtain ⟨⟨p0, p1⟩, _⟩ := page_at (blk_step HPB11.out hba)
      obtain ⟨⟨q0, q1⟩, _⟩ := page_at hpb
      clear hb hba hpb hw13
      go_wp2_with fail
      ((with_reducible refine HS0.out.mono ?_))
      rintro e w14 ⟨rfl, rfl⟩
      go_wp2_with fail
      ((with_reducible refine HS0.out.mono ?_))
      rintro e w15 ⟨rfl, rfl⟩
      go_wp2
      go_ret
      exact ⟨rfl, HB13.out⟩
  · have h2 : 2 ≤ n := by omega
    have hu3 : ¬ (uc = 1) := by omega
    have hv3 : ¬ (vc = 1) := by omega
    rw [if_neg hu3, if_neg hv3]
    obtain ⟨m, hm⟩ : ∃ m, m = n - 1 := ⟨_, rfl⟩
    obtain ⟨c1, hc1⟩ : ∃ c, c = uc - 1 := ⟨_, rfl⟩
    obtain ⟨c2, hc2⟩ : ∃ c, c = vc - 1 := ⟨_, rfl⟩
    rw [← hm, ← hc1, ← hc2]
    have hm1 : 1 ≤ m := by omega
    have hm12 : m ≤ 11 := by omega
    have hmc1 : m ≤ c1 := by omega
    have hmc2 : m ≤ c2 := by omega
    have HMN : Hid (m = (G.drop 1).length) := Lib.hid (by rw [List.length_drop, ← HN.out]; exact hm)
    obtain ⟨_, hbl, _⟩ : True ∧ b < w2.heap.size ∧ True := ⟨trivial, HUV.out b (.inl rfl), trivial⟩
    have HBL : Hid (b < w2.heap.size) := Lib.hid hbl
    have HBL2 : Hid (b2 < w2.heap.size) := Lib.hid (HUV.out b2 (.inr rfl))
    have HBLO : Hid (wA.heap.size ≤ b) := Lib.hid (HCS7.out.own1.lt' b rfl).1
    have HBLO2 : Hid (wA.heap.size ≤ b2) := Lib.hid (HCS7.out.own2.lt' b2 rfl).1
    have HBNE : Hid (b ≠ b2) := Lib.hid fun e => HCS7.out.ns b rfl (by rw [e]; rfl)
    clear h1 h2 hu1 hv1 hu2 hv2 hq1 hq2 hq3 hq4 hq5 hu3 hv3 hn1 hn12 hm hc1 hc2 hbl
    have t1 : decide ((0 : Int) < (m : Int)) = true := by simp; omega
    have t1' : decide (0 < m) = true := by simp; omega
    obtain ⟨k, hkn, hke⟩ := which_of wx m (by omega) (by omega)
    obtain ⟨p, hpn, hpe⟩ := at_of at'
    go_upto_region 11 with fail
    rw [hke, hpe]
    clear hke hpe t1 t1'
    have hkG : k < (G.drop 1).length := by rw [← HMN.out]; exact hkn
    have hcg1 : CellsG w7 (some ⟨b, 2, none⟩) (G.drop 1) := cellsG_drop (by
      obtain ⟨a', c', e, h, _⟩ := cellsG_own HCS7.out.own1
      simp only [Value.slice.injEq] at e
      rw [e.1]; exact h)
    have hcg2 : CellsG w7 (some ⟨b2, 2, none⟩) (G.drop 1) := cellsG_drop (by
      obtain ⟨a', c', e, h, _⟩ := cellsG_own HCS7.out.own2
      simp only [Value.slice.injEq] at e
      rw [e.1]; exact h)
    have hgm : (G.drop 1).getD k PG.nil ∈ G := List.mem_of_mem_drop (getD_mem' _ k hkG)
    have HCG1 := Lib.hid hcg1
    have HCG2 := Lib.hid hcg2
    obtain ⟨x0, x1⟩ := cellsG_at hcg1 hkG
    obtain ⟨y0, y1⟩ := cellsG_at hcg2 hkG
    have hok := HCS7.out.pages _ hgm
    have hgl := HGL.out _ hgm
    obtain ⟨g, hg⟩ : ∃ g, g = (G.drop 1).getD k PG.nil := ⟨_, rfl⟩
    rw [← hg] at x0 x1 y0 y1 hok hgl
    have HG := Lib.hid hg
    obtain ⟨ob, oo, hoa, _⟩ := tail_ok hok.2 hgl.2
    have hrow := hok.2.1
    have hc64 : g.o.n ≤ g.o.c := hok.2.2.1
    have hcmx : g.o.c ≤ maxLen := hok.2.2.2.1
    have HY1 := Lib.hid y1
    have HX1 := Lib.hid x1
    unfold PS.v at x1
    rw [hoa, hgl.2] at x1
    rw [hoa, hgl.2] at hrow
    rw [hgl.2] at hc64
    unfold maxLen at hcmx
    obtain ⟨oc, hoc⟩ : ∃ oc, oc = g.o.c := ⟨_, rfl⟩
    rw [← hoc] at x1 hc64 hcmx
    have HROW := Lib.hid hrow
    have HOKG := Lib.hid hok
    clear hcg1 hcg2 hgm x0 y0 y1 hok hgl hg hoa hrow hoc hkG
    have hk0 : (0 : Int) ≤ (k : Int) := by omega
    have hk1 : (k : Int) < (m : Int) := by omega
    have HWI : Hid (Calls Try.prog 10 #[.slice (some ⟨ob, oo, none⟩) 64 oc, .int .i64 (p : Int), .slice (some ⟨w7.heap.size, 0, none⟩) 1 1] (w7.alloc (.cells #[.int .u8 (cb : Int)] 5)) (RetOwn _ (g.o.l.take p ++ [cb] ++ g.o.l.drop (p + 1)))) :=
      Lib.hid (with_any ob oo 64 oc g.o.l p w7.heap.size 1 cb _ (row_alloc HROW.out _) hc64 hcmx hpn (by omega) (row_one w7 cb HCB.out))
    go_wp2_with fail
    ((with_reducible refine HWI.out.mono ?_))
    intro e w8 hr
    obtain ⟨O, rfl, hol, hon, hok, hb, hoa⟩ := own_parts hr
    have hll : (g.o.l.take p ++ [cb] ++ g.o.l.drop (p + 1)).length = 64 := by
      have h1 : g.o.l.length = 64 := HROW.out.1
      simp only [List.length_append, List.length_take, List.length_drop, List.length_cons, List.length_nil]
      omega
    have HO64 : Hid (O.n = 64) := Lib.hid (hon.trans hll)
    have hb8 : Below w7.heap.size w7 w8 := bel_trans (bel_alloc (Below.refl _ w7) (.cells #[.int .u8 (cb : Int)] 5)) hb
    have HPB8 := Lib.hid (blk_step HPBT0.out hb8)
    have HPR8 := Lib.hid (blk_step HPRT0.out hb8)
    have HB8 := Lib.hid (bel_trans HBT0.out hb8)
    have HCS8 := Lib.hid (HCS7.out.step hb8)
    have HD8 := Lib.hid (HDT0.out.step hb8)
    have HO8 := Lib.hid (HOT0.out.step hb8)
    have HON8 := Lib.hid hok
    have HC18 := Lib.hid (HCG1.out.keep hb8 (Nat.le_refl _))
    have HC28 := Lib.hid (HCG2.out.keep hb8 (Nat.le_refl _))
    have hw78 : w2.heap.size ≤ w7.heap.size := by
      have h1 := (Array.getElem?_eq_some_iff.1 HPBT0.out).1
      have h2 := HZ4.out
      omega
    have HOF : Hid (Far w2.heap.size O) := Lib.hid fun x hx => Nat.le_trans (Nat.le_trans hw78 (by simp)) (hoa x hx).1
    have hx8 := cell_keep HX1.out hb8 (Nat.le_refl _)
    have hy8 := cell_keep HY1.out hb8 (Nat.le_refl _)
    have hnp : 0 < n := by have h1 := HN.out; have h2 := HG0.out; omega
    obtain ⟨_, e, _, _, hcb1⟩ := own_at HCS8.out.own1 hnp
    cases e
    obtain ⟨_, e, _, _, hcb2⟩ := own_at HCS8.out.own2 hnp
    cases e
    have hfz1 := frozen_at hcb1 (2 + k * 2 + 1)
    have HCB2 := Lib.hid hcb2
    have HX8 := Lib.hid hx8
    have HY8 := Lib.hid hy8
    clear hr hol hon hok hb hoa hll hb8 hw78 x1 HWI HCG1 HCG2 HROW hcb1 hcb2 hy8 hnp
    go_upto_region 12 with fail
    have hx9 := World.cell?_setCell_same w8 ⟨b, 2 + k * 2 + 1, none⟩ (.slice O.a O.n O.c) HX8.out
    have hy9 : (w8.setCell ⟨b, 2 + k * 2 + 1, none⟩ (.slice O.a O.n O.c)).cell? ⟨b2, 2 + k * 2 + 1, none⟩ = some g.o.v := (World.cell?_setCell_other w8 _ _ _ (by have := HBNE.out; first | (simp; done) | (simp; omega))).trans HY8.out
    have hfz2 : (w8.setCell ⟨b, 2 + k * 2 + 1, none⟩ (.slice O.a O.n O.c)).frozen? ⟨b2, 2 + k * 2 + 1, none⟩ = false := frozen_at (HCB2.out.imp fun _ h => set_blk1 _ (Ne.symm HBNE.out) h) _
    have hkG : k < (G.drop 1).length := by rw [← HMN.out]; exact hkn
    have HC19 : Hid (CellsG (w8.setCell ⟨b, 2 + k * 2 + 1, none⟩ (.slice O.a O.n O.c)) (some ⟨b, 2, none⟩) ((G.drop 1).set k ⟨((G.drop 1).getD k PG.nil).d, O⟩)) := Lib.hid (cellsG_set HC18.out hkG)
    have HC29 : Hid (CellsG (w8.setCell ⟨b, 2 + k * 2 + 1, none⟩ (.slice O.a O.n O.c)) (some ⟨b2, 2, none⟩) (G.drop 1)) := Lib.hid (cellsG_other HC28.out (Ne.symm HBNE.out))
    have hb4 : b < w4.heap.size := Nat.lt_of_lt_of_le HBL.out HZ4.out
    have hb24 : b2 < w4.heap.size := Nat.lt_of_lt_of_le HBL2.out HZ4.out
    have h54 := HZ5.out
    have HPB9 := Lib.hid (set_blk1 (C := b) (o := 2 + k * 2 + 1) (.slice O.a O.n O.c) (by omega) HPB8.out)
    have HPR9 := Lib.hid (set_blk1 (C := b) (o := 2 + k * 2 + 1) (.slice O.a O.n O.c) (by omega) HPR8.out)
    have HB9 := Lib.hid (HB8.out.setCell (p := ⟨b, 2 + k * 2 + 1, none⟩) (Nat.le_trans HWA.out HBLO.out) (.slice O.a O.n O.c))
    have HD9 := Lib.hid (HD8.out.set (o := 2 + k * 2 + 1) (v := .slice O.a O.n O.c) HFD.out HBL.out)
    have HO9 := Lib.hid (HO8.out.set (o := 2 + k * 2 + 1) (v := .slice O.a O.n O.c) HFO.out HBL.out)
    have HON9 := Lib.hid (HON8.out.set (o := 2 + k * 2 + 1) (v := .slice O.a O.n O.c) HOF.out HBL.out)
    have HPG9 : Hid (∀ q ∈ G, PageOk (w8.setCell ⟨b, 2 + k * 2 + 1, none⟩ (.slice O.a O.n O.c)) q) := Lib.hid fun q hq => (HCS8.out.pages q hq).grown (set_grown _ _ _ _) fun a ha e => (HCS8.out.apart q hq a ha).2.2.1 e.symm
    have HAP : Hid (∀ q ∈ G, ∀ a, q.has a → some a.block ≠ some b2) := Lib.hid fun q hq a ha e => (HCS8.out.apart q hq a ha).2.2.2 e.symm
    obtain ⟨w9, hw9⟩ : ∃ x, x = w8.setCell ⟨b, 2 + k * 2 + 1, none⟩ (.slice O.a O.n O.c) := ⟨_, rfl⟩
    rw [← hw9] at hx9 hy9 hfz2 HC19 HC29 HPB9 HPR9 HB9 HD9 HO9 HON9 HPG9 ⊢
    clear hw9 HCS8 HPB8 HPR8 HB8 HD8 HO8 HON8 HC18 HC28 hx8 hfz1 hb4 hb24
    unfold PS.v at hy9
    go_upto_region 13 with fail
    have hgm : (G.drop 1).getD k PG.nil ∈ G := List.mem_of_mem_drop (getD_mem' _ k hkG)
    obtain ⟨GT, hGT⟩ : ∃ GT, GT = (G.drop 1).set k ⟨((G.drop 1).getD k PG.nil).d, O⟩ := ⟨_, rfl⟩
    have hc1 : CellsG (w9.setCell ⟨b2, 2 + k * 2 + 1, none⟩ (.slice O.a O.n O.c)) (some ⟨b, 2, none⟩) GT := by rw [hGT]; exact cellsG_other HC19.out HBNE.out
    have hc2 : CellsG (w9.setCell ⟨b2, 2 + k * 2 + 1, none⟩ (.slice O.a O.n O.c)) (some ⟨b2, 2, none⟩) GT := by rw [hGT]; exact cellsG_set HC29.out hkG
    have hmem : ∀ q ∈ GT, q ∈ G ∨ q = ⟨((G.drop 1).getD k PG.nil).d, O⟩ := fun q hq => by
      rw [hGT] at hq
      exact (List.mem_or_eq_of_mem_set hq).imp List.mem_of_mem_drop id
    have hpo : ∀ q ∈ G, PageOk (w9.setCell ⟨b2, 2 + k * 2 + 1, none⟩ (.slice O.a O.n O.c)) q := fun q hq => (HPG9.out q hq).grown (set_grown _ _ _ _) fun a ha => HAP.out q hq a ha
    have hpt : ∀ q ∈ GT, PageOk (w9.setCell ⟨b2, 2 + k * 2 + 1, none⟩ (.slice O.a O.n O.c)) q := fun q hq => by
      rcases hmem q hq with h | rfl
      · exact hpo q h
      · exact ⟨(hpo _ hgm).1, HON9.out.set HOF.out HBL2.out⟩
    have HGT : Hid (∀ q ∈ GT, q.d.n ≤ 1000 ∧ q.o.n ≤ 1000) := Lib.hid fun q hq => by
      rcases hmem q hq with h | rfl
      · exact HGL2.out q h
      · exact ⟨(HGL2.out _ hgm).1, by have := HO64.out; simp only; omega⟩
    have HNT : Hid (m = GT.length) := Lib.hid (by rw [hGT, List.length_set]; exact HMN.out)
    have hb4 : b2 < w4.heap.size := Nat.lt_of_lt_of_le HBL2.out HZ4.out
    have HPBT := Lib.hid (set_blk1 (C := b2) (o := 2 + k * 2 + 1) (.slice O.a O.n O.c) (by omega) HPB9.out)
    have HPRT := Lib.hid (set_blk1 (C := b2) (o := 2 + k * 2 + 1) (.slice O.a O.n O.c) (by omega) HPR9.out)
    have HBT := Lib.hid (HB9.out.setCell (p := ⟨b2, 2 + k * 2 + 1, none⟩) (Nat.le_trans HWA.out HBLO2.out) (.slice O.a O.n O.c))
    have HDT := Lib.hid (HD9.out.set (o := 2 + k * 2 + 1) (v := .slice O.a O.n O.c) HFD.out HBL2.out)
    have HOT := Lib.hid (HO9.out.set (o := 2 + k * 2 + 1) (v := .slice O.a O.n O.c) HFO.out HBL2.out)
    have HPT := Lib.hid (pagesL_of hc1 hpt)
    have HPS := Lib.hid (pagesL_of hc2 hpt)
    obtain ⟨w9b, hw9⟩ : ∃ x, x = w9.setCell ⟨b2, 2 + k * 2 + 1, none⟩ (.slice O.a O.n O.c) := ⟨_, rfl⟩
    rw [← hw9] at HPBT HPRT HBT HDT HOT HPT HPS ⊢
    have HNM : Hid (m ≤ 1000) := Lib.hid (by omega)
    clear hw9 hc1 hc2 hpo hpt hmem hgm hGT hx9 hy9 hfz2 HC19 HC29 HPB9 HPR9 HB9 HD9 HO9 HON9 HPG9 HAP hkG hb4 h54
    clear hm1 hm12 hmc1 hmc2 hkn hpn hk0 hk1 hcmx hc64 HS HSE HG0 HG12 HSZ3 HN HN2 HGL HGL2 HZ4 HZ5 HUV HCS7 HWA HSZ HSZA HWF HCB HFD HFO HPBT0 HPRT0 HBT0 HDT0 HOT0 HG HOKG HX1 HY1 HX8 HY8 HCB2 HOF HO64 HMN HBL HBL2 HBLO HBLO2 HBNE
    have HMA := Lib.hid (missing_any ⟨D, Ow⟩ (some ⟨b, 2, none⟩) m c1 GT w9b HNT.out ⟨HDT.out, HOT.out⟩ HPT.out HNM.out ⟨HDN.out, HON.out⟩ HGT.out)
    have HRA : Hid (∀ x, Below w9b.heap.size w9b x → Calls Try.prog 12 #[.agg #[.slice D.a D.n D.c, .slice Ow.a Ow.n Ow.c], .slice (some ⟨b2, 2, none⟩) m c2] x (RMissRet ⟨D, Ow⟩ GT x)) := Lib.hid fun x hx => refMissing_any ⟨D, Ow⟩ (some ⟨b2, 2, none⟩) m c2 GT x HNT.out ⟨HDT.out.step hx, HOT.out.step hx⟩ (HPS.out.step hx) HNM.out ⟨HDN.out, HON.out⟩ HGT.out
    obtain ⟨⟨p0, p1⟩, _⟩ := page_at HPBT.out
    by_cases hmo : MissOk ⟨D, Ow⟩ GT
    · have HMO := Lib.hid hmo
      have HMC : Hid (Calls Try.prog 11 #[.agg #[.slice D.a D.n D.c, .slice Ow.a Ow.n Ow.c], .slice (some ⟨b, 2, none⟩) m c1] w9b (MissRet ⟨D, Ow⟩ GT w9b)) := Lib.hid (HMA.out.1 hmo)
      clear hmo HMA
      go_wp2_with fail
      ((with_reducible refine HMC.out.mono ?_))
      intro e w10 hr
      obtain ⟨D2, O2, rfl, hdl, hol, hdk, hok, hb⟩ := hr
      have HDL2 := Lib.hid hdl
      have HOL2 := Lib.hid hol
      have hba := bel_trans hb (bel_alloc (Below.refl _ w10) (.cells #[.slice D2.a D2.n D2.c, .slice O2.a O2.n O2.c] 39))
      have hb5 := bel_alloc (Below.refl _ w10) (.cells #[.slice D2.a D2.n D2.c, .slice O2.a O2.n O2.c] 39)
      have hpb := heap_alloc_new w10 (.cells #[.slice D2.a D2.n D2.c, .slice O2.a O2.n O2.c] 39)
      clear hdl hol HMC p0 p1
      go_upto_region 14 with fail
      obtain ⟨w11, hw11⟩ : ∃ x, x = w10.alloc (.cells #[.slice D2.a D2.n D2.c, .slice O2.a O2.n O2.c] 39) := ⟨_, rfl⟩
      rw [← hw11] at hba hpb hb5 ⊢
      have HRC := Lib.hid (HRA.out w11 hba)
      have HPB11 := Lib.hid hpb
      have HB11 := Lib.hid (bel_trans HBT.out hba)
      have HD11 := Lib.hid (hdk.step hb5)
      have HO11 := Lib.hid (hok.step hb5)
      obtain ⟨⟨q0, q1⟩, _⟩ := page_at (blk_step HPRT.out hba)
      clear hb hba hpb hb5 hdk hok hw11 HRA
      go_wp2_with fail
      ((with_reducible refine HRC.out.mono ?_))
      intro e w12 hr
      rcases hr with ⟨_, D3, O3, rfl, hdl, hol, hdk, hok, hb⟩ | ⟨hno, _⟩
      case inr => exact absurd HMO.out hno
      have hba := bel_trans hb (bel_alloc (Below.refl _ w12) (.cells #[.slice D3.a D3.n D3.c, .slice O3.a O3.n O3.c] 41))
      have hb5 := bel_alloc (Below.refl _ w12) (.cells #[.slice D3.a D3.n D3.c, .slice O3.a O3.n O3.c] 41)
      have hpb := heap_alloc_new w12 (.cells #[.slice D3.a D3.n D3.c, .slice O3.a O3.n O3.c] 41)
      have HDL3 := Lib.hid hdl
      have HOL3 := Lib.hid hol
      clear hdl hol HRC q0 q1
      go_upto_region 15 with fail
      obtain ⟨w13, hw13⟩ : ∃ x, x = w12.alloc (.cells #[.slice D3.a D3.n D3.c, .slice O3.a O3.n O3.c] 41) := ⟨_, rfl⟩
      rw [← hw13] at hba hpb hb5 ⊢
      have HS1 := Lib.hid (sameB_any D2.a D2.n D2.c D3.a D3.n D3.c D2.l D3.l w13 (HD11.out.step hba).1 (hdk.step hb5).1)
      have HS2 := Lib.hid (sameB_any O2.a O2.n O2.c O3.a O3.n O3.c O2.l O3.l w13 (HO11.out.step hba).1 (hok.step hb5).1)
      rw [HDL2.out, HDL3.out] at HS1
      rw [HOL2.out, HOL3.out] at HS2
      have HB13 := Lib.hid (bel_trans HB11.out hba)
      obtain ⟨⟨p0, p1⟩, _⟩ := page_at (blk_step HPB11.out hba)
      obtain ⟨⟨q0, q1⟩, _⟩ := page_at hpb
      clear hb hba hpb hb5 hdk hok hw13
      go_wp2_with fail
      ((with_reducible refine HS1.out.mono ?_))
      rintro e w14 ⟨rfl, rfl⟩
      simp only [decide_true]
      go_wp2_with fail
      ((with_reducible refine HS2.out.mono ?_))
      rintro e w15 ⟨rfl, rfl⟩
      simp only [decide_true]
      go_wp2
      go_ret
      exact ⟨rfl, HB13.out⟩
    · have HMO := Lib.hid hmo
      have HMC := Lib.hid (HMA.out.2 hmo)
      clear hmo HMA
      go_wp2_with fail
      ((with_reducible refine HMC.out.mono ?_))
      rintro e w10 ⟨rfl, hb⟩
      have hba := bel_trans hb (bel_alloc (Below.refl _ w10) (.cells #[.slice none 0 0, .slice none 0 0] 39))
      have hpb := heap_alloc_new w10 (.cells #[.slice none 0 0, .slice none 0 0] 39)
      clear HMC p0 p1
      go_upto_region 14 with fail
      obtain ⟨w11, hw11⟩ : ∃ x, x = w10.alloc (.cells #[.slice none 0 0, .slice none 0 0] 39) := ⟨_, rfl⟩
      rw [← hw11] at hba hpb ⊢
      have HRC := Lib.hid (HRA.out w11 hba)
      have HPB11 := Lib.hid hpb
      have HB11 := Lib.hid (bel_trans HBT.out hba)
      obtain ⟨⟨q0, q1⟩, _⟩ := page_at (blk_step HPRT.out hba)
      clear hb hba hpb hw11 HRA
      go_wp2_with fail
      ((with_reducible refine HRC.out.mono ?_))
      intro e w12 hr
      rcases hr with ⟨hyes, _⟩ | ⟨_, rfl, hb⟩
      case inl => exact absurd hyes HMO.out
      have hba := bel_trans hb (bel_alloc (Below.refl _ w12) (.cells #[.slice none 0 0, .slice none 0 0] 41))
      have hpb := heap_alloc_new w12 (.cells #[.slice none 0 0, .slice none 0 0] 41)
      clear HRC q0 q1
      go_upto_region 15 with fail
      obtain ⟨w13, hw13⟩ : ∃ x, x = w12.alloc (.cells #[.slice none 0 0, .slice none 0 0] 41) := ⟨_, rfl⟩
      rw [← hw13] at hba hpb ⊢
      have HS0 : Hid (Calls Try.prog 13 #[.slice none 0 0, .slice none 0 0] w13 fun e w' => e = .returned (.bool true) ∧ w' = w13) := Lib.hid (by
        have h := sameB_any none 0 0 none 0 0 [] [] w13 (row_nil w13) (row_nil w13)
        simpa using h)
      have HB13 := Lib.hid (bel_trans HB11.out hba)
      obtain ⟨⟨p0, p1⟩, _⟩ := page_at (blk_step HPB11.out hba)
      obtain ⟨⟨q0, q1⟩, _⟩ := page_at hpb
      clear hb hba hpb hw13
      go_wp2_with fail
      ((with_reducible refine HS0.out.mono ?_))
      rintro e w14 ⟨rfl, rfl⟩
      go_wp2_with fail
      ((with_reducible refine HS0.out.mono ?_))
      rintro e w15 ⟨rfl, rfl⟩
      go_wp2
      go_ret
      exact ⟨rfl, HB13.out⟩

end Go.Proofs.Ytnkkeffjnamcgaa
