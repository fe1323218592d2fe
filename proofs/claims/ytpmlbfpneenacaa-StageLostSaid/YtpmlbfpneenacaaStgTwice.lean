/- gabionlaw11: page, shape. -/
import Derived.Test.YtpmlbfpneenacaaStgPut
import Derived.Test.YtpmlbfpneenacaaRefPart
import Derived.Test.YtpmlbfpneenacaaFPage
import Derived.Test.YtpmlbfpneenacaaWriterText
import Derived.Test.YtpmlbfpneenacaaStgGet
import Derived.Test.YtpmlbfpneenacaaRamNew
namespace Go.Proofs.Ytpmlbfpneenacaa
open Go.RowKit Go.Deep

def pgHdr (n c : Nat) : RH := ⟨4, c, 0, 0, 0, n, 0⟩
/-- A page's bytes, the first k of them. -/
def pgTo (n c k : Nat) : List Nat := (List.range 256).map fun j => if j < k then (c + j * n % 256) % 256 else 0
def pgL (n c : Nat) : List Nat := pgTo n c 256
theorem pgTo_len (n c k : Nat) : (pgTo n c k).length = 256 := by simp [pgTo]
theorem pgTo_zero (n c : Nat) : pgTo n c 0 = List.replicate 256 0 := by
  unfold pgTo
  simp only [Nat.not_lt_zero, if_false]
  rw [List.map_const', List.length_range]
theorem pgTo_set (n c k : Nat) : (pgTo n c k).set k ((c + k * n % 256) % 256) = pgTo n c (k + 1) := by
  unfold pgTo
  apply List.ext_getElem
  · simp
  · intro j h1 h2
    rw [List.getElem_set]
    simp only [List.getElem_map, List.getElem_range]
    by_cases e : k = j
    · subst e; rw [if_pos rfl, if_pos (by omega)]
    · rw [if_neg e]
      by_cases h : j < k
      · rw [if_pos h, if_pos (by omega)]
      · rw [if_neg h, if_neg (by omega)]
theorem pgTo_lt (n c k : Nat) : ∀ x ∈ pgTo n c k, x < 256 := by
  intro x hx
  unfold pgTo at hx
  rw [List.mem_map] at hx
  obtain ⟨j, _, rfl⟩ := hx
  split
  · exact Nat.mod_lt _ (by decide)
  · decide
theorem pg_wrap (k n : Nat) (hk : k < 256) (hn : n ≤ 1000) : wrap64 ((k : Int) * (n : Int)) % 256 = ((k * n % 256 : Nat) : Int) := by
  have h : k * n ≤ 255 * 1000 := Nat.mul_le_mul (by omega) hn
  have e : (k : Int) * (n : Int) = ((k * n : Nat) : Int) := by simp
  rw [e]
  generalize k * n = z at h ⊢
  rw [IntWalk.wrap64_in _ (by omega)]
  omega
theorem pg_wrap2 (k n : Nat) (hk : k < 256) (hn : n ≤ 1000) : IntKind.u8.wrap (wrap64 ((k : Int) * (n : Int))) = ((k * n % 256 : Nat) : Int) := by
  rw [IntKind.wrap_u8, pg_wrap k n hk hn]
theorem pg_add (c y z : Nat) (hz : z = (c + y) % 256) : IntKind.u8.wrap ((c : Int) + (y : Int)) = ((z : Nat) : Int) := by
  rw [hz, IntKind.wrap_u8]
  omega
def PageRet (n c : Nat) (w : World) (e : Ending) (w' : World) : Prop :=
  ∃ D : PS, e = .returned (.agg #[.int .u8 4, .int .u32 (c : Int), .int .u32 0, .int .u16 0, .int .u16 0, .int .u32 (n : Int), .int .u32 0, .slice D.a D.n D.c]) ∧ D.l = pgL n c ∧ D.n = 256 ∧ PartOk w' D ∧ Far w.heap.size D ∧ Below w.heap.size w w'
set_option maxRecDepth 100000 in
set_option maxHeartbeats 1000000 in
theorem stgPage_any (n c : Nat) (w : World) (hn : n ≤ 1000) (hc : c < 256) :
    Calls Try.prog 43 #[.int .i64 (n : Int), .int .u8 (c : Int)] w (PageRet n c w) := by
  have HZ := Lib.hid fun x : World => zeros_any 256 x (by omega)
  rw [show ((256 : Nat) : Int) = 256 from rfl] at HZ
  have u1 : IntKind.u32.wrap (n : Int) = (n : Int) := by rw [IntKind.wrap_u32]; omega
  have u2 : IntKind.u32.wrap (c : Int) = (c : Int) := by rw [IntKind.wrap_u32]; omega
  go_enter Try.func43, Try.ntmps43
  go_upto_region 1 with fail
  have l0 := heap_alloc_new w (.cells #[.int .u8 0, .int .u32 0, .int .u32 0, .int .u16 0, .int .u16 0, .int .u32 0, .int .u32 0, .slice none 0 0] 77)
  have hb0 := bel_alloc (Below.refl _ w) (.cells #[.int .u8 0, .int .u32 0, .int .u32 0, .int .u16 0, .int .u16 0, .int .u32 0, .int .u32 0, .slice none 0 0] 77)
  obtain ⟨w0, hw0⟩ : ∃ x, x = w.alloc (.cells #[.int .u8 0, .int .u32 0, .int .u32 0, .int .u16 0, .int .u16 0, .int .u32 0, .int .u32 0, .slice none 0 0] 77) := ⟨_, rfl⟩
  obtain ⟨rb, hrb⟩ : ∃ x, x = w.heap.size := ⟨_, rfl⟩
  rw [← hw0, ← hrb] at l0
  rw [← hw0] at hb0
  rw [← hw0, ← hrb]
  have HL0 := Lib.hid l0
  have HB0 := Lib.hid hb0
  have HRB : Hid (w.heap.size ≤ rb ∧ rb < w0.heap.size) := Lib.hid ⟨by omega, (Array.getElem?_eq_some_iff.1 l0).1⟩
  clear hw0 hrb l0 hb0
  go_wp2_with fail
  ((with_reducible refine (HZ.out _).mono ?_))
  rintro e w6 ⟨sv6, rfl, ho, hb6⟩
  obtain ⟨g, cap, rfl, hge, hgl, hO, hmx⟩ := ownB_of ho (by simp)
  rw [← pgTo_zero n c, pgTo_len] at hO hmx ⊢
  have HO := Lib.hid hO
  have HB6 := Lib.hid hb6
  have HGE : Hid (w0.heap.size ≤ g) := Lib.hid hge
  clear ho hO hb6 hge hgl
  go_upto_region 3 with fail
  go_loopw [6] (fun kv wi => ∃ k : Nat, k ≤ 256 ∧ kv = .int .i64 (k : Int) ∧ OwnB w0.heap.size wi g 256 cap (pgTo n c k) ∧ Below w0.heap.size w0 wi) (fun kv _ => (256 - intOf kv).toNat)
  case atStart => exact ⟨0, Nat.zero_le _, rfl, HO.out, HB6.out⟩
  case round =>
    obtain ⟨k, hk, rfl, hOk, hBk⟩ := hrel
    have HOK := Lib.hid hOk
    have HBK := Lib.hid hBk
    clear hOk hBk
    by_cases hk2 : k < 256
    · have q3 : decide ((k : Int) < 256) = true := by simp; omega
      have q3' : decide (k < 256) = true := by simpa using hk2
      have m0 : (0 : Int) ≤ (k : Int) := by omega
      have m1 : (k : Int) < 256 := by omega
      have d0 := ownB_cell HOK.out k hk2
      have df := ownB_frozen HOK.out k
      obtain ⟨y, hy⟩ : ∃ y, y = k * n % 256 := ⟨_, rfl⟩
      have v0 := pg_wrap k n hk2 hn
      have v1 := pg_wrap2 k n hk2 hn
      rw [← hy] at v0 v1
      obtain ⟨z, hz⟩ : ∃ z, z = (c + y) % 256 := ⟨_, rfl⟩
      have v2 := pg_add c y z hz
      have hz2 : z < 256 := by rw [hz]; exact Nat.mod_lt _ (by decide)
      have h7 := ownB_set HOK.out k z hz2
      rw [hz, hy, pgTo_set n c k] at h7
      rw [← hy, ← hz] at h7
      have hb7 := HBK.out.setCell (p := ⟨g, k, none⟩) HGE.out (.int .u8 (z : Int))
      have H7 := Lib.hid (And.intro h7 hb7)
      have HY := Lib.hid (And.intro hy hz)
      clear hy hz h7 hb7
      go_upto_region 4 with fail
      obtain ⟨w7, hw7⟩ : ∃ x, x = wr.setCell ⟨g, k, none⟩ (.int .u8 (z : Int)) := ⟨_, rfl⟩
      rw [← hw7] at H7 ⊢
      clear hw7 d0 df v0 v1 v2
      go_wp2
      go_roundw
      case rel => exact ⟨k + 1, by omega, by go_num, H7.out.1, H7.out.2⟩
      case measure => simp [intOf]; omega
    · obtain rfl : k = 256 := by omega
      have q3 : decide (((256 : Nat) : Int) < 256) = false := by simp
      have hl0 := (HBK.out.block _ HRB.out.2).trans HL0.out
      obtain ⟨z0, z1, z2, z3, z4, z5, z6, z7⟩ := eight_at hl0
      have zf := free_at hl0
      have HE : Hid (∃ D : PS, Value.slice (some ⟨g, 0, none⟩) 256 cap = .slice D.a D.n D.c ∧ D.l = pgL n c ∧ D.n = 256 ∧ D.a = some ⟨g, 0, none⟩ ∧ PartOk wr D) := Lib.hid (by
        refine ⟨⟨some ⟨g, 0, none⟩, 256, cap, pgL n c⟩, rfl, rfl, rfl, rfl, row_ownB HOK.out, ?_, ?_, fun h => by cases h⟩
        · rcases HOK.out.1.1.2 with ⟨e, _⟩ | ⟨g', cap', cur, e, _, _, h1, _⟩
          · cases e
          · cases e
            rw [HOK.out.2] at h1
            exact h1
        · rcases HOK.out.1.1.2 with ⟨e, _⟩ | ⟨g', cap', cur, e, _, _, _, h2, _⟩
          · cases e
          · cases e; exact h2)
      clear hl0 hk2
      go_wp2
      obtain ⟨D, hD, hDl, hDn, hDa, hDp⟩ := HE.out
      refine bodyPost_ret (v := .agg #[.int .u8 4, .int .u32 (c : Int), .int .u32 0, .int .u16 0, .int .u16 0, .int .u32 (n : Int), .int .u32 0, .slice (some ⟨g, 0, none⟩) 256 cap]) (by simp [results, Try.results43, go_sem, z0, z1, z2, z3, z4, z5, z6, z7]) rfl ?_
      have hgr : g ≠ rb := by have := HGE.out; have := HRB.out; omega
      refine ⟨D, by rw [hD], hDl, hDn, hDp.at_ fun _ x hx => ?_, fun x hx => ?_, bel_eight (bel_trans HB0.out HBK.out) rb HRB.out.1 _ _ _ _ _ _ _ _⟩
      · rw [hDa] at hx
        cases hx
        exact eight_other wr rb g hgr _ _ _ _ _ _ _ _
      · rw [hDa] at hx
        cases hx
        have := HGE.out; have := HB0.out.size; show w.heap.size ≤ g; omega
theorem mod6_eq (x : Int) : ∃ n : Nat, wrap64 (3 + wrap64 ((IntKind.u64.wrap x).tmod 6)) = (n : Int) ∧ 3 ≤ n ∧ n ≤ 8 ∧ wrap64 (3 + ((IntKind.u64.wrap x).tmod 6)) = (n : Int) := by
  have h2 : 0 ≤ IntKind.u64.wrap x := by rw [IntKind.wrap_u64]; omega
  have h3 : 0 ≤ (IntKind.u64.wrap x).tmod 6 := Int.tmod_nonneg _ h2
  have h4 : (IntKind.u64.wrap x).tmod 6 < 6 := Int.tmod_lt_of_pos _ (by omega)
  obtain ⟨m, hm⟩ : ∃ m : Nat, (IntKind.u64.wrap x).tmod 6 = (m : Int) := ⟨((IntKind.u64.wrap x).tmod 6).toNat, by omega⟩
  rw [hm] at h3 h4 ⊢
  refine ⟨3 + m, ?_, by omega, by omega, ?_⟩
  · rw [IntWalk.wrap64_in (m : Int) (by omega), IntWalk.wrap64_in _ (by omega)]; omega
  · rw [IntWalk.wrap64_in _ (by omega)]; omega
def stgN (x : Int) : Nat := (wrap64 (3 + wrap64 ((IntKind.u64.wrap x).tmod 6))).toNat
theorem stgN_in (x : Int) : 3 ≤ stgN x ∧ stgN x ≤ 8 ∧ wrap64 (3 + wrap64 ((IntKind.u64.wrap x).tmod 6)) = (stgN x : Int) := by
  obtain ⟨n, h1, h2, h3, _⟩ := mod6_eq x
  unfold stgN
  rw [h1]
  exact ⟨by omega, by omega, by omega⟩
theorem stgShapeL_any (x : Int) (w : World) : Calls Try.prog 38 #[.int .i64 x] w fun e w' => e = .returned (.agg #[.int .i64 (stgN x : Int), .int .i64 20, .int .i64 5, .int .i64 256]) ∧ Below w.heap.size w w' := by
  have hq := (stgN_in x).2.2
  go_enter Try.func38, Try.ntmps38
  go_wp2
  rw [← hq]
  exact bodyPost_ret (v := .agg #[.int .i64 (wrap64 (3 + wrap64 ((IntKind.u64.wrap x).tmod 6))), .int .i64 20, .int .i64 5, .int .i64 256]) (by simp [results, Try.results38, go_sem]) rfl ⟨rfl, bel_alloc (Below.refl _ w) _⟩
theorem stgGood (x : Int) : GoodG (stgN x : Int) (20 : Nat) (5 : Nat) (256 : Nat) := by
  have := stgN_in x
  unfold GoodG
  omega
end Go.Proofs.Ytpmlbfpneenacaa

namespace Go.Proofs.Ytpmlbfpneenacaa
open Go.RowKit Go.Deep

set_option maxRecDepth 100000 in
theorem stgSame_yes (H : RH) (D E : PS) (w : World) (hD : PartOk w D) (hE : PartOk w E) (he : D.l = E.l) :
    Calls Try.prog 46 #[.agg #[.int .u8 (H.ki : Int), .int .u32 (H.ep : Int), .int .u32 (H.ba : Int), .int .u16 (H.ix : Int), .int .u16 (H.ct : Int), .int .u32 (H.bl : Int), .int .u32 (H.mo : Int), .slice D.a D.n D.c], .agg #[.int .u8 (H.ki : Int), .int .u32 (H.ep : Int), .int .u32 (H.ba : Int), .int .u16 (H.ix : Int), .int .u16 (H.ct : Int), .int .u32 (H.bl : Int), .int .u32 (H.mo : Int), .slice E.a E.n E.c]] w fun e w' => e = .returned (.bool true) ∧ Below w.heap.size w w' := by
  have HS : Hid (∀ x : World, Below w.heap.size w x → Calls Try.prog 23 #[.slice D.a D.n D.c, .slice E.a E.n E.c] x fun e w' => e = .returned (.bool true) ∧ x = w') := Lib.hid fun x hx => same_any D.a E.a D.n D.c E.n E.c D.l x (hD.step hx).1 (by rw [he]; exact (hE.step hx).1)
  clear hD hE he
  go_enter Try.func46, Try.ntmps46
  go_upto_region 1 with fail
  obtain ⟨w0, hw0⟩ : ∃ x, x = (w.alloc (.cells #[.int .u8 (H.ki : Int), .int .u32 (H.ep : Int), .int .u32 (H.ba : Int), .int .u16 (H.ix : Int), .int .u16 (H.ct : Int), .int .u32 (H.bl : Int), .int .u32 (H.mo : Int), .slice D.a D.n D.c] 77)).alloc (.cells #[.int .u8 (H.ki : Int), .int .u32 (H.ep : Int), .int .u32 (H.ba : Int), .int .u16 (H.ix : Int), .int .u16 (H.ct : Int), .int .u32 (H.bl : Int), .int .u32 (H.mo : Int), .slice E.a E.n E.c] 77) := ⟨_, rfl⟩
  obtain ⟨b, hb⟩ : ∃ x, x = w.heap.size := ⟨_, rfl⟩
  have k0 : Below w.heap.size w w0 ∧ w0.heap[b]? = some (.cells #[.int .u8 (H.ki : Int), .int .u32 (H.ep : Int), .int .u32 (H.ba : Int), .int .u16 (H.ix : Int), .int .u16 (H.ct : Int), .int .u32 (H.bl : Int), .int .u32 (H.mo : Int), .slice D.a D.n D.c] 77 (0, 0)) ∧ w0.heap[b + 1]? = some (.cells #[.int .u8 (H.ki : Int), .int .u32 (H.ep : Int), .int .u32 (H.ba : Int), .int .u16 (H.ix : Int), .int .u16 (H.ct : Int), .int .u32 (H.bl : Int), .int .u32 (H.mo : Int), .slice E.a E.n E.c] 77 (0, 0)) := by
    rw [hw0, hb]
    refine ⟨bel_alloc (bel_alloc (Below.refl _ w) _) _, ?_, ?_⟩
    · rw [heap_alloc_old' (by simp)]; exact heap_alloc_new w _
    · have := heap_alloc_new (w.alloc (.cells #[.int .u8 (H.ki : Int), .int .u32 (H.ep : Int), .int .u32 (H.ba : Int), .int .u16 (H.ix : Int), .int .u16 (H.ct : Int), .int .u32 (H.bl : Int), .int .u32 (H.mo : Int), .slice D.a D.n D.c] 77)) (.cells #[.int .u8 (H.ki : Int), .int .u32 (H.ep : Int), .int .u32 (H.ba : Int), .int .u16 (H.ix : Int), .int .u16 (H.ct : Int), .int .u32 (H.bl : Int), .int .u32 (H.mo : Int), .slice E.a E.n E.c] 77)
      simpa using this
  rw [← hw0, ← hb]
  clear hw0 hb
  obtain ⟨k1, k2, k3⟩ := k0
  obtain ⟨x0, x1, x2, x3, x4, x5, x6, x7⟩ := eight_at k2
  obtain ⟨y0, y1, y2, y3, y4, y5, y6, y7⟩ := eight_at k3
  have K1 := Lib.hid k1
  clear k1 k2 k3
  go_wp2_with fail
  ((with_reducible refine (HS.out _ K1.out).mono ?_))
  rintro e w1 ⟨rfl, rfl⟩
  go_wp2
  go_ret
  exact ⟨rfl, K1.out⟩
end Go.Proofs.Ytpmlbfpneenacaa

namespace Go.Proofs.Ytpmlbfpneenacaa
open Go.RowKit Go.Deep

def pgV (n c : Nat) (D : PS) : Value := .agg #[.int .u8 4, .int .u32 (c : Int), .int .u32 0, .int .u16 0, .int .u16 0, .int .u32 (n : Int), .int .u32 0, .slice D.a D.n D.c]
theorem pgHdr_fits (n c : Nat) (hn : n ≤ 1000) (hc : c < 256) : (pgHdr n c).Fits := ⟨by show 4 < 256; omega, by show c < _; omega, by show 0 < 4294967296; omega, by show 0 < 65536; omega, by show 0 < 65536; omega, by show n < _; omega, by show 0 < 4294967296; omega⟩
def pgB (n c : Nat) : List Nat := pgL n c ++ sealB (pgHdr n c) (pgL n c) []
theorem pgL_len (n c : Nat) : (pgL n c).length = 256 := pgTo_len n c 256
theorem ordL_two (f : Nat) : ordL f 2 (-1) = [f, f + 1] := by
  unfold ordL
  rw [if_neg (by omega)]
  simp [rangeL, List.range_succ]
/-- What was written on a member is what it has. -/
theorem memPg_written {s : RS} {b row m n c : Nat} {q : PS} (hF : s.F (m, b, row) = some q) (hq : q.l = pgB n c) (hsz : s.sz = 256) (hg : s.gone m = 0) (hn : n ≤ 1000) (hc : c < 256) : memPg s b row m = some (pgL n c, pgHdr n c) := by
  have e : s.page (m, b, row) = pgB n c := (row_page_some hF).trans hq
  have e1 : (s.page (m, b, row)).take s.sz = pgL n c := by
    rw [e, hsz]
    unfold pgB
    rw [List.take_left' (pgL_len n c)]
  have e2 : (s.page (m, b, row)).drop s.sz = sealB (pgHdr n c) (pgL n c) [] := by
    rw [e, hsz]
    unfold pgB
    rw [List.drop_left' (pgL_len n c)]
  have hf := pgHdr_fits n c hn hc
  unfold memPg
  rw [e1, e2, if_pos ⟨hg, (openOk_seal hf _ _).2 (by show 1 ≤ 4 ∧ 4 ≤ 6; omega)⟩, openH_seal hf _ _ (by show 1 ≤ 4 ∧ 4 ≤ 6; omega)]
theorem notOk_blank : ¬ OpenOk ((List.replicate 320 255).take 256) ((List.replicate 320 255).drop 256) := by
  intro h
  have h2 := h.2.2.1
  rw [show (takeH ((List.replicate 320 255).drop 256)).ki = 255 by
    show ((List.replicate 320 255).drop 256).getD 2 0 = 255
    rw [List.drop_replicate]
    rfl] at h2
  omega
/-- Nothing was written there. -/
theorem memPg_none {s : RS} {b row m : Nat} (hF : s.F (m, b, row) = none) (hsz : s.sz = 256) : memPg s b row m = none := by
  have e : s.page (m, b, row) = List.replicate 320 255 := by rw [row_page_none hF, hsz]
  unfold memPg
  rw [e, hsz, if_neg (fun h => notOk_blank h.2)]
section
variable {B : Nat} {s : RS} {w : World}
theorem putPg_any (h : Ram B s w) (hB : B ≤ w.heap.size) (wh k n c : Nat) (D : PS) (hw : wh ≤ 1) (hk : k < roomN s.n s.pg) (hsz : s.sz = 256) (hn : n ≤ 1000) (hc : c < 256) (hDn : D.n = 256) (hD : PartOk w D) (hDf : ∀ x, D.a = some x → ¬ s.ob x.block) (hol : s.ol.length ≤ 1000) :
    Calls Try.prog 42 #[.iface 56 (.pointer (some ⟨s.rb, 0, none⟩)), .int .i64 (wh : Int), .int .i64 (k : Int), .agg #[.int .u8 4, .int .u32 (c : Int), .int .u32 0, .int .u16 0, .int .u16 0, .int .u32 (n : Int), .int .u32 0, .slice D.a D.n D.c]] w (StgPutRet B s (4 + wh) (rowN s.n k) (firN s.n k) ⟨pgHdr n c, D⟩ w) :=
  stgPut_ok h hB wh k ⟨pgHdr n c, D⟩ hw hk (hDn.trans hsz.symm) hD (pgHdr_fits n c hn hc) hDf (by omega) hol
theorem getPg_any (h : Ram B s w) (wh k n c : Nat) (hw : wh ≤ 1) (hk : k < roomN s.n s.pg) (hsz : s.sz = 256) (hq : getPg s (4 + wh) (rowN s.n k) (firN s.n k) = some (pgL n c, pgHdr n c)) :
    Calls Try.prog 45 #[.iface 56 (.pointer (some ⟨s.rb, 0, none⟩)), .int .i64 (wh : Int), .int .i64 (k : Int)] w fun e w' => ∃ E : PS, e = .returned (.tuple #[.agg #[.int .u8 4, .int .u32 (c : Int), .int .u32 0, .int .u16 0, .int .u16 0, .int .u32 (n : Int), .int .u32 0, .slice E.a E.n E.c], .int .i64 0]) ∧ E.l = pgL n c ∧ PartOk w' E ∧ Far w.heap.size E ∧ Below w.heap.size w w' :=
  (stgGet_ok h wh k hw hk (by omega) _ rfl).mono fun e w' hr => by
    rw [hq] at hr
    obtain ⟨E, q1, q2, _, q4, q5, q6⟩ := (show ∃ E : PS, e = .returned (.tuple #[.agg #[.int .u8 4, .int .u32 (c : Int), .int .u32 0, .int .u16 0, .int .u16 0, .int .u32 (n : Int), .int .u32 0, .slice E.a E.n E.c], .int .i64 0]) ∧ E.l = pgL n c ∧ E.n = s.sz ∧ PartOk w' E ∧ Far w.heap.size E ∧ Below w.heap.size w w' from hr)
    exact ⟨E, q1, q2, q4, q5, q6⟩
end
theorem samePg_any (n c : Nat) (D E : PS) (w : World) (hD : PartOk w D) (hE : PartOk w E) (he : D.l = E.l) :
    Calls Try.prog 46 #[.agg #[.int .u8 4, .int .u32 (c : Int), .int .u32 0, .int .u16 0, .int .u16 0, .int .u32 (n : Int), .int .u32 0, .slice D.a D.n D.c], .agg #[.int .u8 4, .int .u32 (c : Int), .int .u32 0, .int .u16 0, .int .u16 0, .int .u32 (n : Int), .int .u32 0, .slice E.a E.n E.c]] w fun e w' => e = .returned (.bool true) ∧ Below w.heap.size w w' :=
  stgSame_yes (pgHdr n c) D E w hD hE he
end Go.Proofs.Ytpmlbfpneenacaa

namespace Go.Proofs.Ytpmlbfpneenacaa
open Go.RowKit Go.Deep

/-- How many entries a map has. -/
theorem mapF_two {es : Array MapEntry} {clock b : Nat} {f : Nat × Nat × Nat → Option Value} {w : World} (hb : w.heap[b]? = some (.map es clock)) (h : MapF ok3 kv3 b f w) (x y : Nat × Nat × Nat) (hx : ok3 x) (hy : ok3 y) (hxy : x ≠ y) (fx : f x ≠ none) (fy : f y ≠ none) (ho : ∀ z, ok3 z → z ≠ x → z ≠ y → f z = none) : es.size = 2 := by
  obtain ⟨es', c', hb', h1, h2, h3⟩ := h
  rw [hb] at hb'
  cases hb'
  have n1 : (es.toList.map (·.key)).Nodup := List.pairwise_map.2 h3
  have hne : kv3 x ≠ kv3 y := fun e => hxy (keyF3.inj x y hx hy e)
  have n2 : [kv3 x, kv3 y].Nodup := by simp [hne]
  have hm : ∀ a, a ∈ es.toList.map (·.key) ↔ a ∈ [kv3 x, kv3 y] := by
    intro a
    rw [List.mem_map]
    constructor
    · rintro ⟨e, he, rfl⟩
      obtain ⟨z, hz, hk, hv⟩ := h1 e he
      rw [hk]
      by_cases q1 : z = x
      · rw [q1]; simp
      · by_cases q2 : z = y
        · rw [q2]; simp
        · rw [ho z hz q1 q2] at hv; cases hv
    · intro ha
      simp only [List.mem_cons, List.not_mem_nil, or_false] at ha
      rcases ha with rfl | rfl
      · obtain ⟨v, hv⟩ := Option.ne_none_iff_exists'.1 fx
        obtain ⟨e, he, hk, _⟩ := h2 x v hx hv
        exact ⟨e, he, hk⟩
      · obtain ⟨v, hv⟩ := Option.ne_none_iff_exists'.1 fy
        obtain ⟨e, he, hk, _⟩ := h2 y v hy hv
        exact ⟨e, he, hk⟩
  have hp := (List.perm_ext_iff_of_nodup n1 n2).2 hm
  have := hp.length_eq
  simpa using this
theorem stgN_two : stgN 2 = 5 := by
  unfold stgN
  rw [IntKind.wrap_u64, show ((2 : Int) % 18446744073709551616) = 2 from by omega, show (2 : Int).tmod 6 = 2 from rfl, IntWalk.wrap64_in 2 (by omega), show ((3 : Int) + 2) = 5 from rfl, IntWalk.wrap64_in 5 (by omega)]
  rfl
set_option maxRecDepth 100000 in
set_option maxHeartbeats 2000000 in
theorem twice_any (w : World) : Calls Try.prog 40 #[] w fun e w' => e = .returned (.bool true) ∧ Below w.heap.size w w' := by
  have HSH := Lib.hid fun x : World => stgShapeL_any 2 x
  rw [stgN_two, show ((5 : Nat) : Int) = 5 from rfl] at HSH
  have HNW := Lib.hid fun x : World => ramNew_any 5 20 5 256 x (by unfold GoodG; omega)
  rw [show ((5 : Nat) : Int) = 5 from rfl, show ((20 : Nat) : Int) = 20 from rfl, show ((256 : Nat) : Int) = 256 from rfl] at HNW
  have HPG := Lib.hid fun x : World => stgPage_any 7 3 x (by omega) (by omega)
  rw [show ((7 : Nat) : Int) = 7 from rfl, show ((3 : Nat) : Int) = 3 from rfl] at HPG
  have HRM := Lib.hid fun x : World => room_any 5 20 5 256 x (by unfold GoodG; omega)
  rw [show roomN 5 5 = 10 by decide, show ((10 : Nat) : Int) = 10 from rfl, show ((5 : Nat) : Int) = 5 from rfl, show ((20 : Nat) : Int) = 20 from rfl, show ((256 : Nat) : Int) = 256 from rfl] at HRM
  go_enter Try.func40, Try.ntmps40
  go_wp2_with fail
  ((with_reducible refine (HSH.out _).mono ?_))
  rintro e w1 ⟨rfl, hb1⟩
  go_wp2_with fail
  ((with_reducible refine (HNW.out _).mono ?_))
  rintro e w2 ⟨rb, pb, gb, rfl, hr2, hb2⟩
  have HB2 := Lib.hid (bel_trans hb1 hb2)
  have HR2 := Lib.hid hr2
  obtain ⟨B, hB⟩ : ∃ B, B = w1.heap.size := ⟨_, rfl⟩
  rw [← hB] at HR2
  have HBB : Hid (w.heap.size ≤ B ∧ B ≤ w2.heap.size) := Lib.hid ⟨by rw [hB]; exact hb1.size, by rw [hB]; exact hb2.size⟩
  clear hr2 hb1 hb2 hB
  go_wp2_with fail
  ((with_reducible refine (HPG.out _).mono ?_))
  rintro e w3 ⟨D, rfl, q1, q2, q3, q4, hb3⟩
  have HR3 := Lib.hid (HR2.out.step hb3)
  have HB3 := Lib.hid (bel_trans HB2.out hb3)
  have HPU : Hid (Calls Try.prog 42 #[.iface 56 (.pointer (some ⟨rb, 0, none⟩)), .int .i64 1, .int .i64 2, .agg #[.int .u8 4, .int .u32 3, .int .u32 0, .int .u16 0, .int .u16 0, .int .u32 7, .int .u32 0, .slice D.a D.n D.c]] w3 (StgPutRet B (rsNew rb pb gb 5 20 5 256) 5 1 0 ⟨pgHdr 7 3, D⟩ w3)) := Lib.hid (by
    have h := putPg_any HR3.out (Nat.le_trans HBB.out.2 hb3.size) 1 2 7 3 D (by omega) (by show 2 < roomN 5 5; decide) rfl (by omega) (by omega) q2 q3 (fun x hx => HR2.out.fresh (q4 x hx)) (Nat.zero_le _)
    rw [show rowN (rsNew rb pb gb 5 20 5 256).n 2 = 1 from (by decide : rowN 5 2 = 1), show firN (rsNew rb pb gb 5 20 5 256).n 2 = 0 from (by decide : firN 5 2 = 0)] at h
    exact h)
  have HBB3 : Hid (B ≤ w3.heap.size) := Lib.hid (Nat.le_trans HBB.out.2 hb3.size)
  have HD := Lib.hid q1
  clear q1 q2 q3 q4 hb3
  go_wp2_with fail
  ((with_reducible refine HPU.out.mono ?_))
  rintro e w4 ⟨s', rfl, hr4, hs4, hol, hgo, hwr⟩
  obtain ⟨e1, e2, e3, e4, e5, e6, e7, e8⟩ := hs4.same
  have e8' : s'.first = -1 := e8
  rw [show ordL 0 2 (rsNew rb pb gb 5 20 5 256).first = [0, 1] from ordL_two 0] at hwr ⊢
  rw [show deads (rsNew rb pb gb 5 20 5 256) [0, 1] = 0 from rfl, if_neg (by omega)]
  have hg0 : ∀ m, s'.gone m = 0 := fun m => by rw [hgo]; rfl
  obtain ⟨q0, hq0, hql0⟩ := hwr.1 0 (by simp) rfl
  obtain ⟨q1, hq1, hql1⟩ := hwr.1 1 (by simp) rfl
  rw [HD.out] at hql0 hql1
  have hn : s'.n = 5 := e4
  have hpg : s'.pg = 5 := e6
  have hsz : s'.sz = 256 := e7
  have hget : getPg s' 5 1 0 = some (pgL 7 3, pgHdr 7 3) := by
    unfold getPg
    rw [memPg_written hq0 hql0 hsz (hg0 0) (by omega) (by omega)]
  have HB4 := Lib.hid (HB3.out.trans ((hs4.below HR3.out HBB3.out).mono HBB.out.1))
  have HR4 := Lib.hid hr4
  have HGE : Hid (Calls Try.prog 45 #[.iface 56 (.pointer (some ⟨rb, 0, none⟩)), .int .i64 1, .int .i64 2] w4 fun e w' => ∃ E : PS, e = .returned (.tuple #[.agg #[.int .u8 4, .int .u32 3, .int .u32 0, .int .u16 0, .int .u16 0, .int .u32 7, .int .u32 0, .slice E.a E.n E.c], .int .i64 0]) ∧ E.l = pgL 7 3 ∧ PartOk w' E ∧ Far w4.heap.size E ∧ Below w4.heap.size w4 w') := Lib.hid (by
    have h := getPg_any hr4 1 2 7 3 (by omega) (by rw [hn, hpg]; decide) hsz (by rw [hn]; exact hget)
    rw [e1] at h
    exact h)
  have hpp := hr4.pages
  obtain ⟨es, clk, hes, _⟩ := hr4.pages
  have hpbe : s'.pb = pb := e2
  have hrbe : s'.rb = rb := e1
  have hsize : es.size = 2 := mapF_two hes hpp (0, 5, 1) (1, 5, 1) (by unfold ok3; simp) (by unfold ok3; simp) (by simp) (by simp [RS.pageV, hq0]) (by simp [RS.pageV, hq1]) (fun z hz n0 n1 => by
    have := hwr.2 z (fun m hm _ => by
      simp only [List.mem_cons, List.not_mem_nil, or_false] at hm
      rcases hm with rfl | rfl
      · exact n0
      · exact n1)
    simp only [RS.pageV, this]
    rfl)
  have hq1n : q1.n = 320 := by have := (hr4.parts (1, 5, 1) q1 (by unfold ok3; simp) hq1).2.1; rw [hsz] at this; omega
  have HLK : Hid (∀ x : World, Below w4.heap.size w4 x → (Instr.lookup 63 (.map (some pb)) (.agg #[.int .i64 1, .int .i64 5, .int .i64 1]) false).run Try.prog x = .ok (.slice q1.a 320 q1.c) x) := Lib.hid fun x hx => by
    have h1 := (hr4.step hx).pages
    have h2 := h1.lookup keyF3 Try.underlying63 (zeroB x) (x := (1, 5, 1)) (by unfold ok3; simp)
    rw [hpbe] at h2
    have h3 : (s'.pageV (1, 5, 1)).getD (.slice none 0 0) = .slice q1.a 320 q1.c := by
      unfold RS.pageV
      rw [hq1]
      show PS.v q1 = _
      unfold PS.v
      rw [hq1n]
    rw [h3] at h2
    exact h2
  have HMB : Hid (∀ x : World, Below w4.heap.size w4 x → (Builtin.len_ #[63] 3 #[.map (some pb)]).run Try.prog x = .ok (.int .i64 2) x) := Lib.hid fun x hx => by
    rw [hpbe] at hes
    have h1 := (hx.block _ (Array.getElem?_eq_some_iff.1 hes).1).trans hes
    have h2 : (Builtin.len_ #[63] 3 #[.map (some pb)]).run Try.prog x = .ok (.int .i64 (es.size : Int)) x := by simp [Builtin.len_, run_underlying Try.underlying63, MapKept.run_getObj_map h1, goInt, Result.andThen]
    rw [hsize] at h2
    exact h2
  have HRC : Hid (∀ x : World, Below w4.heap.size w4 x → x.cell? ⟨rb, 4, none⟩ = some (.map (some pb))) := Lib.hid fun x hx => by
    have := (hr4.step hx).c.2.2.2.2.1
    rw [hrbe, hpbe] at this
    exact this
  clear hpp hes hpbe hrbe hsize hq1n hr4 hs4 hol hgo hwr hg0 hq0 hq1 hql0 hql1 hn hpg hsz hget e1 e2 e3 e4 e5 e6 e7 e8 e8'
  go_wp2_with fail
  ((with_reducible refine HGE.out.mono ?_))
  rintro e w5 ⟨E, rfl, f1, f2, f3, hb5⟩
  have l6 := heap_alloc_new w5 (.cells #[.int .u8 4, .int .u32 3, .int .u32 0, .int .u16 0, .int .u16 0, .int .u32 7, .int .u32 0, .slice E.a E.n E.c] 77)
  have hb6 := bel_trans hb5 (bel_alloc (Below.refl _ w5) (.cells #[.int .u8 4, .int .u32 3, .int .u32 0, .int .u16 0, .int .u16 0, .int .u32 7, .int .u32 0, .slice E.a E.n E.c] 77))
  have hE6 := f2.step (bel_alloc (Below.refl _ w5) (.cells #[.int .u8 4, .int .u32 3, .int .u32 0, .int .u16 0, .int .u16 0, .int .u32 7, .int .u32 0, .slice E.a E.n E.c] 77))
  go_upto_region 5 with fail
  obtain ⟨w6, hw6⟩ : ∃ x, x = w5.alloc (.cells #[.int .u8 4, .int .u32 3, .int .u32 0, .int .u16 0, .int .u16 0, .int .u32 7, .int .u32 0, .slice E.a E.n E.c] 77) := ⟨_, rfl⟩
  obtain ⟨eb, heb⟩ : ∃ x, x = w5.heap.size := ⟨_, rfl⟩
  rw [← hw6, ← heb] at l6
  rw [← hw6] at hb6 hE6
  rw [← hw6, ← heb]
  have HB6 := Lib.hid hb6
  have HE6 := Lib.hid (And.intro f1 hE6)
  have HCC : Hid (∀ x : World, Below w6.heap.size w6 x → (x.cell? ⟨eb, 0, none⟩ = some (.int .u8 4) ∧ x.cell? ⟨eb, 1, none⟩ = some (.int .u32 3) ∧ x.cell? ⟨eb, 2, none⟩ = some (.int .u32 0) ∧ x.cell? ⟨eb, 3, none⟩ = some (.int .u16 0) ∧ x.cell? ⟨eb, 4, none⟩ = some (.int .u16 0) ∧ x.cell? ⟨eb, 5, none⟩ = some (.int .u32 7) ∧ x.cell? ⟨eb, 6, none⟩ = some (.int .u32 0) ∧ x.cell? ⟨eb, 7, none⟩ = some (.slice E.a E.n E.c) ∧ x.cell? ⟨rb, 4, none⟩ = some (.map (some pb)))) := Lib.hid fun x hx => by
    obtain ⟨a0, a1, a2, a3, a4, a5, a6, a7⟩ := eight_at ((hx.block _ (Array.getElem?_eq_some_iff.1 l6).1).trans l6)
    exact ⟨a0, a1, a2, a3, a4, a5, a6, a7, HRC.out x (bel_trans HB6.out hx)⟩
  have HB0 : Hid (Below w6.heap.size w6 w6.drew) := Lib.hid (Below.refl _ _).drew
  have hS0 := HCC.out w6.drew HB0.out
  have hK0 := HLK.out w6.drew (bel_trans HB6.out HB0.out)
  have hM0 := HMB.out w6.drew (bel_trans HB6.out HB0.out)
  clear f1 f2 f3 hb5 l6 hb6 hE6 hw6 heb
  have HSM : Hid (∀ (x : World) (G : PS), Below w6.heap.size w6 x → PartOk x G → G.l = pgL 7 3 → Calls Try.prog 46 #[.agg #[.int .u8 4, .int .u32 3, .int .u32 0, .int .u16 0, .int .u16 0, .int .u32 7, .int .u32 0, .slice E.a E.n E.c], .agg #[.int .u8 4, .int .u32 3, .int .u32 0, .int .u16 0, .int .u16 0, .int .u32 7, .int .u32 0, .slice G.a G.n G.c]] x fun e w' => e = .returned (.bool true) ∧ Below x.heap.size x w') := Lib.hid fun x G hx hG hl => samePg_any 7 3 E G x (HE6.out.2.step hx) hG (HE6.out.1.trans hl.symm)
  go_region_held3 (fun x => x.cell? ⟨eb, 0, none⟩ = some (.int .u8 4) ∧ x.cell? ⟨eb, 1, none⟩ = some (.int .u32 3) ∧ x.cell? ⟨eb, 2, none⟩ = some (.int .u32 0) ∧ x.cell? ⟨eb, 3, none⟩ = some (.int .u16 0) ∧ x.cell? ⟨eb, 4, none⟩ = some (.int .u16 0) ∧ x.cell? ⟨eb, 5, none⟩ = some (.int .u32 7) ∧ x.cell? ⟨eb, 6, none⟩ = some (.int .u32 0) ∧ x.cell? ⟨eb, 7, none⟩ = some (.slice E.a E.n E.c) ∧ x.cell? ⟨rb, 4, none⟩ = some (.map (some pb)) ∧ (Instr.lookup 63 (.map (some pb)) (.agg #[.int .i64 1, .int .i64 5, .int .i64 1]) false).run Try.prog x = .ok (.slice q1.a 320 q1.c) x ∧ (Builtin.len_ #[63] 3 #[.map (some pb)]).run Try.prog x = .ok (.int .i64 2) x)
    (first | with_reducible exact ⟨hS0.1, hS0.2.1, hS0.2.2.1, hS0.2.2.2.1, hS0.2.2.2.2.1, hS0.2.2.2.2.2.1, hS0.2.2.2.2.2.2.1, hS0.2.2.2.2.2.2.2.1, hS0.2.2.2.2.2.2.2.2, hK0, hM0⟩ | with_reducible exact ⟨hS1.1, hS1.2.1, hS1.2.2.1, hS1.2.2.2.1, hS1.2.2.2.2.1, hS1.2.2.2.2.2.1, hS1.2.2.2.2.2.2.1, hS1.2.2.2.2.2.2.2.1, hS1.2.2.2.2.2.2.2.2, hK1, hM1⟩ | with_reducible exact ⟨hS2.1, hS2.2.1, hS2.2.2.1, hS2.2.2.2.1, hS2.2.2.2.2.1, hS2.2.2.2.2.2.1, hS2.2.2.2.2.2.2.1, hS2.2.2.2.2.2.2.2.1, hS2.2.2.2.2.2.2.2.2, hK2, hM2⟩ | with_reducible exact ⟨hS3.1, hS3.2.1, hS3.2.2.1, hS3.2.2.2.1, hS3.2.2.2.2.1, hS3.2.2.2.2.2.1, hS3.2.2.2.2.2.2.1, hS3.2.2.2.2.2.2.2.1, hS3.2.2.2.2.2.2.2.2, hK3, hM3⟩ | with_reducible exact ⟨hS4.1, hS4.2.1, hS4.2.2.1, hS4.2.2.2.1, hS4.2.2.2.2.1, hS4.2.2.2.2.2.1, hS4.2.2.2.2.2.2.1, hS4.2.2.2.2.2.2.2.1, hS4.2.2.2.2.2.2.2.2, hK4, hM4⟩ | go_keep)
    (first
      | (go_simp; go_at_call 43; ((with_reducible refine (HPG.out _).mono ?_)); (intro e wa hr; obtain ⟨G, rfl, g1, g2, g3, g4, hba⟩ := hr; have HBa := Lib.hid (bel_trans HB0.out hba); have HGG := Lib.hid (And.intro g1 g3); have hS1 := HCC.out wa HBa.out; have hK1 := HLK.out wa (bel_trans HB6.out HBa.out); have hM1 := HMB.out wa (bel_trans HB6.out HBa.out); clear g1 g2 g3 g4 hba))
      | (go_simp; go_at_call 46; ((with_reducible refine (HSM.out _ _ HBa.out HGG.out.2 HGG.out.1).mono ?_)); (intro e wb hr; obtain ⟨rfl, hbb⟩ := hr; have HBb := Lib.hid (bel_trans HBa.out hbb); have hS2 := HCC.out wb HBb.out; have hK2 := HLK.out wb (bel_trans HB6.out HBb.out); have hM2 := HMB.out wb (bel_trans HB6.out HBb.out); clear hbb))
      | (go_simp; go_at_call 38; ((with_reducible refine (HSH.out _).mono ?_)); (intro e wc hr; obtain ⟨rfl, hbc⟩ := hr; have HBc := Lib.hid (bel_trans HBb.out hbc); have hS3 := HCC.out wc HBc.out; have hK3 := HLK.out wc (bel_trans HB6.out HBc.out); have hM3 := HMB.out wc (bel_trans HB6.out HBc.out); clear hbc))
      | (go_simp; go_at_call 41; ((with_reducible refine (HRM.out _).mono ?_)); (intro e wd hr; obtain ⟨rfl, hbd⟩ := hr; have HBd := Lib.hid (bel_trans HBc.out hbd); have hS4 := HCC.out wd HBd.out; have hK4 := HLK.out wd (bel_trans HB6.out HBd.out); have hM4 := HMB.out wd (bel_trans HB6.out HBd.out); clear hbd)))
  all_goals
    have hfin := bel_trans (bel_trans HB4.out HB6.out) HBd.out
    clear hS0 hS1 hS2 hS3 hS4 hK0 hK1 hK2 hK3 hK4 hM0 hM1 hM2 hM3 hM4
    go_wp2
    go_ret
    exact ⟨rfl, hfin⟩
end Go.Proofs.Ytpmlbfpneenacaa
