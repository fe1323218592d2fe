/- Parts of the proof: StBack, PtPg, PtJoin, PtJoinN, PtJoinA. -/
import Derived.Test.YthgcjiocelcblaaGreatK29
import Derived.Test.YthgcjiocelcblaaGreatK30
import Derived.Test.YthgcjiocelcblaaGreatK09
import Derived.Test.YthgcjiocelcblaaGreatK21
import Derived.BigQuiet
namespace Go.Proofs.YthgcjiocelcblaaGreat
open Go.RowKit Go.Deep

/-- Pages that may be written. -/
structure LOk (L : List SP) (sz : Nat) : Prop where
  len : ∀ q ∈ L, q.d.l.length = sz
  fit : ∀ q ∈ L, q.h.Fits ∧ 1 ≤ q.h.ki ∧ q.h.ki ≤ 6
theorem sp_mem (L : List SP) (k : Nat) (hk : k < L.length) : L.getD k SP.nil ∈ L := by simp [List.getD, hk]
section
variable {n p sz seg row : Nat} {L : List SP} {G : List PG} {P : PG}
theorem stripe_sealed (h : StripeB n p sz seg row L G P) (hL : LOk L sz) (hlen : L.length + 1 = n) : Sealed G sz := by
  have key : ∀ g ∈ G, ∃ j, j < L.length ∧ g.d.l = (L.getD j SP.nil).d.l ∧ g.o.l = sealB (L.getD j SP.nil).h (L.getD j SP.nil).d.l [] := fun g hg => by
    obtain ⟨j, hj, e⟩ := List.mem_iff_getElem.1 hg
    have h1 := h.made j hj
    have e2 : G.getD j PG.nil = g := by simp [List.getD, hj, e]
    rw [e2] at h1
    exact ⟨j, by have := h.len; omega, h1.1, h1.2.1⟩
  refine ⟨fun g hg => ?_, fun g hg => ?_⟩
  · obtain ⟨j, hj, e1, _⟩ := key g hg
    rw [e1]; exact hL.len _ (sp_mem L j hj)
  · obtain ⟨j, hj, e1, e2⟩ := key g hg
    exact ⟨_, (hL.fit _ (sp_mem L j hj)).1, (hL.fit _ (sp_mem L j hj)).2, by rw [e1]; exact e2⟩
theorem slot_mem (p k : Nat) : slotOf p (memOf p k) = k := by
  unfold slotOf memOf
  by_cases h : k < p
  · rw [if_pos h, if_pos h]
  · rw [if_neg h, if_neg (by omega)]; omega
theorem slot_lt {p m n : Nat} (hp : p < n) (hm : m < n) (h : m ≠ p) : slotOf p m + 1 < n := by
  unfold slotOf
  split <;> omega
/-- A data page of a stripe. -/
theorem data_at (h : StripeB n p sz seg row L G P) (hL : LOk L sz) (hlen : L.length + 1 = n) (hp : p < n) {m : Nat} (hm : m < n) (hmp : m ≠ p) :
    (onB p G P m).take sz = (L.getD (slotOf p m) SP.nil).d.l ∧ (onB p G P m).drop sz = sealB (L.getD (slotOf p m) SP.nil).h (L.getD (slotOf p m) SP.nil).d.l [] ∧
    (onAt p G P m).d.l = (L.getD (slotOf p m) SP.nil).d.l ∧ (onAt p G P m).o.l = sealB (L.getD (slotOf p m) SP.nil).h (L.getD (slotOf p m) SP.nil).d.l [] := by
  have h1 := slot_lt hp hm hmp
  obtain ⟨h2, h3, _⟩ := h.made (slotOf p m) (by have := h.len; omega)
  have e : onAt p G P m = G.getD (slotOf p m) PG.nil := by unfold onAt; rw [if_neg hmp]
  have hl : (L.getD (slotOf p m) SP.nil).d.l.length = sz := hL.len _ (sp_mem L _ (by omega))
  unfold onB
  rw [e, h2, h3]
  exact ⟨List.take_left' hl, List.drop_left' hl, rfl, rfl⟩
theorem par_len (h : StripeB n p sz seg row L G P) (hL : LOk L sz) (hlen : L.length + 1 = n) (hn : 3 ≤ n) : P.d.l.length = sz := by
  have hS := stripe_sealed h hL hlen
  have h0 : 0 < G.length := by have := h.len; omega
  rw [h.pd, xorL_len]
  have h1 := lgL_le (a := dsOf G) (m := sz) fun x hx => by rw [ds_len hS x hx]; exact Nat.le_refl _
  have h2 : (G.getD 0 PG.nil).d.l ∈ dsOf G := by unfold dsOf; rw [List.mem_map]; exact ⟨_, getD_mem' G 0 h0, rfl⟩
  have h3 := lgL_mem h2
  rw [ds_len hS _ h2] at h3
  omega
theorem hdrOf_fits (hL : LOk L sz) (hlen : L.length + 1 = n) (hn : 3 ≤ n) (hseg : seg ≤ 2000) (hrow : row ≤ 2000) : (hdrOf (L.getD 0 SP.nil).h row seg).Fits := by
  have f := (hL.fit _ (sp_mem L 0 (by omega))).1
  exact ⟨by show 5 < 256; omega, f.ep, f.ba, by show row < 65536; omega, by show seg < 65536; omega, by show 0 < 4294967296; omega, by show 0 < 4294967296; omega⟩
/-- The parity page. -/
theorem par_at (h : StripeB n p sz seg row L G P) (hL : LOk L sz) (hlen : L.length + 1 = n) (hn : 3 ≤ n) (hseg : seg ≤ 2000) (hrow : row ≤ 2000) :
    (onB p G P p).take sz = P.d.l ∧ (onB p G P p).drop sz = P.o.l ∧ OpenOk P.d.l P.o.l ∧ takeH P.o.l = hdrOf (L.getD 0 SP.nil).h row seg ∧ openH P.d.l P.o.l = hdrOf (L.getD 0 SP.nil).h row seg := by
  have hl := par_len h hL hlen hn
  have hf := hdrOf_fits hL hlen hn hseg hrow
  have e : onAt p G P p = P := by unfold onAt; rw [if_pos rfl]
  have hk : 1 ≤ (hdrOf (L.getD 0 SP.nil).h row seg).ki ∧ (hdrOf (L.getD 0 SP.nil).h row seg).ki ≤ 6 := ⟨by show 1 ≤ 5; omega, by show 5 ≤ 6; omega⟩
  unfold onB
  rw [e]
  refine ⟨List.take_left' hl, List.drop_left' hl, ?_, ?_, ?_⟩
  · rw [h.po, h.pd]; exact (openOk_seal hf _ _).2 hk
  · rw [h.po]; exact takeH_seal hf _ _
  · rw [h.po, h.pd]; exact openH_seal hf _ _ hk
theorem any_ok (h : StripeB n p sz seg row L G P) (hL : LOk L sz) (hlen : L.length + 1 = n) (hp : p < n) (hn : 3 ≤ n) (hseg : seg ≤ 2000) (hrow : row ≤ 2000) {m : Nat} (hm : m < n) : OpenOk ((onB p G P m).take sz) ((onB p G P m).drop sz) := by
  by_cases e : m = p
  · subst e
    obtain ⟨h1, h2, h3, _⟩ := par_at h hL hlen hn hseg hrow
    rw [h1, h2]; exact h3
  · obtain ⟨h1, h2, _⟩ := data_at h hL hlen hp hm e
    have f := hL.fit _ (sp_mem L (slotOf p m) (by have := slot_lt hp hm e; omega))
    rw [h1, h2]; exact (openOk_seal f.1 _ _).2 f.2
end
/-- All members but D are there, and have their pages of a stripe. -/
def Has (s : RS) (p seg row : Nat) (G : List PG) (P : PG) (D : Nat) : Prop := ∀ m, m < s.n → m ≠ D → s.gone m = 0 ∧ s.page (m, seg, row) = onB p G P m
section
variable {B : Nat} {s : RS} {w : World} {L : List SP} {G : List PG} {P : PG}
end
/-- Pages that were made are pages that may be written. -/
theorem gotP_sp {q : Nat → List Nat × RH} {B k sz : Nat} {sv : Value} {L : List SP} {w : World} (h : GotP sz q B k sv L w) (hq : ∀ j, j < k → (q j).1.length = sz ∧ (q j).2.Fits ∧ 1 ≤ (q j).2.ki ∧ (q j).2.ki ≤ 6) :
    ∃ a cap, sv = .slice a k cap ∧ PagesSP w a L ∧ (∀ x ∈ L, x.d.n = sz) ∧ LOk L sz ∧ L.length = k := by
  obtain ⟨a, cap, e, hc⟩ := cellsSP_own h.1
  have key : ∀ x ∈ L, ∃ j, j < k ∧ L.getD j SP.nil = x := fun x hx => by
    obtain ⟨j, hj, e⟩ := List.mem_iff_getElem.1 hx
    exact ⟨j, by rw [← h.2.1]; exact hj, by simp [List.getD, hj, e]⟩
  refine ⟨a, cap, by rw [← h.2.1]; exact e, ⟨hc, fun x hx => ?_⟩, fun x hx => ?_, ⟨fun x hx => ?_, fun x hx => ?_⟩, h.2.1⟩
  · obtain ⟨j, hj, rfl⟩ := key x hx
    obtain ⟨h1, h2, h3, _⟩ := h.2.2 j hj
    exact ⟨h3, by rw [h1]; exact (hq j hj).2.1⟩
  · obtain ⟨j, hj, rfl⟩ := key x hx
    exact (h.2.2 j hj).2.2.2.1
  · obtain ⟨j, hj, rfl⟩ := key x hx
    rw [(h.2.2 j hj).2.1]; exact (hq j hj).1
  · obtain ⟨j, hj, rfl⟩ := key x hx
    rw [(h.2.2 j hj).1]; exact (hq j hj).2
theorem pgAt_ok (HL : List RH) (FL : List Nat) (h : ∀ h ∈ HL, h.Fits) (j : Nat) (hj : j ≤ 1000) : (pgAt HL FL j).1.length = 256 ∧ (pgAt HL FL j).2.Fits ∧ 1 ≤ (pgAt HL FL j).2.ki ∧ (pgAt HL FL j).2.ki ≤ 6 := by
  refine ⟨datTo_len _ _ _, hdrAt_fits HL j h hj, ?_⟩
  show 1 ≤ (hdrAt HL j).ki ∧ (hdrAt HL j).ki ≤ 6
  unfold hdrAt
  split
  · show 1 ≤ 1 + _ % 6 ∧ 1 + _ % 6 ≤ 6; omega
  · exact ⟨by show 1 ≤ 4; omega, by show 4 ≤ 6; omega⟩
end Go.Proofs.YthgcjiocelcblaaGreat

namespace Go.Proofs.YthgcjiocelcblaaGreat
open Go.RowKit Go.Deep

def chunkL (sz : Nat) (X : List Nat) (j : Nat) : List Nat := (X.drop (j * sz)).take sz
theorem chunk_at {sz j many : Nat} (hj : j < many) : j * sz + sz ≤ many * sz := by
  have := Nat.mul_le_mul_right sz (show j + 1 ≤ many by omega)
  rwa [Nat.succ_mul] at this
theorem chunk_len {sz j many : Nat} {X : List Nat} (hX : X.length = many * sz) (hj : j < many) : (chunkL sz X j).length = sz := by
  have := chunk_at (sz := sz) hj
  unfold chunkL
  rw [List.length_take, List.length_drop, hX]
  omega
theorem chunks_take (sz : Nat) (X : List Nat) (k : Nat) : (List.range k).flatMap (chunkL sz X) = X.take (k * sz) := by
  induction k with
  | zero => simp
  | succ k ih =>
    rw [List.range_succ, List.flatMap_append, ih, Nat.succ_mul, List.take_add]
    simp [chunkL]
theorem chunks_all {sz many : Nat} {X : List Nat} (hX : X.length = many * sz) : (List.range many).flatMap (chunkL sz X) = X := by
  rw [chunks_take, ← hX, List.take_length]
def ptHdr (sq many i : Nat) : RH := ⟨3, sq, 0, i, many, 0, 0⟩
def fillHdr (sq : Nat) : RH := ⟨6, sq, 0, 0, 0, 0, 0⟩
/-- What the i-th page holds, of all rows that are written. -/
def ptC (sz sq many : Nat) (X : List Nat) (i : Nat) : RH × List Nat := if i < many then (ptHdr sq many i, chunkL sz X i) else (fillHdr sq, List.replicate sz 0)
def manyOf (sz len : Nat) : Nat := (len + sz - 1) / sz
theorem many_ge {sz len : Nat} (h : 0 < sz) : len ≤ manyOf sz len * sz := by
  have h1 := Nat.div_add_mod (len + sz - 1) sz
  have h2 := Nat.mod_lt (len + sz - 1) h
  rw [Nat.mul_comm] at h1
  unfold manyOf
  omega
theorem many_le {sz len : Nat} : manyOf sz len * sz ≤ len + sz - 1 := by
  have h1 := Nat.div_add_mod (len + sz - 1) sz
  rw [Nat.mul_comm] at h1
  unfold manyOf
  omega
theorem many_pos {sz len : Nat} (h : 0 < sz) (hl : 0 < len) : 0 < manyOf sz len := by
  have := many_ge (len := len) h
  rcases Nat.eq_zero_or_pos (manyOf sz len) with e | e
  · rw [e] at this; omega
  · exact e
/-- A point's bytes, with noughts up to whole pages. -/
def ptX (sz sq ba : Nat) (ml el : List Nat) : List Nat := padTo (ptB sq ba ml el) ((manyOf sz (16 + 4 * ml.length + 4 * el.length) * sz : Nat) : Int)
theorem ptX_len {sz : Nat} (h : 0 < sz) (sq ba : Nat) (ml el : List Nat) : (ptX sz sq ba ml el).length = manyOf sz (16 + 4 * ml.length + 4 * el.length) * sz := by
  have := many_ge (len := 16 + 4 * ml.length + 4 * el.length) h
  unfold ptX padTo
  rw [List.length_append, List.length_replicate, ptB_len, Int.toNat_natCast]
  omega
theorem ptX_lt (sz sq ba : Nat) (ml el : List Nat) : ∀ y ∈ ptX sz sq ba ml el, y < 256 := by
  intro y hy
  unfold ptX padTo at hy
  rcases List.mem_append.1 hy with h | h
  · exact ptB_lt _ _ _ _ y h
  · have := List.eq_of_mem_replicate h; omega
end Go.Proofs.YthgcjiocelcblaaGreat

namespace Go.Proofs.YthgcjiocelcblaaGreat
open Go.RowKit Go.Deep

set_option maxRecDepth 100000 in
theorem ptParts_nil (w : World) : Calls Tryz.prog 63 #[.slice none 0 0] w fun e w' => e = .returned (.slice none 0 0) ∧ w' = w := by
  go_enter Tryz.func63, Tryz.ntmps63
  go_wp2
  go_ret
  exact ⟨rfl, rfl⟩
set_option maxRecDepth 100000 in
theorem ptParts_any (b off n c many : Nat) (L : List SP) (w : World) (hn : n = L.length) (hcl : CellsSP w (some ⟨b, off, none⟩) L) (h0 : 0 < many) (hm : many ≤ n) (hc : n ≤ c) (h1 : (L.getD 0 SP.nil).h.ct = many) (hn2 : n ≤ 100000) (hm2 : many < 65536) :
    Calls Tryz.prog 63 #[.slice (some ⟨b, off, none⟩) n c] w fun e w' => e = .returned (.slice (some ⟨b, off, none⟩) many c) ∧ w' = w := by
  obtain ⟨b', off', e, hp⟩ := hcl (by omega)
  obtain ⟨rfl, rfl⟩ : b = b' ∧ off = off' := by simpa using e
  have h4 := (hp 0 (by omega)).2.2.2.2.1
  rw [h1, Nat.zero_mul, Nat.add_zero] at h4
  have q0 : ((n : Int) == 0) = false := by simp; omega
  have q1 : decide ((n : Int) < (many : Int)) = false := by simp; omega
  have q2 : (0 : Int) < (n : Int) := by omega
  have q3 : (n = 0) = False := eq_false (by omega)
  have q4 : IntKind.i64.wrap (many : Int) = (many : Int) := wrap_of (by omega) (by omega)
  have q5 : many ≤ c := by omega
  clear hp e hn h1 hcl
  go_enter Tryz.func63, Tryz.ntmps63
  go_wp2
  go_ret
  exact ⟨rfl, rfl⟩
end Go.Proofs.YthgcjiocelcblaaGreat

namespace Go.Proofs.YthgcjiocelcblaaGreat
open Go.RowKit Go.Deep

set_option maxRecDepth 100000 in
theorem ptParts_none (a : Option Addr) (c : Nat) (w : World) : Calls Tryz.prog 63 #[.slice a 0 c] w fun e w' => e = .returned (.slice none 0 0) ∧ w' = w := by
  go_enter Tryz.func63, Tryz.ntmps63
  go_wp2
  go_ret
  exact ⟨rfl, rfl⟩
set_option maxRecDepth 100000 in
set_option maxHeartbeats 4000000 in
theorem ptJoin_none (a : Option Addr) (c most : Nat) (w : World) :
    Calls Tryz.prog 43 #[.slice a 0 c, .int .u32 (most : Int)] w fun e w' => Below w.heap.size w w' ∧ e = .returned (.tuple #[.agg #[.int .u32 0, .int .u32 0, .slice none 0 0, .slice none 0 0], .bool false]) := by
  obtain ⟨W1, hW1⟩ : ∃ x, x = w.alloc (.cells #[.int .u32 0, .int .u32 0, .slice none 0 0, .slice none 0 0] 25) := ⟨_, rfl⟩
  obtain ⟨p0, hp0⟩ : ∃ x, x = w.heap.size := ⟨_, rfl⟩
  have s1 : W1.heap.size = p0 + 1 := by rw [hW1, hp0]; simp
  have h0 : W1.heap[p0]? = some (.cells (pCs 0 0 (.slice none 0 0) (.slice none 0 0)) 25 (0, 0)) := by rw [hW1, hp0]; exact heap_alloc_new _ _
  have b01 : Below w.heap.size w W1 := by rw [hW1]; exact bel_alloc (Below.refl _ _) _
  have HP := Lib.hid (ptParts_none a c W1)
  have HD := Lib.hid (ptDecode_dies none 0 0 [] W1 ⟨rfl, (fun x hx => by cases hx), fun h => absurd h (by omega)⟩ (fun _ => rfl) (by omega) (fun h => absurd h.1 (by simp)))
  have H0 := Lib.hid (And.intro h0 (And.intro s1 (And.intro b01 hp0)))
  clear h0 s1 b01
  go_enter Tryz.func43, Tryz.ntmps43
  go_wp2_with fail
  rw [← hW1, ← hp0]
  clear hW1 hp0
  ((with_reducible refine HP.out.mono ?_))
  rintro e w2 ⟨rfl, rfl⟩
  go_wp2_with fail
  go_loopw [6, 15] (fun bv iv wr => bv = .slice none 0 0 ∧ iv = .int .i64 0 ∧ wr = w2) (fun _ _ _ => 0)
  case atStart => exact ⟨rfl, rfl, rfl⟩
  case round =>
    obtain ⟨rfl, rfl, rfl⟩ := hrel
    go_wp2_with fail
    ((with_reducible refine HD.out.mono ?_))
    rintro e w3 ⟨rfl, hb3⟩
    have HB3 := Lib.hid (H0.out.2.2.1.trans (hb3.mono (by have := H0.out.2.1; have := H0.out.2.2.2; omega)))
    have HZ := Lib.hid ((hb3.block p0 (by have := H0.out.2.1; omega)).trans H0.out.1)
    have hzl : p0 < w3.heap.size := (Array.getElem?_eq_some_iff.1 HZ.out).1
    obtain ⟨W4, hW4⟩ : ∃ x, x = w3.alloc (.cells #[.int .u32 0, .int .u32 0, .slice none 0 0, .slice none 0 0] 25) := ⟨_, rfl⟩
    have hb4 : Below w3.heap.size w3 W4 := by rw [hW4]; exact bel_alloc (Below.refl _ _) _
    obtain ⟨⟨z0, z1, z2, z3⟩, f0, f1, f2, f3⟩ := pt4_at ((hb4.block p0 hzl).trans HZ.out)
    have HB4 := Lib.hid (HB3.out.trans (hb4.mono HB3.out.size))
    have HLE : Hid (w.heap.size ≤ p0) := Lib.hid (Nat.le_of_eq H0.out.2.2.2.symm)
    clear hb3 hb4 hzl
    unfold ptNone
    go_upto_region 11 with fail
    rw [← hW4]
    clear hW4
    go_wp2_with fail
    exact bodyPost_ret (v := .tuple #[.agg #[.int .u32 0, .int .u32 0, .slice none 0 0, .slice none 0 0], .bool false]) (by simp [results, Tryz.results43, go_sem, z0, z1, z2, z3]) rfl ⟨pt4_set HB4.out HLE.out _ _ _ _, rfl⟩
end Go.Proofs.YthgcjiocelcblaaGreat

namespace Go.Proofs.YthgcjiocelcblaaGreat
open Go.RowKit Go.Deep

/-- The first pages are a point's. -/
def JoinP (sz sq ba : Nat) (ml el : List Nat) (L : List SP) (w : World) : Prop :=
  ∀ i, i < manyOf sz (16 + 4 * ml.length + 4 * el.length) → (L.getD i SP.nil).h = ptHdr sq (manyOf sz (16 + 4 * ml.length + 4 * el.length)) i ∧ (L.getD i SP.nil).d.l = chunkL sz (ptX sz sq ba ml el) i ∧ PartOk w (L.getD i SP.nil).d ∧ (L.getD i SP.nil).d.n = sz
/-- The numbers that a point has. -/
structure PtNums (sq ba : Nat) (ml el : List Nat) : Prop where
  sq_ : sq < 4294967296
  ba_ : ba < 4294967296
  ml_ : ∀ y ∈ ml, y < 4294967296
  el_ : ∀ y ∈ el, y < 4294967296
  mlen : ml.length ≤ 1000
  elen : el.length ≤ 1000
theorem ptj_none {B : Nat} {w : World} {sv : Value} {bs : List Nat} {a : Option Addr} {n c : Nat} (h : Own B w sv bs) (he : sv = .slice a n c) : a = none → c = 0 := by
  intro ha
  rcases h.1.2 with ⟨q, _⟩ | ⟨g, cap, cur, q, _⟩
  · rw [he] at q; simp only [Value.slice.injEq] at q; exact q.2.2
  · rw [he, ha] at q; simp at q
theorem ptX_split {sz : Nat} (sq ba : Nat) (ml el : List Nat) : ∃ Z, ptX sz sq ba ml el = ptB sq ba ml el ++ Z ∧ zeros Z = true :=
  ⟨_, rfl, by unfold zeros; rw [List.all_eq_true]; intro x hx; rw [List.eq_of_mem_replicate hx]; rfl⟩
set_option maxRecDepth 100000 in
set_option maxHeartbeats 4000000 in
theorem ptJoin_ok (b off n c sz sq ba : Nat) (ml el : List Nat) (L : List SP) (w : World) (hn : n = L.length) (hcl : CellsSP w (some ⟨b, off, none⟩) L) (hc : n ≤ c) (hn2 : n ≤ 1000) (hsz : 0 < sz) (hsz2 : sz ≤ 1000)
    (hm : manyOf sz (16 + 4 * ml.length + 4 * el.length) ≤ n) (hX : manyOf sz (16 + 4 * ml.length + 4 * el.length) * sz ≤ 100000) (hp : PtNums sq ba ml el) (hL : JoinP sz sq ba ml el L w) :
    Calls Tryz.prog 43 #[.slice (some ⟨b, off, none⟩) n c, .int .u32 (sq : Int)] w fun e w' => Below w.heap.size w w' ∧ ∃ v1 v2, e = .returned (.tuple #[.agg #[.int .u32 (sq : Int), .int .u32 (ba : Int), v1, v2], .bool true]) ∧ OwnU w.heap.size w' v1 ml ∧ OwnU w.heap.size w' v2 el := by
  obtain ⟨W1, hW1⟩ : ∃ x, x = w.alloc (.cells #[.int .u32 0, .int .u32 0, .slice none 0 0, .slice none 0 0] 25) := ⟨_, rfl⟩
  obtain ⟨p0, hp0⟩ : ∃ x, x = w.heap.size := ⟨_, rfl⟩
  have s1 : W1.heap.size = p0 + 1 := by rw [hW1, hp0]; simp
  have h0 : W1.heap[p0]? = some (.cells (pCs 0 0 (.slice none 0 0) (.slice none 0 0)) 25 (0, 0)) := by rw [hW1, hp0]; exact heap_alloc_new _ _
  have b01 : Below w.heap.size w W1 := by rw [hW1]; exact bel_alloc (Below.refl _ _) _
  obtain ⟨many, hmany⟩ : ∃ x, x = manyOf sz (16 + 4 * ml.length + 4 * el.length) := ⟨_, rfl⟩
  obtain ⟨X, hXX⟩ : ∃ x, x = ptX sz sq ba ml el := ⟨_, rfl⟩
  have hXl : X.length = many * sz := by rw [hXX, hmany]; exact ptX_len hsz sq ba ml el
  have hX0 : ∀ y ∈ X, y < 256 := by rw [hXX]; exact ptX_lt sz sq ba ml el
  have hpos : 0 < many := by rw [hmany]; exact many_pos hsz (by omega)
  unfold JoinP at hL
  rw [← hmany] at hm hX
  rw [← hmany, ← hXX] at hL
  have hct : (L.getD 0 SP.nil).h.ct = many := by rw [(hL 0 hpos).1]; rfl
  have HP := Lib.hid fun (x : World) (hx : Below w.heap.size w x) => ptParts_any b off n c many L x hn (hcl.step hx) hpos hm hc hct (by omega) (by omega)
  have HCL : Hid (∀ x : World, Below w.heap.size w x → ∀ i, i < n → SPat (L.getD i SP.nil) b (off + i * 8) x) := Lib.hid fun x hx i hi => by
    obtain ⟨b', off', e, hc'⟩ := hcl.step hx (by omega)
    obtain ⟨rfl, rfl⟩ : b = b' ∧ off = off' := by simpa using e
    exact hc' i (by omega)
  have HL := Lib.hid hL
  have HPN := Lib.hid hp
  have HX := Lib.hid (And.intro hXl (And.intro hX0 hXX))
  have HN := Lib.hid (And.intro hm (And.intro hX (And.intro hn2 (And.intro hsz (And.intro hpos (And.intro hn hsz2))))))
  have H0 := Lib.hid (And.intro h0 (And.intro s1 (And.intro b01 hp0)))
  have hk9 : many ≤ 1000 := by omega
  clear hn hcl hn2 hsz hsz2 hm hX hp hL hXl hX0 hXX hpos hct h0 s1 b01 hmany
  go_enter Tryz.func43, Tryz.ntmps43
  go_wp2_with fail
  rw [← hW1, ← hp0]
  clear hW1 hp0
  ((with_reducible refine (HP.out W1 H0.out.2.2.1).mono ?_))
  rintro e w2 ⟨rfl, rfl⟩
  go_wp2_with fail
  go_loopw [6, 15] (fun bv iv wr => ∃ k : Nat, k ≤ many ∧ iv = .int .i64 (k : Int) ∧ Own w2.heap.size wr bv ((List.range k).flatMap (chunkL sz X)) ∧ Below w2.heap.size w2 wr) (fun _ iv _ => many - (intOf iv).toNat)
  case atStart => exact ⟨0, Nat.zero_le _, rfl, own_nil _ _, Below.refl _ _⟩
  case round =>
    obtain ⟨k, hk, rfl, hO, hb⟩ := hrel
    obtain ⟨va, vc, rfl, hrow, hmax⟩ := row_of_own hO
    obtain ⟨vl, hvl⟩ : ∃ x, x = ((List.range k).flatMap (chunkL sz X)).length := ⟨_, rfl⟩
    rw [← hvl] at hO hrow hmax ⊢
    have hvk : vl = k * sz := by
      rw [hvl, chunks_take, List.length_take, HX.out.1]
      have := Nat.mul_le_mul_right sz hk
      omega
    have hbw : Below w.heap.size w wr := H0.out.2.2.1.trans (hb.mono (by rw [H0.out.2.1, H0.out.2.2.2]; omega))
    by_cases hlt : k < many
    · have hlt' : decide (k < many) = true := by simpa using hlt
      obtain ⟨l1, l2, l3, l4⟩ := HL.out k hlt
      obtain ⟨p, hp⟩ : ∃ p, p = L.getD k SP.nil := ⟨_, rfl⟩
      rw [← hp] at l1 l2 l3 l4
      have hat := HCL.out wr hbw k (by have := HN.out.1; omega)
      rw [← hp] at hat
      obtain ⟨c0, c1, c2, c3, c4, c5, c6, c7⟩ := hat
      have hfst := (HCL.out wr hbw 0 (by have := HN.out.1; omega)).2.2.2.2.1
      rw [(HL.out 0 (by omega)).1] at hfst
      simp only [l1, ptHdr] at c0 c1 c2 c3 c4 c5 c6 hfst
      rw [Nat.zero_mul, Nat.add_zero] at hfst
      have i0 : (0 : Int) ≤ (k : Int) := by omega
      have i1 : (k : Int) < (many : Int) := by omega
      have i2 : (0 : Int) < (n : Int) := by have := HN.out.1; omega
      have HO := Lib.hid (And.intro hO (And.intro hb (And.intro hbw (And.intro hvk (And.intro l4 (And.intro l3 (And.intro l2 hvl)))))))
      clear hO hb hbw hvk l4 l3 l2 l1 hp hmax hrow hvl
      go_upto_region 6 with fail
      obtain ⟨W4, hW4⟩ : ∃ x, x = wr.alloc (.cells #[.int .u8 3, .int .u32 (sq : Int), .int .u32 0, .int .u16 (k : Int), .int .u16 (many : Int), .int .u32 0, .int .u32 0, .slice p.d.a p.d.n p.d.c] 95) := ⟨_, rfl⟩
      obtain ⟨W5, hW5⟩ : ∃ x, x = W4.alloc (.cells #[.int .u8 3, .int .u32 (sq : Int), .int .u32 0, .int .u16 (k : Int), .int .u16 (many : Int), .int .u32 0, .int .u32 0] 93) := ⟨_, rfl⟩
      obtain ⟨xb, hxb⟩ : ∃ x, x = wr.heap.size := ⟨_, rfl⟩
      have z4 : W4.heap.size = xb + 1 := by rw [hW4, hxb]; simp
      have hb4 : Below xb wr W4 := by rw [hW4, hxb]; exact bel_alloc (Below.refl _ _) _
      have hb5 : Below W4.heap.size W4 W5 := by rw [hW5]; exact bel_alloc (Below.refl _ _) _
      have hx4 : W4.heap[xb]? = some (.cells #[.int .u8 3, .int .u32 (sq : Int), .int .u32 0, .int .u16 (k : Int), .int .u16 (many : Int), .int .u32 0, .int .u32 0, .slice p.d.a p.d.n p.d.c] 95 (0, 0)) := by rw [hW4, hxb]; exact heap_alloc_new _ _
      have hh5 : W5.heap[xb + 1]? = some (.cells #[.int .u8 3, .int .u32 (sq : Int), .int .u32 0, .int .u16 (k : Int), .int .u16 (many : Int), .int .u32 0, .int .u32 0] 93 (0, 0)) := by rw [hW5, ← z4]; exact heap_alloc_new _ _
      have hx5 := (hb5.block xb (by omega)).trans hx4
      have hb45 : Below xb wr W5 := hb4.trans (hb5.mono (by omega))
      rw [hxb] at hb45
      have h5 := cell_step hfst hb45
      have g0 : W5.cell? ⟨xb + 1, 0, none⟩ = some (.int .u8 3) := by simp [World.cell?, hh5]
      have g3 : W5.cell? ⟨xb + 1, 3, none⟩ = some (.int .u16 (k : Int)) := by simp [World.cell?, hh5]
      have g4 : W5.cell? ⟨xb + 1, 4, none⟩ = some (.int .u16 (many : Int)) := by simp [World.cell?, hh5]
      have x7 : W5.cell? ⟨xb, 7, none⟩ = some (.slice p.d.a p.d.n p.d.c) := by simp [World.cell?, hx5]
      have m1 : IntKind.i64.wrap (k : Int) = (k : Int) := by rw [IntKind.wrap_i64]; have := HN.out.1; have := HN.out.2.2.1; omega
      have q1 : ((k : Int) != (k : Int)) = false := by simp
      have q2 : ((many : Int) != (many : Int)) = false := by simp
      rw [← hW4, ← hW5, ← hxb]
      have HB5 := Lib.hid hb45
      clear hW4 hW5 hxb z4 hb4 hb5 hx4 hh5 hx5 hb45 hfst c0 c1 c2 c3 c4 c5 c6 c7
      go_quiet (fail)
      have hq0 : Below W5.heap.size W5 (W5.drewN nq) := ⟨rfl, rfl, rfl, Nat.le_refl _, fun _ _ => rfl⟩
      obtain ⟨W6, hW6⟩ : ∃ x, x = W5.drewN nq := ⟨_, rfl⟩
      rw [← hW6] at hq0
      rw [← hW6]
      have x7' := cell_step x7 hq0
      obtain ⟨hO, hb, hbw, hvk, l4, l3, l2, hvl⟩ := HO.out
      have hb6 : Below wr.heap.size wr W6 := bel_trans HB5.out hq0
      have HO6 : Hid (Own w2.heap.size W6 (.slice va vl vc) ((List.range k).flatMap (chunkL sz X)) ∧ Below w2.heap.size w2 W6) := Lib.hid ⟨own_kept hO (row := none) ⟨hb6.os, hb6.tape, hb6.output, hb6.size, fun q hq _ => hb6.block q hq⟩ (by cases hv : (Value.slice va vl vc).ownBlock <;> simp), hb.trans (hb6.mono hb.size)⟩
      have hP6 : PartOk W6 p.d := (l3.keep hbw (Nat.le_refl _)).keep hb6 (Nat.le_refl _)
      have HP6 := Lib.hid hP6
      have HLEN : Hid (((List.range k).flatMap (chunkL sz X)).length + p.d.n ≤ 140737488355328 ∧ (List.range (k + 1)).flatMap (chunkL sz X) = (List.range k).flatMap (chunkL sz X) ++ p.d.l) := Lib.hid ⟨by
        rw [← hvl, hvk, l4]
        have h1 := chunk_at (sz := sz) hlt
        have h2 := HN.out.2.1
        omega, by rw [List.range_succ, List.flatMap_append, l2]; simp⟩
      clear hW6 hq0 x7 hO hb hbw hvk l4 l3 l2 hvl hb6 hP6 h5 g0 g3 g4 m1 q1 q2
      go_wp2_with (at_builtin; refine wpList_app rfl _ _ rfl w2.heap.size _ _ rfl HO6.out.1 p.d.a p.d.n p.d.c p.d.l rfl HP6.out.1 HP6.out.2.2.2 HO6.out.2.size HLEN.out.1 ?_)
      intro v' w7 hA
      have HA := Lib.hid hA
      have HM : Hid (many - (k + 1) < many - k) := Lib.hid (by omega)
      clear hA
      go_wp2_with fail
      go_roundw
      case rel => exact ⟨k + 1, by omega, by go_num, by rw [HLEN.out.2]; exact HA.out.own, HO6.out.2.trans HA.out.below⟩
      case measure => simp [intOf]; omega
    · obtain rfl : k = many := by omega
      have hlt' : decide (k < k) = false := by simp
      obtain ⟨Z, hZ, hZ0⟩ := ptX_split (sz := sz) sq ba ml el
      have hall : (List.range k).flatMap (chunkL sz X) = ptB sq ba ml el ++ Z := by rw [chunks_all HX.out.1, HX.out.2.2, hZ]
      rw [hall] at hrow
      have hnil : va = none → vc = 0 := ptj_none hO rfl
      have HD := Lib.hid (ptDecode_back va vl vc sq ba ml el Z wr hrow hnil (by rw [hvk]; exact HN.out.2.1) HPN.out.sq_ HPN.out.ba_ HPN.out.ml_ HPN.out.el_ hZ0)
      have hbx := (hb.block p0 (by rw [H0.out.2.1]; omega)).trans H0.out.1
      have HB := Lib.hid (And.intro hbw (And.intro hbx (show w.heap.size ≤ p0 by have := H0.out.2.2.2; omega)))
      have hle : w.heap.size ≤ wr.heap.size := hbw.size
      have HLE := Lib.hid hle
      clear hO hb hbw hvk hvl hall hrow hmax hnil hbx hle hZ hZ0
      go_wp2_with fail
      ((with_reducible refine HD.out.mono ?_))
      rintro e w3 ⟨hb3, v1, v2, rfl, ho1, ho2⟩
      obtain ⟨qa, qn, qc, rfl⟩ := ownU_sl ho1
      obtain ⟨ra, rn, rc, rfl⟩ := ownU_sl ho2
      obtain ⟨hbw, hbx, hle⟩ := HB.out
      have hpl : p0 < wr.heap.size := (Array.getElem?_eq_some_iff.1 hbx).1
      have hz3 := (hb3.block p0 hpl).trans hbx
      have hpl3 : p0 < w3.heap.size := Nat.lt_of_lt_of_le hpl hb3.size
      obtain ⟨W4, hW4⟩ : ∃ x, x = w3.alloc (.cells #[.int .u32 (sq : Int), .int .u32 (ba : Int), .slice qa qn qc, .slice ra rn rc] 25) := ⟨_, rfl⟩
      obtain ⟨qb, hqb⟩ : ∃ x, x = w3.heap.size := ⟨_, rfl⟩
      have hb4 : Below w3.heap.size w3 W4 := by rw [hW4]; exact bel_alloc (Below.refl _ _) _
      have hq4 : W4.heap[qb]? = some (.cells (pCs sq ba (.slice qa qn qc) (.slice ra rn rc)) 25 (0, 0)) := by rw [hW4, hqb]; exact heap_alloc_new _ _
      obtain ⟨⟨y0, y1, y2, y3⟩, -⟩ := pt4_at hq4
      obtain ⟨⟨z0, z1, z2, z3⟩, f0, f1, f2, f3⟩ := pt4_at ((hb4.block p0 hpl3).trans hz3)
      have hb34 : Below wr.heap.size wr W4 := hb3.trans (hb4.mono hb3.size)
      have hbe : Below w.heap.size w W4 := hbw.trans (hb34.mono hbw.size)
      have HO4 := Lib.hid (And.intro (ownU_at ho1 (y := W4) fun q _ hq => hb4.block q hq) (And.intro (ownU_at ho2 (y := W4) fun q _ hq => hb4.block q hq) (And.intro hbe (And.intro hle hpl))))
      have q3 : ((sq : Int) != (sq : Int)) = false := by simp
      clear hb3 ho1 ho2 hbw hbx hle hpl hz3 hpl3 hb4 hq4 hb34 hbe
      go_upto_region 11 with fail
      rw [← hW4, ← hqb]
      clear hW4 hqb
      go_wp2_with fail
      obtain ⟨u1, u2, hbe, hle, hpl⟩ := HO4.out
      exact bodyPost_ret (v := .tuple #[.agg #[.int .u32 (sq : Int), .int .u32 (ba : Int), .slice qa qn qc, .slice ra rn rc], .bool true]) (by simp [results, Tryz.results43, go_sem, z0, z1, z2, z3]) rfl ⟨pt4_set hbe hle _ _ _ _, _, _, rfl, ownU_base (ownU_sets u1 hpl _ _ _ _) HLE.out, ownU_base (ownU_sets u2 hpl _ _ _ _) HLE.out⟩
end Go.Proofs.YthgcjiocelcblaaGreat
