/- gabionlaw10: a case's pages. -/
import Derived.Test.YtnhklomofebfaaaStCase
import Derived.Test.YtnhklomofebfaaaOwnSP
import Derived.StillTailTactics
namespace Go.Proofs.Ytnhklomofebfaaa
open Go.RowKit Go.Deep

/-- The header of page i. -/
def hdrAt (HL : List RH) (i : Nat) : RH := if i < HL.length then { HL.getD i RH.zero with ki := 1 + (HL.getD i RH.zero).ki % 6 } else ⟨4, 0, 0, 0, 0, i, 0⟩
/-- Byte j of page i. -/
def bytAt (FL : List Nat) (i j : Nat) : Nat := (j * (i + 1) % 256 + FL.getD i 0) % 256
/-- The bytes of page i, as far as k. -/
def datTo (FL : List Nat) (i k : Nat) : List Nat := (List.range 256).map fun j => if j < k then bytAt FL i j else 0
theorem datTo_len (FL : List Nat) (i k : Nat) : (datTo FL i k).length = 256 := by simp [datTo]
theorem datTo_zero (FL : List Nat) (i : Nat) : datTo FL i 0 = List.replicate 256 0 := by
  unfold datTo
  rw [show (fun j => if j < 0 then bytAt FL i j else 0) = fun _ => 0 from by funext j; rw [if_neg (Nat.not_lt_zero _)], List.map_const']
  simp
theorem datTo_set (FL : List Nat) (i k : Nat) (hk : k < 256) : (datTo FL i k).set k (bytAt FL i k) = datTo FL i (k + 1) := by
  apply list_ext_getD
  · rw [List.length_set, datTo_len, datTo_len]
  · intro j
    by_cases hj : j < 256
    · by_cases h : k = j
      · subst h
        simp [datTo, List.getD, hk]
      · have e : (j < k + 1) = (j < k) := by apply propext; omega
        simp [datTo, List.getD, h, hj, e]
    · simp [datTo, List.getD, show ¬ j < 256 from hj]
theorem datTo_lt (FL : List Nat) (i k : Nat) : ∀ x ∈ datTo FL i k, x < 256 := by
  intro x hx
  unfold datTo at hx
  rw [List.mem_map] at hx
  obtain ⟨j, _, rfl⟩ := hx
  split
  · unfold bytAt; omega
  · omega
theorem byt_wrap (k i : Nat) (hk : k < 256) (hi : i ≤ 6) : wrap64 ((k : Int) * ((i : Int) + 1)) % 256 = ((k * (i + 1) % 256 : Nat) : Int) := by
  have h : k * (i + 1) ≤ 255 * 7 := Nat.mul_le_mul (by omega) (by omega)
  have e : (k : Int) * ((i : Int) + 1) = ((k * (i + 1) : Nat) : Int) := by simp
  rw [e]
  generalize k * (i + 1) = z at h ⊢
  rw [IntWalk.wrap64_in _ (by omega)]
  omega
theorem byt_none (FL : List Nat) (k i : Nat) (h : FL.length ≤ i) : bytAt FL i k = k * (i + 1) % 256 := by
  unfold bytAt
  have e : FL.getD i 0 = 0 := by simp [List.getD, List.getElem?_eq_none h]
  rw [e, Nat.add_zero, Nat.mod_mod]
theorem byt_add (FL : List Nat) (i k y f : Nat) (hy : y = k * (i + 1) % 256) (hf : f = FL.getD i 0) : IntKind.u8.wrap ((y : Int) + (f : Int)) = ((bytAt FL i k : Nat) : Int) := by
  unfold bytAt
  rw [← hy, ← hf, IntKind.wrap_u8]
  omega
theorem set_getD (l : List Nat) (k y : Nat) (h : k < l.length) : (l.set k y).getD k 0 = y := by simp [List.getD, h]
theorem hdr7_at {W : World} {b : Nat} {v0 v1 v2 v3 v4 v5 v6 : Value} {t : TypeId} (h : W.heap[b]? = some (.cells #[v0, v1, v2, v3, v4, v5, v6] t (0, 0))) :
    W.cell? ⟨b, 0, none⟩ = some v0 ∧ W.cell? ⟨b, 1, none⟩ = some v1 ∧ W.cell? ⟨b, 2, none⟩ = some v2 ∧ W.cell? ⟨b, 3, none⟩ = some v3 ∧ W.cell? ⟨b, 4, none⟩ = some v4 ∧ W.cell? ⟨b, 5, none⟩ = some v5 ∧ W.cell? ⟨b, 6, none⟩ = some v6 := by
  simp [World.cell?, h]
theorem hdr_put {W : World} {b : Nat} {u0 u1 u2 u3 u4 u5 u6 : Value} (v0 v1 v2 v3 v4 v5 v6 v7 : Value) {t : TypeId} (h : W.heap[b]? = some (.cells #[u0, u1, u2, u3, u4, u5, u6] t (0, 0))) :
    ((((((((W.setCell ⟨b, 0, none⟩ v0).setCell ⟨b, 1, none⟩ v1).setCell ⟨b, 2, none⟩ v2).setCell ⟨b, 3, none⟩ v3).setCell ⟨b, 4, none⟩ v4).setCell ⟨b, 5, none⟩ v5).setCell ⟨b, 6, none⟩ v6).setCell ⟨b, 0, none⟩ v7).heap[b]? = some (.cells #[v7, v1, v2, v3, v4, v5, v6] t (0, 0)) := by
  have h0 := heap_setCell_same W b 0 _ _ v0 h
  have h1 := heap_setCell_same _ b 1 _ _ v1 h0
  have h2 := heap_setCell_same _ b 2 _ _ v2 h1
  have h3 := heap_setCell_same _ b 3 _ _ v3 h2
  have h4 := heap_setCell_same _ b 4 _ _ v4 h3
  have h5 := heap_setCell_same _ b 5 _ _ v5 h4
  have h6 := heap_setCell_same _ b 6 _ _ v6 h5
  have h7 := heap_setCell_same _ b 0 _ _ v7 h6
  simpa using h7
/-- Pages, one behind the other, that were made. -/
def GotP (sz : Nat) (q : Nat → List Nat × RH) (B m : Nat) (sv : Value) (L : List SP) (w : World) : Prop :=
  OwnSP B w sv L ∧ L.length = m ∧ ∀ j, j < m → (L.getD j SP.nil).h = (q j).2 ∧ (L.getD j SP.nil).d.l = (q j).1 ∧ PartOk w (L.getD j SP.nil).d ∧ (L.getD j SP.nil).d.n = sz ∧ Far B (L.getD j SP.nil).d ∧ ∀ x, (L.getD j SP.nil).d.a = some x → some x.block ≠ sv.ownBlock
theorem GotP.step {sz : Nat} {q : Nat → List Nat × RH} {B m : Nat} {sv : Value} {L : List SP} {w w' : World} (h : GotP sz q B m sv L w) (hb : Below w.heap.size w w') : GotP sz q B m sv L w' := by
  refine ⟨h.1.below hb, h.2.1, fun j hj => ?_⟩
  obtain ⟨h2, h3, h4, h5, h6, h7⟩ := h.2.2 j hj
  exact ⟨h2, h3, h4.step hb, h5, h6, h7⟩
theorem gp_left {α : Type} (L M : List α) (d : α) (j : Nat) (h : j < L.length) : (L ++ M).getD j d = L.getD j d := by
  simp [List.getD, List.getElem?_append_left h]
theorem gp_last {α : Type} (L : List α) (x d : α) : (L ++ [x]).getD L.length d = x := by
  simp [List.getD]
theorem GotP.more {sz : Nat} {q : Nat → List Nat × RH} {B k : Nat} {sv sv' : Value} {L : List SP} {w w' : World} {p : SP} (h : GotP sz q B k sv L w) (hs : 0 < sz) (ho : ApdSP B w sv (L ++ [p]) sv' w') (hq : q k = (p.d.l, p.h)) (hp : PartOk w p.d) (hn : p.d.n = sz) (hf : Far B p.d) (hx : ∀ x, p.d.a = some x → some x.block ≠ sv.ownBlock) : GotP sz q B (k + 1) sv' (L ++ [p]) w' := by
  have key : ∀ d : PS, PartOk w d → d.n = sz → (∀ x, d.a = some x → some x.block ≠ sv.ownBlock) → PartOk w' d ∧ ∀ x, d.a = some x → some x.block ≠ sv'.ownBlock := by
    intro d d1 d2 d3
    refine ⟨d1.at_ fun h0 x hx => ho.grown.block x.block (d1.lt h0 x hx) (d3 x hx), fun x hx => ?_⟩
    rcases ho.where_ with e | e
    · rw [e]; exact d3 x hx
    · rw [e]
      have := d1.lt (by omega) x hx
      intro c
      have c2 : x.block = w.heap.size := by simpa using c
      omega
  refine ⟨ho.own, by rw [List.length_append, h.2.1]; rfl, fun j hj => ?_⟩
  by_cases e : j = k
  · rw [e, ← h.2.1, gp_last, h.2.1, hq]
    exact ⟨rfl, rfl, (key _ hp hn hx).1, hn, hf, (key _ hp hn hx).2⟩
  · rw [gp_left _ _ _ _ (by rw [h.2.1]; omega)]
    obtain ⟨h2, h3, h4, h5, h6, h7⟩ := h.2.2 j (by omega)
    exact ⟨h2, h3, (key _ h4 h5 h7).1, h5, h6, (key _ h4 h5 h7).2⟩
theorem ownSP_apart {B : Nat} {w : World} {sv : Value} {L : List SP} (h : OwnSP B w sv L) {g : Nat} (hg : w.heap.size ≤ g) : ∀ x, (some ⟨g, 0, none⟩ : Option Addr) = some x → some x.block ≠ sv.ownBlock := fun x hx c => by
  cases hx
  have h1 := (h.lt g c.symm).2
  omega
theorem ownSP_mono {B B' : Nat} {w : World} {sv : Value} {L : List SP} (h : OwnSP B w sv L) (hB : B' ≤ B) : OwnSP B' w sv L := by
  refine ⟨h.1, ?_⟩
  rcases h.2 with h0 | ⟨g, cap, cur, h1, h2, h3⟩
  · exact .inl h0
  · exact .inr ⟨g, cap, cur, h1, Nat.le_trans hB h2, h3⟩
/-- What page i is. -/
def pgAt (HL : List RH) (FL : List Nat) (i : Nat) : List Nat × RH := (datTo FL i 256, hdrAt HL i)
theorem hdrAt_fits (HL : List RH) (i : Nat) (h : ∀ h ∈ HL, h.Fits) (hi : i ≤ 1000) : (hdrAt HL i).Fits := by
  unfold hdrAt
  split
  · rename_i hl
    have f := h (HL.getD i RH.zero) (by simp [List.getD, hl])
    exact ⟨by show 1 + (HL.getD i RH.zero).ki % 6 < 256; omega, f.ep, f.ba, f.ix, f.ct, f.bl, f.mo⟩
  · exact ⟨by show 4 < 256; omega, by show 0 < 4294967296; omega, by show 0 < 4294967296; omega, by show 0 < 65536; omega, by show 0 < 65536; omega, by show i < 4294967296; omega, by show 0 < 4294967296; omega⟩
def CasePRet (c : Int) (HL : List RH) (FL : List Nat) (w : World) (e : Ending) (x : World) : Prop :=
  ∃ sv L, e = .returned sv ∧ GotP 256 (pgAt HL FL) w.heap.size (chipsOf c - 1) sv L x ∧ Below w.heap.size w x
set_option maxRecDepth 100000 in
set_option maxHeartbeats 2000000 in
theorem casePages_any (c sg rw : Int) (ha : Option Addr) (hn hc : Nat) (fa : Option Addr) (fn fc : Nat) (dd sp : Int) (ba : Option Addr) (bn bc : Nat) (HL : List RH) (FL : List Nat) (w : World) (hh : CellsH w ha HL) (hhn : hn = HL.length) (hhm : hn ≤ maxLen) (hhf : ∀ h ∈ HL, h.Fits) (hf : Row w fa fn FL) (hfm : fn ≤ maxLen) :
    Calls Try.prog 7 #[.agg #[.int .i64 c, .int .i64 sg, .int .i64 rw, .slice ha hn hc, .slice fa fn fc, .int .i64 dd, .int .i64 sp, .slice ba bn bc]] w (CasePRet c HL FL w) := by
  have HSH := Lib.hid fun (x : World) => caseShape_any c sg rw ha hn hc fa fn fc dd sp ba bn bc x
  have hch := (chips_eq c).2
  have HH := Lib.hid (And.intro hh (And.intro hhn hhf))
  have HF := Lib.hid hf
  unfold maxLen at hhm hfm
  clear hh hhn hf hhf
  go_enter Try.func7, Try.ntmps7
  have l0 := heap_alloc_new w (.cells #[.int .i64 c, .int .i64 sg, .int .i64 rw, .slice ha hn hc, .slice fa fn fc, .int .i64 dd, .int .i64 sp, .slice ba bn bc] 25)
  have hb := bel_alloc (Below.refl _ w) (.cells #[.int .i64 c, .int .i64 sg, .int .i64 rw, .slice ha hn hc, .slice fa fn fc, .int .i64 dd, .int .i64 sp, .slice ba bn bc] 25)
  go_upto_region 1 with fail
  obtain ⟨xb, hxb⟩ : ∃ x, x = w.heap.size := ⟨_, rfl⟩
  obtain ⟨w1, hw1⟩ : ∃ x, x = w.alloc (.cells #[.int .i64 c, .int .i64 sg, .int .i64 rw, .slice ha hn hc, .slice fa fn fc, .int .i64 dd, .int .i64 sp, .slice ba bn bc] 25) := ⟨_, rfl⟩
  rw [← hw1, ← hxb] at l0
  rw [← hw1] at hb
  rw [← hw1, ← hxb]
  have HB1 := Lib.hid hb
  have HX : Hid (∀ x : World, Below w1.heap.size w1 x → x.cell? ⟨xb, 3, none⟩ = some (.slice ha hn hc) ∧ x.cell? ⟨xb, 4, none⟩ = some (.slice fa fn fc)) := Lib.hid fun x hx => by
    obtain ⟨_, _, _, z3, z4, _, _, _⟩ := eight_at ((hx.block _ (Array.getElem?_eq_some_iff.1 l0).1).trans l0)
    exact ⟨z3, z4⟩
  obtain ⟨z0, z1, z2, z3, z4, z5, z6, z7⟩ := eight_at l0
  clear hw1 hxb hb l0
  go_wp2_with fail
  ((with_reducible refine (HSH.out _).mono ?_))
  rintro e w2 ⟨rfl, hb2⟩
  have hgb := heap_alloc_new w2 (.cells #[.int .i64 (chipsOf c : Int), .int .i64 20, .int .i64 6, .int .i64 256] 28)
  have hb3 := bel_alloc hb2 (.cells #[.int .i64 (chipsOf c : Int), .int .i64 20, .int .i64 6, .int .i64 256] 28)
  clear hb2 z0 z1 z2 z3 z4 z5 z6 z7
  go_upto_region 2 with fail
  obtain ⟨gb, hgbe⟩ : ∃ x, x = w2.heap.size := ⟨_, rfl⟩
  obtain ⟨w3, hw3⟩ : ∃ x, x = w2.alloc (.cells #[.int .i64 (chipsOf c : Int), .int .i64 20, .int .i64 6, .int .i64 256] 28) := ⟨_, rfl⟩
  rw [← hw3, ← hgbe] at hgb
  rw [← hw3] at hb3
  rw [← hw3, ← hgbe]
  have HG : Hid (∀ x : World, Below w3.heap.size w3 x → x.cell? ⟨gb, 0, none⟩ = some (.int .i64 (chipsOf c : Int))) := Lib.hid fun x hx => (four_at ((hx.block _ (Array.getElem?_eq_some_iff.1 hgb).1).trans hgb)).1
  have HB3 := Lib.hid hb3
  clear hw3 hgbe hb3 hgb
  go_upto_region 4 with fail
  go_loopw [4, 5] (fun sv iv wr => ∃ (i : Nat) (L : List SP), i + 1 ≤ chipsOf c ∧ iv = .int .i64 (i : Int) ∧ GotP 256 (pgAt HL FL) w3.heap.size i sv L wr ∧ Below w3.heap.size w3 wr) (fun _ iv _ => (chipsOf c - intOf iv).toNat)
  case atStart => exact ⟨0, [], by omega, rfl, ⟨ownSP_nil _ _, rfl, fun j hj => absurd hj (Nat.not_lt_zero _)⟩, Below.refl _ _⟩
  case round =>
    obtain ⟨i, L, hi, rfl, hP, hB⟩ := hrel
    have HP := Lib.hid hP
    have HB := Lib.hid hB
    have g0 := HG.out wr hB
    clear hP hB
    by_cases hlt : i + 1 < chipsOf c
    · have q1 : decide ((i : Int) < (chipsOf c : Int) - 1) = true := by simp; omega
      have hhb := heap_alloc_new wr (.cells #[.int .u8 4, .int .u32 0, .int .u32 0, .int .u16 0, .int .u16 0, .int .u32 (i : Int), .int .u32 0] 45)
      have hb4 := bel_alloc HB.out (.cells #[.int .u8 4, .int .u32 0, .int .u32 0, .int .u16 0, .int .u16 0, .int .u32 (i : Int), .int .u32 0] 45)
      have hP4 := bel_alloc (Below.refl wr.heap.size wr) (.cells #[.int .u8 4, .int .u32 0, .int .u32 0, .int .u16 0, .int .u16 0, .int .u32 (i : Int), .int .u32 0] 45)
      go_upto_region 7 with fail
      obtain ⟨hb, hhbe⟩ : ∃ x, x = wr.heap.size := ⟨_, rfl⟩
      obtain ⟨w4, hw4⟩ : ∃ x, x = wr.alloc (.cells #[.int .u8 4, .int .u32 0, .int .u32 0, .int .u16 0, .int .u16 0, .int .u32 (i : Int), .int .u32 0] 45) := ⟨_, rfl⟩
      rw [← hw4, ← hhbe] at hhb
      rw [← hw4] at hb4 hP4
      rw [← hw4, ← hhbe]
      have HHB := Lib.hid hhb
      have HW4 := Lib.hid (And.intro hb4 hP4)
      have HHE := Lib.hid hhbe
      obtain ⟨z3, z4⟩ := HX.out w4 (bel_trans HB3.out hb4)
      clear hw4 hhbe hb4 hP4 hhb g0
      by_cases hih : i < hn
      · have q2 : decide (i < hn) = true := by simpa using hih
        have i0 : (0 : Int) ≤ (i : Int) := by omega
        have i1 : (i : Int) < (hn : Int) := by omega
        obtain ⟨ab, off, rfl, hcl⟩ := (HH.out.1.keep (bel_trans HB1.out (bel_trans HB3.out HW4.out.1)) (Nat.le_refl _)) (by rw [← HH.out.2.1]; omega)
        have HAB : Hid (ab < w.heap.size) := Lib.hid (by obtain ⟨b', o', e', hc'⟩ := HH.out.1 (by rw [← HH.out.2.1]; omega); cases e'; exact World.block_lt_of_cell? w _ (hc' i (by rw [← HH.out.2.1]; exact hih)).1)
        have hci := hcl i (by rw [← HH.out.2.1]; exact hih)
        have HFI : Hid ((HL.getD i RH.zero).Fits) := Lib.hid (HH.out.2.2 _ (by simp [List.getD, show i < HL.length by rw [← HH.out.2.1]; exact hih]))
        obtain ⟨hd, hhd⟩ : ∃ h, h = HL.getD i RH.zero := ⟨_, rfl⟩
        rw [← hhd] at hci HFI
        have HHD := Lib.hid hhd
        obtain ⟨c0, c1, c2, c3, c4, c5, c6⟩ := hci
        obtain ⟨u0, u1, u2, u3, u4, u5, u6⟩ := hdr7_at HHB.out
        have hf := free_at HHB.out
        have e1 : hb ≠ ab := by have h1 := HAB.out; have := HHE.out; have := HB1.out.size; have := HB3.out.size; have := HB.out.size; omega
        have k6 : (hd.ki : Int).tmod 6 = ((hd.ki % 6 : Nat) : Int) := rfl
        clear hcl hhd
        go_upto_region 10 with fail
        clear u0 u1 u2 u3 u4 u5 u6 hf c0 c1 c2 c3 c4 c5 c6
        obtain ⟨w5, hw5⟩ : ∃ x, x = ((((((((w4.setCell ⟨hb, 0, none⟩ (.int .u8 (hd.ki : Int))).setCell ⟨hb, 1, none⟩ (.int .u32 (hd.ep : Int))).setCell ⟨hb, 2, none⟩ (.int .u32 (hd.ba : Int))).setCell ⟨hb, 3, none⟩ (.int .u16 (hd.ix : Int))).setCell ⟨hb, 4, none⟩ (.int .u16 (hd.ct : Int))).setCell ⟨hb, 5, none⟩ (.int .u32 (hd.bl : Int))).setCell ⟨hb, 6, none⟩ (.int .u32 (hd.mo : Int))).setCell ⟨hb, 0, none⟩ (.int .u8 (1 + (hd.ki : Int) % 6))) := ⟨_, rfl⟩
        rw [← hw5]
        obtain ⟨hq, hqe⟩ : ∃ h : RH, h = { hd with ki := 1 + hd.ki % 6 } := ⟨_, rfl⟩
        have hq1 : hq = hdrAt HL i := by rw [hqe, HHD.out]; unfold hdrAt; rw [if_pos (by rw [← HH.out.2.1]; exact hih)]
        have hq2 : hq.Fits := by rw [hqe]; exact ⟨by show 1 + hd.ki % 6 < 256; omega, HFI.out.ep, HFI.out.ba, HFI.out.ix, HFI.out.ct, HFI.out.bl, HFI.out.mo⟩
        have hq3 : w5.heap[hb]? = some (.cells #[.int .u8 (hq.ki : Int), .int .u32 (hq.ep : Int), .int .u32 (hq.ba : Int), .int .u16 (hq.ix : Int), .int .u16 (hq.ct : Int), .int .u32 (hq.bl : Int), .int .u32 (hq.mo : Int)] 45 (0, 0)) := by
          rw [hw5, hqe]; exact hdr_put _ _ _ _ _ _ _ _ HHB.out
        have hlo : wr.heap.size ≤ hb := Nat.le_of_eq HHE.out.symm
        have hq4 : Below wr.heap.size wr w5 := by
          rw [hw5]
          exact (((((((HW4.out.2.setCell (p := ⟨hb, 0, none⟩) hlo _).setCell (p := ⟨hb, 1, none⟩) hlo _).setCell (p := ⟨hb, 2, none⟩) hlo _).setCell (p := ⟨hb, 3, none⟩) hlo _).setCell (p := ⟨hb, 4, none⟩) hlo _).setCell (p := ⟨hb, 5, none⟩) hlo _).setCell (p := ⟨hb, 6, none⟩) hlo _).setCell (p := ⟨hb, 0, none⟩) hlo _
        clear hw5 hqe hlo
        have HQ := Lib.hid (And.intro hq1 hq2)
        have HHQ := Lib.hid hq3
        have HB5 := Lib.hid hq4
        have HBW := Lib.hid (bel_trans HB.out hq4)
        obtain ⟨V, hV⟩ : ∃ x, x = wr := ⟨_, rfl⟩
        subst hV
        clear hq1 hq2 hq3 hq4
        go_wp2_with fail
        have HZ : Hid (Calls Try.prog 14 #[.int .i64 256] w5 (RetOwn w5 (List.replicate 256 0))) := Lib.hid (zeros_any 256 w5 (by omega))
        ((with_reducible refine HZ.out.mono ?_))
        rintro e w6 ⟨sv6, rfl, ho, hb6⟩
        obtain ⟨g, cap, rfl, hge, hgl, hO, hmx⟩ := ownB_of ho (by simp)
        rw [← datTo_zero FL i, datTo_len] at hO hmx ⊢
        have HO := Lib.hid hO
        have HB6 := Lib.hid hb6
        clear ho hO hb6
        go_upto_region 12 with fail
        go_loopw [8] (fun kv wi => ∃ k : Nat, k ≤ 256 ∧ kv = .int .i64 (k : Int) ∧ OwnB w5.heap.size wi g 256 cap (datTo FL i k) ∧ Below w5.heap.size w5 wi) (fun kv _ => (256 - intOf kv).toNat)
        case atStart => exact ⟨0, Nat.zero_le _, rfl, HO.out, HB6.out⟩
        case round =>
          obtain ⟨k, hk, rfl, hOk, hBk⟩ := hrel
          have HOK := Lib.hid hOk
          have HBK := Lib.hid hBk
          clear hOk hBk
          by_cases hk2 : k < 256
          · have q3 : decide ((k : Int) < 256) = true := by simp; omega
            have q3' : decide (k < 256) = true := by simpa using hk2
            have m0 : (0 : Int) ≤ (k : Int) := by omega
            have m1 : (k : Int) < 256 := by omega
            have d0 := ownB_cell HOK.out k hk2
            have df := ownB_frozen HOK.out k
            obtain ⟨y, hy⟩ : ∃ y, y = k * (i + 1) % 256 := ⟨_, rfl⟩
            have v0 := byt_wrap k i hk2 (by omega)
            rw [← hy] at v0
            have hy2 : y < 256 := by rw [hy]; exact Nat.mod_lt _ (by decide)
            have HY := Lib.hid hy
            have h7 := ownB_set HOK.out k y hy2
            have hb7 := HBK.out.setCell (p := ⟨g, k, none⟩) hge (.int .u8 (y : Int))
            have HI16 : Hid (i + 1 ≤ 7) := Lib.hid (by omega)
            clear hy
            go_upto_region 15 with fail
            rw [v0]
            obtain ⟨w7, hw7⟩ : ∃ x, x = wr.setCell ⟨g, k, none⟩ (.int .u8 (y : Int)) := ⟨_, rfl⟩
            rw [← hw7] at h7 hb7 ⊢
            have HO7 := Lib.hid h7
            have HB7 := Lib.hid hb7
            have HBX := Lib.hid (bel_trans HB3.out (bel_trans HBW.out hb7))
            clear hw7 h7 hb7 d0 df v0
            have z4 := (HX.out w7 HBX.out).2
            by_cases hif : i < fn
            · have q4 : decide (i < fn) = true := by simpa using hif
              have q4' : decide ((i : Int) < (fn : Int)) = true := by simpa using hif
              have i2 : (0 : Int) ≤ (i : Int) := by omega
              have i3 : (i : Int) < (fn : Int) := by omega
              obtain ⟨fb, fo, rfl, hfc⟩ := (row_keep HF.out (bel_trans HB1.out HBX.out) (Nat.le_refl _)).2.2 (by omega)
              have x0 := hfc i hif
              have d0 := ownB_cell HO7.out k hk2
              have df := ownB_frozen HO7.out k
              rw [set_getD _ _ _ (by rw [datTo_len]; exact hk2)] at d0
              obtain ⟨f, hf⟩ : ∃ f, f = FL.getD i 0 := ⟨_, rfl⟩
              rw [← hf] at x0
              have HFE := Lib.hid hf
              clear hfc hf
              have hsz : w.heap.size ≤ w5.heap.size := Nat.le_trans HB1.out.size (Nat.le_trans HB3.out.size HBW.out.size)
              have hn1 : fb ≠ g := by
                obtain ⟨b', o', e', hc'⟩ := HF.out.2.2 (by omega)
                cases e'
                have := World.block_lt_of_cell? w _ (hc' i hif)
                simp only at this
                omega
              have hn2 : xb ≠ g := by
                have h1 := World.block_lt_of_cell? w1 _ (HX.out w1 (Below.refl _ _)).2
                have h2 := HB3.out.size
                have h3 := HBW.out.size
                simp only at h1
                omega
              go_upto_region 16 with fail
              go_still_tail 13, (by kernel_rfl)
              change wpList _ _ _ _ _ w7.drew
              have hv := byt_add FL i k y f HY.out HFE.out
              rw [hv]
              have h8 := ownB_set HO7.out k (bytAt FL i k) (Nat.mod_lt _ (by decide))
              rw [List.set_set, datTo_set FL i k hk2] at h8
              have HR : Hid (OwnB w5.heap.size (w7.setCell ⟨g, k, none⟩ (.int .u8 (bytAt FL i k : Int))).drew g 256 cap (datTo FL i (k + 1))) := Lib.hid h8
              have HRB : Hid (Below w5.heap.size w5 (w7.setCell ⟨g, k, none⟩ (.int .u8 (bytAt FL i k : Int))).drew) := Lib.hid (HB7.out.setCell (p := ⟨g, k, none⟩) hge _).drew
              clear h8 hv x0
              go_wp2
              go_roundw
              case rel => exact ⟨k + 1, by omega, by go_num, HR.out, HRB.out⟩
              case measure => simp [intOf]; omega
            · have q4 : decide (i < fn) = false := by simpa using hif
              have q4' : decide ((i : Int) < (fn : Int)) = false := by simpa using hif
              have HR : Hid (OwnB w5.heap.size w7 g 256 cap (datTo FL i (k + 1))) := Lib.hid (by
                rw [← datTo_set FL i k hk2]
                have e : bytAt FL i k = y := by rw [HY.out]; exact byt_none FL k i (by rw [HF.out.1]; omega)
                rw [e]; exact HO7.out)
              go_wp2
              go_roundw
              case rel => exact ⟨k + 1, by omega, by go_num, HR.out, HB7.out⟩
              case measure => simp [intOf]; omega
          · obtain rfl : k = 256 := by omega
            have q3 : decide (((256 : Nat) : Int) < 256) = false := by simp
            obtain ⟨u0, u1, u2, u3, u4, u5, u6⟩ := hdr7_at ((HBK.out.block hb (Array.getElem?_eq_some_iff.1 HHQ.out).1).trans HHQ.out)
            have HE : Hid (PartOk wr ⟨some ⟨g, 0, none⟩, 256, cap, datTo FL i 256⟩) := Lib.hid (by
              refine ⟨row_ownB HOK.out, ?_, ?_, fun h => by cases h⟩
              · rcases HOK.out.1.1.2 with ⟨e, _⟩ | ⟨g', cap', cur, e, _, _, h1, _⟩
                · cases e
                · cases e
                  rw [HOK.out.2] at h1
                  exact h1
              · rcases HOK.out.1.1.2 with ⟨e, _⟩ | ⟨g', cap', cur, e, _, _, _, h2, _⟩
                · cases e
                · cases e; exact h2)
            have hGX := HP.out.step (bel_trans HB5.out HBK.out)
            have HGA := Lib.hid (hGX.step (bel_alloc (Below.refl _ wr) (.cells #[.int .u8 (hq.ki : Int), .int .u32 (hq.ep : Int), .int .u32 (hq.ba : Int), .int .u16 (hq.ix : Int), .int .u16 (hq.ct : Int), .int .u32 (hq.bl : Int), .int .u32 (hq.mo : Int), .slice (some ⟨g, 0, none⟩) 256 cap] 47)))
            have HEA := Lib.hid (HE.out.step (bel_alloc (Below.refl _ wr) (.cells #[.int .u8 (hq.ki : Int), .int .u32 (hq.ep : Int), .int .u32 (hq.ba : Int), .int .u16 (hq.ix : Int), .int .u16 (hq.ct : Int), .int .u32 (hq.bl : Int), .int .u32 (hq.mo : Int), .slice (some ⟨g, 0, none⟩) 256 cap] 47)))
            have HPA : Hid (SPat ⟨hq, ⟨some ⟨g, 0, none⟩, 256, cap, datTo FL i 256⟩⟩ wr.heap.size 0 (wr.alloc (.cells #[.int .u8 (hq.ki : Int), .int .u32 (hq.ep : Int), .int .u32 (hq.ba : Int), .int .u16 (hq.ix : Int), .int .u16 (hq.ct : Int), .int .u32 (hq.bl : Int), .int .u32 (hq.mo : Int), .slice (some ⟨g, 0, none⟩) 256 cap] 47))) := Lib.hid (by
              obtain ⟨a0, a1, a2, a3, a4, a5, a6, a7⟩ := eight_at (heap_alloc_new wr (.cells #[.int .u8 (hq.ki : Int), .int .u32 (hq.ep : Int), .int .u32 (hq.ba : Int), .int .u16 (hq.ix : Int), .int .u16 (hq.ct : Int), .int .u32 (hq.bl : Int), .int .u32 (hq.mo : Int), .slice (some ⟨g, 0, none⟩) 256 cap] 47))
              exact ⟨a0, a1, a2, a3, a4, a5, a6, a7⟩)
            have hgx : w5.heap.size ≤ g := hge
            have HBR := Lib.hid (bel_trans HBW.out HBK.out)
            have HBA := Lib.hid (bel_alloc HBR.out (.cells #[.int .u8 (hq.ki : Int), .int .u32 (hq.ep : Int), .int .u32 (hq.ba : Int), .int .u16 (hq.ix : Int), .int .u16 (hq.ct : Int), .int .u32 (hq.bl : Int), .int .u32 (hq.mo : Int), .slice (some ⟨g, 0, none⟩) 256 cap] 47))
            have HGE : Hid (V.heap.size ≤ g ∧ w3.heap.size ≤ g) := Lib.hid ⟨Nat.le_trans HB5.out.size hge, Nat.le_trans HBW.out.size hge⟩
            clear hGX hgx
            go_wp2_with (at_builtin; refine wpList_appSP 33 Try.underlying33 info_sp rfl _ _ rfl w3.heap.size _ L rfl HGA.out.1 wr.heap.size 1 ⟨hq, ⟨some ⟨g, 0, none⟩, 256, cap, datTo FL i 256⟩⟩ rfl HPA.out HBA.out.size (by rw [HGA.out.2.1]; omega) ?_)
            intro v' w9 hap
            have hfx := ownSP_apart HP.out.1 HGE.out.1
            have HG9 := Lib.hid (HGA.out.more (by omega) hap (by show (datTo FL i 256, hdrAt HL i) = (datTo FL i 256, hq); rw [HQ.out.1]) HEA.out rfl (fun x hx => by cases hx; exact HGE.out.2) hfx)
            have HB9 := Lib.hid (HBA.out.trans hap.below)
            clear hap hfx u0 u1 u2 u3 u4 u5 u6
            go_wp2
            go_roundw
            case rel => exact ⟨i + 1, L ++ [⟨hq, ⟨some ⟨g, 0, none⟩, 256, cap, datTo FL i 256⟩⟩], by omega, by go_num, HG9.out, HB9.out⟩
            case measure => simp [intOf]; omega
      · have q2 : decide (i < hn) = false := by simpa using hih
        have q2' : decide ((i : Int) < (hn : Int)) = false := by simpa using hih
        obtain ⟨w5, hw5⟩ : ∃ x, x = w4 := ⟨_, rfl⟩
        obtain ⟨hq, hqe⟩ : ∃ h : RH, h = ⟨4, 0, 0, 0, 0, i, 0⟩ := ⟨_, rfl⟩
        have hq1 : hq = hdrAt HL i := by rw [hqe]; unfold hdrAt; rw [if_neg (by rw [← HH.out.2.1]; exact hih)]
        have hq2 : hq.Fits := by rw [hq1]; exact hdrAt_fits HL i HH.out.2.2 (by omega)
        have hq3 : w5.heap[hb]? = some (.cells #[.int .u8 (hq.ki : Int), .int .u32 (hq.ep : Int), .int .u32 (hq.ba : Int), .int .u16 (hq.ix : Int), .int .u16 (hq.ct : Int), .int .u32 (hq.bl : Int), .int .u32 (hq.mo : Int)] 45 (0, 0)) := by
          rw [hw5, hqe]; exact HHB.out
        have hq4 : Below wr.heap.size wr w5 := by rw [hw5]; exact HW4.out.2
        rw [← hw5]
        rw [← hw5] at z3 z4
        clear hw5 hqe
        have HQ := Lib.hid (And.intro hq1 hq2)
        have HHQ := Lib.hid hq3
        have HB5 := Lib.hid hq4
        have HBW := Lib.hid (bel_trans HB.out hq4)
        obtain ⟨V, hV⟩ : ∃ x, x = wr := ⟨_, rfl⟩
        subst hV
        clear hq1 hq2 hq3 hq4
        go_wp2_with fail
        have HZ : Hid (Calls Try.prog 14 #[.int .i64 256] w5 (RetOwn w5 (List.replicate 256 0))) := Lib.hid (zeros_any 256 w5 (by omega))
        ((with_reducible refine HZ.out.mono ?_))
        rintro e w6 ⟨sv6, rfl, ho, hb6⟩
        obtain ⟨g, cap, rfl, hge, hgl, hO, hmx⟩ := ownB_of ho (by simp)
        rw [← datTo_zero FL i, datTo_len] at hO hmx ⊢
        have HO := Lib.hid hO
        have HB6 := Lib.hid hb6
        clear ho hO hb6
        go_upto_region 12 with fail
        go_loopw [8] (fun kv wi => ∃ k : Nat, k ≤ 256 ∧ kv = .int .i64 (k : Int) ∧ OwnB w5.heap.size wi g 256 cap (datTo FL i k) ∧ Below w5.heap.size w5 wi) (fun kv _ => (256 - intOf kv).toNat)
        case atStart => exact ⟨0, Nat.zero_le _, rfl, HO.out, HB6.out⟩
        case round =>
          obtain ⟨k, hk, rfl, hOk, hBk⟩ := hrel
          have HOK := Lib.hid hOk
          have HBK := Lib.hid hBk
          clear hOk hBk
          by_cases hk2 : k < 256
          · have q3 : decide ((k : Int) < 256) = true := by simp; omega
            have q3' : decide (k < 256) = true := by simpa using hk2
            have m0 : (0 : Int) ≤ (k : Int) := by omega
            have m1 : (k : Int) < 256 := by omega
            have d0 := ownB_cell HOK.out k hk2
            have df := ownB_frozen HOK.out k
            obtain ⟨y, hy⟩ : ∃ y, y = k * (i + 1) % 256 := ⟨_, rfl⟩
            have v0 := byt_wrap k i hk2 (by omega)
            rw [← hy] at v0
            have hy2 : y < 256 := by rw [hy]; exact Nat.mod_lt _ (by decide)
            have HY := Lib.hid hy
            have h7 := ownB_set HOK.out k y hy2
            have hb7 := HBK.out.setCell (p := ⟨g, k, none⟩) hge (.int .u8 (y : Int))
            have HI16 : Hid (i + 1 ≤ 7) := Lib.hid (by omega)
            clear hy
            go_upto_region 15 with fail
            rw [v0]
            obtain ⟨w7, hw7⟩ : ∃ x, x = wr.setCell ⟨g, k, none⟩ (.int .u8 (y : Int)) := ⟨_, rfl⟩
            rw [← hw7] at h7 hb7 ⊢
            have HO7 := Lib.hid h7
            have HB7 := Lib.hid hb7
            have HBX := Lib.hid (bel_trans HB3.out (bel_trans HBW.out hb7))
            clear hw7 h7 hb7 d0 df v0
            have z4 := (HX.out w7 HBX.out).2
            by_cases hif : i < fn
            · have q4 : decide (i < fn) = true := by simpa using hif
              have q4' : decide ((i : Int) < (fn : Int)) = true := by simpa using hif
              have i2 : (0 : Int) ≤ (i : Int) := by omega
              have i3 : (i : Int) < (fn : Int) := by omega
              obtain ⟨fb, fo, rfl, hfc⟩ := (row_keep HF.out (bel_trans HB1.out HBX.out) (Nat.le_refl _)).2.2 (by omega)
              have x0 := hfc i hif
              have d0 := ownB_cell HO7.out k hk2
              have df := ownB_frozen HO7.out k
              rw [set_getD _ _ _ (by rw [datTo_len]; exact hk2)] at d0
              obtain ⟨f, hf⟩ : ∃ f, f = FL.getD i 0 := ⟨_, rfl⟩
              rw [← hf] at x0
              have HFE := Lib.hid hf
              clear hfc hf
              have hsz : w.heap.size ≤ w5.heap.size := Nat.le_trans HB1.out.size (Nat.le_trans HB3.out.size HBW.out.size)
              have hn1 : fb ≠ g := by
                obtain ⟨b', o', e', hc'⟩ := HF.out.2.2 (by omega)
                cases e'
                have := World.block_lt_of_cell? w _ (hc' i hif)
                simp only at this
                omega
              have hn2 : xb ≠ g := by
                have h1 := World.block_lt_of_cell? w1 _ (HX.out w1 (Below.refl _ _)).2
                have h2 := HB3.out.size
                have h3 := HBW.out.size
                simp only at h1
                omega
              go_upto_region 16 with fail
              go_still_tail 13, (by kernel_rfl)
              change wpList _ _ _ _ _ w7.drew
              have hv := byt_add FL i k y f HY.out HFE.out
              rw [hv]
              have h8 := ownB_set HO7.out k (bytAt FL i k) (Nat.mod_lt _ (by decide))
              rw [List.set_set, datTo_set FL i k hk2] at h8
              have HR : Hid (OwnB w5.heap.size (w7.setCell ⟨g, k, none⟩ (.int .u8 (bytAt FL i k : Int))).drew g 256 cap (datTo FL i (k + 1))) := Lib.hid h8
              have HRB : Hid (Below w5.heap.size w5 (w7.setCell ⟨g, k, none⟩ (.int .u8 (bytAt FL i k : Int))).drew) := Lib.hid (HB7.out.setCell (p := ⟨g, k, none⟩) hge _).drew
              clear h8 hv x0
              go_wp2
              go_roundw
              case rel => exact ⟨k + 1, by omega, by go_num, HR.out, HRB.out⟩
              case measure => simp [intOf]; omega
            · have q4 : decide (i < fn) = false := by simpa using hif
              have q4' : decide ((i : Int) < (fn : Int)) = false := by simpa using hif
              have HR : Hid (OwnB w5.heap.size w7 g 256 cap (datTo FL i (k + 1))) := Lib.hid (by
                rw [← datTo_set FL i k hk2]
                have e : bytAt FL i k = y := by rw [HY.out]; exact byt_none FL k i (by rw [HF.out.1]; omega)
                rw [e]; exact HO7.out)
              go_wp2
              go_roundw
              case rel => exact ⟨k + 1, by omega, by go_num, HR.out, HB7.out⟩
              case measure => simp [intOf]; omega
          · obtain rfl : k = 256 := by omega
            have q3 : decide (((256 : Nat) : Int) < 256) = false := by simp
            obtain ⟨u0, u1, u2, u3, u4, u5, u6⟩ := hdr7_at ((HBK.out.block hb (Array.getElem?_eq_some_iff.1 HHQ.out).1).trans HHQ.out)
            have HE : Hid (PartOk wr ⟨some ⟨g, 0, none⟩, 256, cap, datTo FL i 256⟩) := Lib.hid (by
              refine ⟨row_ownB HOK.out, ?_, ?_, fun h => by cases h⟩
              · rcases HOK.out.1.1.2 with ⟨e, _⟩ | ⟨g', cap', cur, e, _, _, h1, _⟩
                · cases e
                · cases e
                  rw [HOK.out.2] at h1
                  exact h1
              · rcases HOK.out.1.1.2 with ⟨e, _⟩ | ⟨g', cap', cur, e, _, _, _, h2, _⟩
                · cases e
                · cases e; exact h2)
            have hGX := HP.out.step (bel_trans HB5.out HBK.out)
            have HGA := Lib.hid (hGX.step (bel_alloc (Below.refl _ wr) (.cells #[.int .u8 (hq.ki : Int), .int .u32 (hq.ep : Int), .int .u32 (hq.ba : Int), .int .u16 (hq.ix : Int), .int .u16 (hq.ct : Int), .int .u32 (hq.bl : Int), .int .u32 (hq.mo : Int), .slice (some ⟨g, 0, none⟩) 256 cap] 47)))
            have HEA := Lib.hid (HE.out.step (bel_alloc (Below.refl _ wr) (.cells #[.int .u8 (hq.ki : Int), .int .u32 (hq.ep : Int), .int .u32 (hq.ba : Int), .int .u16 (hq.ix : Int), .int .u16 (hq.ct : Int), .int .u32 (hq.bl : Int), .int .u32 (hq.mo : Int), .slice (some ⟨g, 0, none⟩) 256 cap] 47)))
            have HPA : Hid (SPat ⟨hq, ⟨some ⟨g, 0, none⟩, 256, cap, datTo FL i 256⟩⟩ wr.heap.size 0 (wr.alloc (.cells #[.int .u8 (hq.ki : Int), .int .u32 (hq.ep : Int), .int .u32 (hq.ba : Int), .int .u16 (hq.ix : Int), .int .u16 (hq.ct : Int), .int .u32 (hq.bl : Int), .int .u32 (hq.mo : Int), .slice (some ⟨g, 0, none⟩) 256 cap] 47))) := Lib.hid (by
              obtain ⟨a0, a1, a2, a3, a4, a5, a6, a7⟩ := eight_at (heap_alloc_new wr (.cells #[.int .u8 (hq.ki : Int), .int .u32 (hq.ep : Int), .int .u32 (hq.ba : Int), .int .u16 (hq.ix : Int), .int .u16 (hq.ct : Int), .int .u32 (hq.bl : Int), .int .u32 (hq.mo : Int), .slice (some ⟨g, 0, none⟩) 256 cap] 47))
              exact ⟨a0, a1, a2, a3, a4, a5, a6, a7⟩)
            have hgx : w5.heap.size ≤ g := hge
            have HBR := Lib.hid (bel_trans HBW.out HBK.out)
            have HBA := Lib.hid (bel_alloc HBR.out (.cells #[.int .u8 (hq.ki : Int), .int .u32 (hq.ep : Int), .int .u32 (hq.ba : Int), .int .u16 (hq.ix : Int), .int .u16 (hq.ct : Int), .int .u32 (hq.bl : Int), .int .u32 (hq.mo : Int), .slice (some ⟨g, 0, none⟩) 256 cap] 47))
            have HGE : Hid (V.heap.size ≤ g ∧ w3.heap.size ≤ g) := Lib.hid ⟨Nat.le_trans HB5.out.size hge, Nat.le_trans HBW.out.size hge⟩
            clear hGX hgx
            go_wp2_with (at_builtin; refine wpList_appSP 33 Try.underlying33 info_sp rfl _ _ rfl w3.heap.size _ L rfl HGA.out.1 wr.heap.size 1 ⟨hq, ⟨some ⟨g, 0, none⟩, 256, cap, datTo FL i 256⟩⟩ rfl HPA.out HBA.out.size (by rw [HGA.out.2.1]; omega) ?_)
            intro v' w9 hap
            have hfx := ownSP_apart HP.out.1 HGE.out.1
            have HG9 := Lib.hid (HGA.out.more (by omega) hap (by show (datTo FL i 256, hdrAt HL i) = (datTo FL i 256, hq); rw [HQ.out.1]) HEA.out rfl (fun x hx => by cases hx; exact HGE.out.2) hfx)
            have HB9 := Lib.hid (HBA.out.trans hap.below)
            clear hap hfx u0 u1 u2 u3 u4 u5 u6
            go_wp2
            go_roundw
            case rel => exact ⟨i + 1, L ++ [⟨hq, ⟨some ⟨g, 0, none⟩, 256, cap, datTo FL i 256⟩⟩], by omega, by go_num, HG9.out, HB9.out⟩
            case measure => simp [intOf]; omega
    · have q1 : decide ((i : Int) < (chipsOf c : Int) - 1) = false := by simp; omega
      have hie : i = chipsOf c - 1 := by omega
      have HIE := Lib.hid hie
      clear hie
      go_wp2
      go_ret
      have hg := HP.out
      rw [HIE.out] at hg
      refine ⟨_, L, rfl, ⟨?_, hg.2.1, fun j hj => ?_⟩, bel_trans HB1.out (bel_trans HB3.out HB.out)⟩
      · exact ownSP_mono hg.1 (Nat.le_trans HB1.out.size HB3.out.size)
      · obtain ⟨h2, h3, h4, h5, h6, h7⟩ := hg.2.2 j hj
        exact ⟨h2, h3, h4, h5, fun x hx => Nat.le_trans (Nat.le_trans HB1.out.size HB3.out.size) (h6 x hx), h7⟩
end Go.Proofs.Ytnhklomofebfaaa
