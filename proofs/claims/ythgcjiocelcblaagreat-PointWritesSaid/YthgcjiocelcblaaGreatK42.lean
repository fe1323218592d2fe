/- gabionlaw14.of: the document's point with the same numbers. -/
import Derived.Test.YthgcjiocelcblaaGreatK41
namespace Go.Proofs.YthgcjiocelcblaaGreat
open Go.RowKit

/-- A row of the call's own, of int64. -/
def valj (l : List Nat) : List Value := l.map fun (y : Nat) => Value.int .i64 (y : Int)
def OwnJ (B : Nat) (w : World) (v : Value) (l : List Nat) : Prop := w.ownsRow B 2 1 v l.length (valj l)
theorem ownJ_nil (B : Nat) (w : World) : OwnJ B w (.slice none 0 0) [] := World.ownsRow_nil w B _ 1
theorem ownJ_below {B : Nat} {w w' : World} {sv : Value} {L : List Nat} (h : OwnJ B w sv L) (hb : Below w.heap.size w w') : OwnJ B w' sv L :=
  h.kept (row := none) ⟨hb.os, hb.tape, hb.output, hb.size, fun b hb' _ => hb.block b hb'⟩ (by cases hv : sv.ownBlock <;> simp)
theorem ownJ_slice {B : Nat} {x : World} {v : Value} {l : List Nat} (h : OwnJ B x v l) : ∃ a n c, v = .slice a n c := by
  rcases h.2 with ⟨h0, _⟩ | ⟨g, c, _, h0, _⟩
  · exact ⟨_, _, _, h0⟩
  · exact ⟨_, _, _, h0⟩
theorem info_int64 : (Tryz.prog.info? 2).map (fun i => (i.zero, i.size, i.bytes)) = some (some (.int .i64 0), 1, 8) := by kernel_rfl
theorem pt_free {W : World} {b : Nat} {cs : Array Value} {t : TypeId} (h : W.heap[b]? = some (.cells cs t (0, 0))) (o : Nat) : W.frozen? ⟨b, o, none⟩ = false := by
  simp [World.frozen?, h]
theorem pt_apart {v v2 : Value} {C : Nat} (h : ∀ q, v.ownBlock = some q → q < C) (h2 : ∀ q, v2.ownBlock = some q → C ≤ q) : v.ownBlock = none ∨ v.ownBlock ≠ v2.ownBlock := by
  cases hv : v.ownBlock with
  | none => exact .inl rfl
  | some q =>
    refine .inr fun e => ?_
    have h3 := h q hv
    have h4 := h2 q e.symm
    omega
theorem ownJ_row {B : Nat} {x : World} {v : Value} {l : List Nat} (h : OwnJ B x v l) (hb : ∀ y ∈ l, y < 4294967296) : ∃ a c, v = .slice a l.length c ∧ RowK .i64 4294967296 x a l.length l := by
  obtain ⟨_, h⟩ := h
  rcases h with ⟨rfl, h0⟩ | ⟨g, cap, cur, rfl, _, hg, hc, hm, hs, ht⟩
  · exact ⟨none, 0, by rw [h0], ⟨rfl, hb, fun h => by omega⟩⟩
  · refine ⟨_, cap, rfl, ⟨rfl, hb, fun _ => ⟨g, 0, rfl, fun i hi => ?_⟩⟩⟩
    have h1 : x.cell? ⟨g, 0 + i, none⟩ = cur[i]? := by simp [World.cell?, hg]
    have h2 : cur[i]? = (cur.toList.take (l.length * 1))[i]? := by
      rw [List.getElem?_take_of_lt (by omega), Array.getElem?_toList]
    rw [h1, h2, ht]
    unfold valj
    rw [List.getElem?_map, List.getElem?_eq_getElem hi, getD_in _ _ hi]
    rfl
theorem pt_put4 {W : World} {b : Nat} {u0 u1 u2 u3 : Value} {t : TypeId} (h : W.heap[b]? = some (.cells #[u0, u1, u2, u3] t (0, 0))) (v0 v1 v2 v3 : Value) :
    ((((W.setCell ⟨b, 0, none⟩ v0).setCell ⟨b, 1, none⟩ v1).setCell ⟨b, 2, none⟩ v2).setCell ⟨b, 3, none⟩ v3).heap[b]? = some (.cells #[v0, v1, v2, v3] t (0, 0)) := by
  have e0 : (W.setCell ⟨b, 0, none⟩ v0).heap[b]? = some (.cells #[v0, u1, u2, u3] t (0, 0)) := by simpa using heap_setCell_same W b 0 _ _ v0 h
  have e1 : ((W.setCell ⟨b, 0, none⟩ v0).setCell ⟨b, 1, none⟩ v1).heap[b]? = some (.cells #[v0, v1, u2, u3] t (0, 0)) := by simpa using heap_setCell_same _ b 1 _ _ v1 e0
  have e2 : (((W.setCell ⟨b, 0, none⟩ v0).setCell ⟨b, 1, none⟩ v1).setCell ⟨b, 2, none⟩ v2).heap[b]? = some (.cells #[v0, v1, v2, u3] t (0, 0)) := by simpa using heap_setCell_same _ b 2 _ _ v2 e1
  simpa using heap_setCell_same _ b 3 _ _ v3 e2
theorem pt_step {x y : World} {B o : Nat} {v : Value} (h : x.cell? ⟨B, o, none⟩ = some v) (hb : Below x.heap.size x y) : y.cell? ⟨B, o, none⟩ = some v := by
  rw [World.cell?_of_block (hb.block B (World.block_lt_of_cell? x ⟨B, o, none⟩ h))]
  exact h
set_option maxRecDepth 100000 in
set_option maxHeartbeats 4000000 in
theorem ptOf_any (sq ba : Nat) (ma : Option Addr) (mn mc : Nat) (ml : List Nat) (ea : Option Addr) (en ec : Nat) (el : List Nat) (w : World) (h : PT.Ok ⟨sq, ba, ma, mn, mc, ml, ea, en, ec, el⟩ w) (hm : mn ≤ 1000) (he : en ≤ 1000) :
    Calls Tryz.prog 15 #[.agg #[.int .u32 (sq : Int), .int .u32 (ba : Int), .slice ma mn mc, .slice ea en ec]] w fun e w' => ∃ a c a2 c2, e = .returned (.agg #[.int .i64 (sq : Int), .int .i64 (ba : Int), .slice a mn c, .slice a2 en c2]) ∧ RowK .i64 4294967296 w' a mn ml ∧ RowK .i64 4294967296 w' a2 en el ∧ Below w.heap.size w w' := by
  have hsq := h.sq_
  have hba := h.ba_
  simp only [] at hsq hba
  have m1 : IntKind.i64.wrap (sq : Int) = (sq : Int) := by rw [IntKind.wrap_i64]; omega
  have m2 : IntKind.i64.wrap (ba : Int) = (ba : Int) := by rw [IntKind.wrap_i64]; omega
  have HOK := Lib.hid h
  have HL := Lib.hid (And.intro hm he)
  clear h hm he hsq hba
  obtain ⟨i0, hi, hz0, hz1, hz2⟩ := info_parts info_int64
  have HI := Lib.hid (And.intro hi (And.intro hz0 (And.intro hz1 hz2)))
  clear hi hz0 hz1 hz2
  go_enter Tryz.func15, Tryz.ntmps15
  go_upto_region 2 with fail
  obtain ⟨W, hW⟩ : ∃ x, x = ((w.alloc (.cells #[.int .u32 (sq : Int), .int .u32 (ba : Int), .slice ma mn mc, .slice ea en ec] 25)).alloc (.cells #[.int .i64 0, .int .i64 0, .slice none 0 0, .slice none 0 0] 39)).alloc (.cells #[.int .i64 (sq : Int), .int .i64 (ba : Int), .slice none 0 0, .slice none 0 0] 39) := ⟨_, rfl⟩
  obtain ⟨b, hb⟩ : ∃ x, x = w.heap.size := ⟨_, rfl⟩
  obtain ⟨p, hp⟩ : ∃ x, x = b + 1 + 1 := ⟨_, rfl⟩
  have hBW : Below w.heap.size w W := by rw [hW]; exact bel_alloc (bel_alloc (bel_alloc (Below.refl _ w) _) _) _
  have hsz : W.heap.size = p + 1 := by rw [hW, hp, hb]; simp
  have q0 : W.heap[b]? = some (.cells #[.int .u32 (sq : Int), .int .u32 (ba : Int), .slice ma mn mc, .slice ea en ec] 25 (0, 0)) := by
    rw [hW, hb]
    exact ((bel_alloc (bel_alloc (Below.refl _ (w.alloc (.cells #[.int .u32 (sq : Int), .int .u32 (ba : Int), .slice ma mn mc, .slice ea en ec] 25))) _) _).block _ (by simp)).trans (heap_alloc_new w _)
  have q1 : W.heap[b + 1]? = some (.cells #[.int .i64 0, .int .i64 0, .slice none 0 0, .slice none 0 0] 39 (0, 0)) := by
    rw [hW, hb]
    have e := heap_alloc_new (w.alloc (.cells #[.int .u32 (sq : Int), .int .u32 (ba : Int), .slice ma mn mc, .slice ea en ec] 25)) (.cells #[.int .i64 0, .int .i64 0, .slice none 0 0, .slice none 0 0] 39)
    rw [show (w.alloc (.cells #[.int .u32 (sq : Int), .int .u32 (ba : Int), .slice ma mn mc, .slice ea en ec] 25)).heap.size = w.heap.size + 1 by simp] at e
    exact ((bel_alloc (Below.refl _ ((w.alloc (.cells #[.int .u32 (sq : Int), .int .u32 (ba : Int), .slice ma mn mc, .slice ea en ec] 25)).alloc (.cells #[.int .i64 0, .int .i64 0, .slice none 0 0, .slice none 0 0] 39))) _).block _ (by simp)).trans e
  have q2 : W.heap[p]? = some (.cells #[.int .i64 (sq : Int), .int .i64 (ba : Int), .slice none 0 0, .slice none 0 0] 39 (0, 0)) := by
    rw [hW, hp, hb]
    have e := heap_alloc_new ((w.alloc (.cells #[.int .u32 (sq : Int), .int .u32 (ba : Int), .slice ma mn mc, .slice ea en ec] 25)).alloc (.cells #[.int .i64 0, .int .i64 0, .slice none 0 0, .slice none 0 0] 39)) (.cells #[.int .i64 (sq : Int), .int .i64 (ba : Int), .slice none 0 0, .slice none 0 0] 39)
    rw [show ((w.alloc (.cells #[.int .u32 (sq : Int), .int .u32 (ba : Int), .slice ma mn mc, .slice ea en ec] 25)).alloc (.cells #[.int .i64 0, .int .i64 0, .slice none 0 0, .slice none 0 0] 39)).heap.size = w.heap.size + 1 + 1 by simp] at e
    exact e
  rw [← hW, ← hb, ← hp]
  have HWP : Hid (w.heap.size ≤ p ∧ W.heap.size = p + 1 ∧ b + 1 < p ∧ w.heap.size ≤ b) := Lib.hid ⟨by omega, hsz, by omega, by omega⟩
  have HX : Hid (∀ x : World, Below p W x → (x.cell? ⟨b, 2, none⟩ = some (.slice ma mn mc) ∧ x.cell? ⟨b, 3, none⟩ = some (.slice ea en ec)) ∧ RowK .u32 4294967296 x ma mn ml ∧ RowK .u32 4294967296 x ea en el ∧ Below w.heap.size w x ∧ x.heap[b + 1]? = some (.cells #[.int .i64 0, .int .i64 0, .slice none 0 0, .slice none 0 0] 39 (0, 0))) := Lib.hid fun x hx => by
    have hbx : Below w.heap.size w x := hBW.trans (hx.mono (by omega))
    have hf := pt_four ((hx.block b (by omega)).trans q0)
    exact ⟨⟨hf.2.2.1, hf.2.2.2⟩, rowK_below HOK.out.ml_ hbx, rowK_below HOK.out.el_ hbx, hbx, (hx.block _ (by omega)).trans q1⟩
  have HQ2 := Lib.hid q2
  have HML : Hid (ml.length = mn ∧ el.length = en) := Lib.hid ⟨HOK.out.ml_.1, HOK.out.el_.1⟩
  clear hW hb hp hBW hsz q0 q1 q2 HOK m1 m2
  go_wp2_with fail
  go_loopw [4] (fun iv wr => ∃ (k : Nat) (v : Value), k ≤ mn ∧ iv = .int .i64 (k : Int) ∧ OwnJ (p + 1) wr v (ml.take k) ∧ wr.heap[p]? = some (.cells #[.int .i64 (sq : Int), .int .i64 (ba : Int), v, .slice none 0 0] 39 (0, 0)) ∧ Below p W wr) (fun iv _ => mn - (intOf iv).toNat)
  case atStart => exact ⟨0, _, Nat.zero_le _, rfl, ownJ_nil _ _, HQ2.out, Below.refl _ _⟩
  case round =>
    obtain ⟨k, v, hk, rfl, hO, hH, hB⟩ := hrel
    obtain ⟨va, vn, vc, rfl⟩ := ownJ_slice hO
    have HO := Lib.hid hO
    have HH := Lib.hid hH
    have HB := Lib.hid hB
    obtain ⟨⟨z2, z3⟩, hrM, -, -, -⟩ := HX.out wr hB
    clear hO hH hB
    by_cases hlt : k < mn
    · have t1 : decide (k < mn) = true := by simpa using hlt
      have k9 : k < 1000 := by have := HL.out; omega
      obtain ⟨eb, eo, x, rfl, hck, hx, hxg⟩ := rowK_cell hrM hlt
      have hwx : IntKind.i64.wrap (x : Int) = (x : Int) := by rw [IntKind.wrap_i64]; omega
      have HTK : Hid (valj (ml.take (k + 1)) = valj (ml.take k) ++ [.int .i64 (x : Int)] ∧ (ml.take (k + 1)).length = k + 1) := Lib.hid ⟨by
        rw [take_snoc_getD _ k (by rw [HML.out.1]; exact hlt), ← hxg.out]; simp [valj], by rw [List.length_take, HML.out.1]; omega⟩
      have HTL : Hid ((ml.take k).length = k) := Lib.hid (by rw [List.length_take, HML.out.1]; omega)
      have z1 : wr.cell? ⟨p, 2, none⟩ = some (.slice va vn vc) := (pt_four HH.out).2.2.1
      have z1a := pt_step z1 (bel_alloc (Below.refl _ wr) (.cells #[.int .i64 (x : Int)] 2))
      have hck2 := pt_step hck (bel_alloc (Below.refl _ wr) (.cells #[.int .i64 (x : Int)] 2))
      have z2a := pt_step z2 (bel_alloc (Below.refl _ wr) (.cells #[.int .i64 (x : Int)] 2))
      have hps : p < wr.heap.size := (Array.getElem?_eq_some_iff.1 HH.out).1
      have hs1 : p + 1 ≤ wr.heap.size := hps
      have hown : (wr.alloc (.cells #[.int .i64 (x : Int)] 2)).drew.ownsRow (p + 1) 2 1 (.slice va vn vc) k (valj (ml.take k)) := by
        have := ownJ_below HO.out (bel_alloc (Below.refl _ wr) (.cells #[.int .i64 (x : Int)] 2)).drew
        unfold OwnJ at this
        rw [HTL.out] at this
        exact this
      have hkH : (wr.alloc (.cells #[.int .i64 (x : Int)] 2)).drew.heap.size = wr.heap.size + 1 := by simp
      have HK : Hid (k + 1 ≤ maxLen ∧ (k + 1) * 8 ≤ 140737488355328 ∧ (wr.alloc (.cells #[.int .i64 (x : Int)] 2)).drew.heap.size = wr.heap.size + 1 ∧ p + 1 ≤ (wr.alloc (.cells #[.int .i64 (x : Int)] 2)).drew.heap.size) := Lib.hid ⟨by unfold maxLen; clear hwx; omega, by clear hwx; omega, hkH, by rw [hkH]; exact Nat.le_succ_of_le hs1⟩
      have i0' : (0 : Int) ≤ (k : Int) := by clear hwx; omega
      have i1' : (k : Int) < (mn : Int) := by clear hwx; omega
      obtain ⟨hi, hz0, hz1, hz2⟩ := HI.out
      clear hkH hrM hx
      go_upto_region 5 with fail
      go_region_law (refine step_append_lies _ (by rfl) _ _ _ (by rfl) (p + 1) 2 i0 _ 1 8 Tryz.underlying37 hi hz0 hz1 hz2 rfl (by decide) _ k _ (by rfl) hown ⟨wr.heap.size, 0, none⟩ 1 1 [.int .i64 (x : Int)] (by rfl) (by rfl) (World.news_of_block (cs := #[.int .i64 (x : Int)]) (t := 2) (fr := (0, 0)) (heap_alloc_new wr _)) (by simp [Value.oneCell']) Nat.one_pos HK.out.1 HK.out.2.1 HK.out.2.2.2 (wr.heap.size + 1) HK.out.2.2.1 ?_; intro g2 c2' w5 hown1 hgrow hat hlt3; have hb5 : Below (p + 1) wr w5 := ((Below.refl (p + 1) wr).alloc hs1 _).drew.trans ((Below.refl (p + 1) _).grown hgrow HK.out.2.2.2 (fun q hq => (hown.lt q hq).1)); have h5 : w5.heap[p]? = some (.cells #[.int .i64 (sq : Int), .int .i64 (ba : Int), .slice va vn vc, .slice none 0 0] 39 (0, 0)) := (hb5.block p (Nat.lt_succ_self p)).trans HH.out; have H5 := Lib.hid h5; have HB5 := Lib.hid hb5; have z1b := (pt_four h5).2.2.1; have zf := pt_free h5 2; clear h5 hgrow hat hb5)
      all_goals
        have hN : Hid (OwnJ (p + 1) (w5.setCell ⟨p, 2, none⟩ (.slice (some ⟨g2, 0, none⟩) (k + 1) c2')) (.slice (some ⟨g2, 0, none⟩) (k + 1) c2') (ml.take (k + 1)) ∧ (w5.setCell ⟨p, 2, none⟩ (.slice (some ⟨g2, 0, none⟩) (k + 1) c2')).heap[p]? = some (.cells #[.int .i64 (sq : Int), .int .i64 (ba : Int), .slice (some ⟨g2, 0, none⟩) (k + 1) c2', .slice none 0 0] 39 (0, 0)) ∧ Below p W (w5.setCell ⟨p, 2, none⟩ (.slice (some ⟨g2, 0, none⟩) (k + 1) c2'))) := Lib.hid ⟨by
          unfold OwnJ
          rw [HTK.out.1, HTK.out.2]
          exact ownsRow_setCell_below (a := ⟨p, 2, none⟩) hown1 (Nat.lt_succ_self p) _, by
          have := heap_setCell_same w5 p 2 _ _ (.slice (some ⟨g2, 0, none⟩) (k + 1) c2') H5.out
          simpa using this, (HB.out.trans (HB5.out.mono (Nat.le_succ p))).setCell (p := ⟨p, 2, none⟩) (Nat.le_refl p) _⟩
        clear hown hown1 hlt3 z1 z1a z1b zf hi hz0 hz1 hz2 hck hck2 hwx z2 z2a z3
        go_wp2_with fail
        go_roundw
        case rel => exact ⟨k + 1, _, by omega, by go_num, hN.out.1, hN.out.2.1, hN.out.2.2⟩
        case measure => simp [intOf]; omega
    · obtain rfl : k = mn := by omega
      have t1 : decide (k < k) = false := by simp
      have ho := HO.out
      rw [List.take_of_length_le (by rw [HML.out.1]; exact Nat.le_refl _)] at ho
      have HMO := Lib.hid ho
      have HVS : Hid (∀ q, (Value.slice va vn vc).ownBlock = some q → q < wr.heap.size) := Lib.hid fun q hq => (ho.lt q hq).2
      obtain ⟨C, hC⟩ : ∃ x, x = wr.heap.size := ⟨_, rfl⟩
      rw [← hC] at HVS
      have HPC : Hid (p + 1 ≤ C) := Lib.hid (by rw [hC]; exact (Array.getElem?_eq_some_iff.1 HH.out).1)
      have HCC : Hid (C ≤ wr.heap.size) := Lib.hid (by rw [hC]; exact Nat.le_refl _)
      clear ho hC HO
      go_wp2_with fail
      go_loopw [5] (fun iv wr => ∃ (j : Nat) (v : Value), j ≤ en ∧ iv = .int .i64 (j : Int) ∧ OwnJ C wr v (el.take j) ∧ OwnJ (p + 1) wr (.slice va vn vc) ml ∧ wr.heap[p]? = some (.cells #[.int .i64 (sq : Int), .int .i64 (ba : Int), .slice va vn vc, v] 39 (0, 0)) ∧ Below p W wr ∧ C ≤ wr.heap.size) (fun iv _ => en - (intOf iv).toNat)
      case atStart => exact ⟨0, _, Nat.zero_le _, rfl, ownJ_nil _ _, HMO.out, HH.out, HB.out, HCC.out⟩
      case round =>
        clear z2 z3 hrM hk hlt t1 HH HB HCC HMO
        obtain ⟨j, v, hj, rfl, hO, hM, hH, hB, hc⟩ := hrel
        obtain ⟨fa, fn, fc, rfl⟩ := ownJ_slice hO
        have HO := Lib.hid hO
        have HM := Lib.hid hM
        have HH := Lib.hid hH
        have HB := Lib.hid hB
        have HC := Lib.hid hc
        obtain ⟨⟨z2, z3⟩, -, hrE, -, -⟩ := HX.out wr hB
        clear hO hM hH hB hc
        by_cases hlt : j < en
        · have t1 : decide (j < en) = true := by simpa using hlt
          have k9 : j < 1000 := by have := HL.out; omega
          obtain ⟨eb, eo, x, rfl, hck, hx, hxg⟩ := rowK_cell hrE hlt
          have hwx : IntKind.i64.wrap (x : Int) = (x : Int) := by rw [IntKind.wrap_i64]; omega
          have HTK : Hid (valj (el.take (j + 1)) = valj (el.take j) ++ [.int .i64 (x : Int)] ∧ (el.take (j + 1)).length = j + 1) := Lib.hid ⟨by
            rw [take_snoc_getD _ j (by rw [HML.out.2]; exact hlt), ← hxg.out]; simp [valj], by rw [List.length_take, HML.out.2]; omega⟩
          have HTL : Hid ((el.take j).length = j) := Lib.hid (by rw [List.length_take, HML.out.2]; omega)
          have z1 : wr.cell? ⟨p, 3, none⟩ = some (.slice fa fn fc) := (pt_four HH.out).2.2.2
          have z1a := pt_step z1 (bel_alloc (Below.refl _ wr) (.cells #[.int .i64 (x : Int)] 2))
          have hck2 := pt_step hck (bel_alloc (Below.refl _ wr) (.cells #[.int .i64 (x : Int)] 2))
          have z3a := pt_step z3 (bel_alloc (Below.refl _ wr) (.cells #[.int .i64 (x : Int)] 2))
          have hs1 : C ≤ wr.heap.size := HC.out
          have hpC : p < C := HPC.out
          have hown : (wr.alloc (.cells #[.int .i64 (x : Int)] 2)).drew.ownsRow C 2 1 (.slice fa fn fc) j (valj (el.take j)) := by
            have := ownJ_below HO.out (bel_alloc (Below.refl _ wr) (.cells #[.int .i64 (x : Int)] 2)).drew
            unfold OwnJ at this
            rw [HTL.out] at this
            exact this
          have hkH : (wr.alloc (.cells #[.int .i64 (x : Int)] 2)).drew.heap.size = wr.heap.size + 1 := by simp
          have HK : Hid (j + 1 ≤ maxLen ∧ (j + 1) * 8 ≤ 140737488355328 ∧ (wr.alloc (.cells #[.int .i64 (x : Int)] 2)).drew.heap.size = wr.heap.size + 1 ∧ C ≤ (wr.alloc (.cells #[.int .i64 (x : Int)] 2)).drew.heap.size) := Lib.hid ⟨by unfold maxLen; clear hwx; omega, by clear hwx; omega, hkH, by rw [hkH]; exact Nat.le_succ_of_le hs1⟩
          have HMA : Hid (OwnJ (p + 1) (wr.alloc (.cells #[.int .i64 (x : Int)] 2)).drew (.slice va vn vc) ml) := Lib.hid (ownJ_below HM.out (bel_alloc (Below.refl _ wr) (.cells #[.int .i64 (x : Int)] 2)).drew)
          have i0' : (0 : Int) ≤ (j : Int) := by clear hwx; omega
          have i1' : (j : Int) < (en : Int) := by clear hwx; omega
          obtain ⟨hi, hz0, hz1, hz2⟩ := HI.out
          clear hkH hrE hx z2
          go_upto_region 9 with fail
          go_region_law (refine step_append_lies _ (by rfl) _ _ _ (by rfl) C 2 i0 _ 1 8 Tryz.underlying37 hi hz0 hz1 hz2 rfl (by decide) _ j _ (by rfl) hown ⟨wr.heap.size, 0, none⟩ 1 1 [.int .i64 (x : Int)] (by rfl) (by rfl) (World.news_of_block (cs := #[.int .i64 (x : Int)]) (t := 2) (fr := (0, 0)) (heap_alloc_new wr _)) (by simp [Value.oneCell']) Nat.one_pos HK.out.1 HK.out.2.1 HK.out.2.2.2 (wr.heap.size + 1) HK.out.2.2.1 ?_; intro g2 c2' w5 hown1 hgrow hat hlt3; have HM5 : Hid (OwnJ (p + 1) w5 (.slice va vn vc) ml) := Lib.hid (HMA.out.kept hgrow (pt_apart HVS.out fun q hq => (hown.lt q hq).1)); have hb5 : Below C wr w5 := ((Below.refl C wr).alloc hs1 _).drew.trans ((Below.refl C _).grown hgrow HK.out.2.2.2 (fun q hq => (hown.lt q hq).1)); have h5 : w5.heap[p]? = some (.cells #[.int .i64 (sq : Int), .int .i64 (ba : Int), .slice va vn vc, .slice fa fn fc] 39 (0, 0)) := (hb5.block p hpC).trans HH.out; have H5 := Lib.hid h5; have HB5 := Lib.hid hb5; have z1b := (pt_four h5).2.2.2; have zf := pt_free h5 3; clear h5 hgrow hat hb5)
          all_goals
            have hN : Hid (OwnJ C (w5.setCell ⟨p, 3, none⟩ (.slice (some ⟨g2, 0, none⟩) (j + 1) c2')) (.slice (some ⟨g2, 0, none⟩) (j + 1) c2') (el.take (j + 1)) ∧ OwnJ (p + 1) (w5.setCell ⟨p, 3, none⟩ (.slice (some ⟨g2, 0, none⟩) (j + 1) c2')) (.slice va vn vc) ml ∧ (w5.setCell ⟨p, 3, none⟩ (.slice (some ⟨g2, 0, none⟩) (j + 1) c2')).heap[p]? = some (.cells #[.int .i64 (sq : Int), .int .i64 (ba : Int), .slice va vn vc, .slice (some ⟨g2, 0, none⟩) (j + 1) c2'] 39 (0, 0)) ∧ Below p wr (w5.setCell ⟨p, 3, none⟩ (.slice (some ⟨g2, 0, none⟩) (j + 1) c2'))) := Lib.hid ⟨by
              unfold OwnJ
              rw [HTK.out.1, HTK.out.2]
              exact ownsRow_setCell_below (a := ⟨p, 3, none⟩) hown1 hpC _, ownsRow_setCell_below (a := ⟨p, 3, none⟩) HM5.out (Nat.lt_succ_self p) _, by
              have := heap_setCell_same w5 p 3 _ _ (.slice (some ⟨g2, 0, none⟩) (j + 1) c2') H5.out
              simpa using this, (HB5.out.mono (Nat.le_of_lt hpC)).setCell (p := ⟨p, 3, none⟩) (Nat.le_refl p) _⟩
            clear hown hown1 hlt3 z1 z1a z1b zf hi hz0 hz1 hz2 hck hck2 hwx z3 z3a
            go_wp2_with fail
            go_roundw
            case rel => exact ⟨j + 1, _, by omega, by go_num, hN.out.1, hN.out.2.1, hN.out.2.2.1, HB.out.trans hN.out.2.2.2, Nat.le_trans HC.out hN.out.2.2.2.size⟩
            case measure => simp [intOf]; omega
        · obtain rfl : j = en := by omega
          have t1 : decide (j < j) = false := by simp
          have ho := HO.out
          rw [List.take_of_length_le (by rw [HML.out.2]; exact Nat.le_refl _)] at ho
          have HOE := Lib.hid ho
          obtain ⟨d0, d1, d2, d3⟩ := pt_four HH.out
          obtain ⟨y0, y1, y2, y3⟩ := pt_four (HX.out wr HB.out).2.2.2.2
          have yf := pt_free (HX.out wr HB.out).2.2.2.2
          have f0 := yf 0
          have f1 := yf 1
          have f2 := yf 2
          have f3 := yf 3
          clear ho HO yf z2 hrE
          go_wp2_with fail
          have hb0 : b + 1 < p + 1 := Nat.lt_succ_of_lt HWP.out.2.2.1
          have hbC : b + 1 < C := Nat.lt_of_lt_of_le hb0 HPC.out
          have hbw : w.heap.size ≤ b + 1 := Nat.le_succ_of_le HWP.out.2.2.2
          obtain ⟨r0, r1, r2, r3⟩ := pt_four (pt_put4 (HX.out wr HB.out).2.2.2.2 (.int .i64 (sq : Int)) (.int .i64 (ba : Int)) (.slice va vn vc) (.slice fa fn fc))
          have hMZ : OwnJ (p + 1) ((((wr.setCell ⟨b + 1, 0, none⟩ (.int .i64 (sq : Int))).setCell ⟨b + 1, 1, none⟩ (.int .i64 (ba : Int))).setCell ⟨b + 1, 2, none⟩ (.slice va vn vc)).setCell ⟨b + 1, 3, none⟩ (.slice fa fn fc)) (.slice va vn vc) ml := ownsRow_setCell_below (a := ⟨b + 1, 3, none⟩) (ownsRow_setCell_below (a := ⟨b + 1, 2, none⟩) (ownsRow_setCell_below (a := ⟨b + 1, 1, none⟩) (ownsRow_setCell_below (a := ⟨b + 1, 0, none⟩) HM.out hb0 _) hb0 _) hb0 _) hb0 _
          have hEZ : OwnJ C ((((wr.setCell ⟨b + 1, 0, none⟩ (.int .i64 (sq : Int))).setCell ⟨b + 1, 1, none⟩ (.int .i64 (ba : Int))).setCell ⟨b + 1, 2, none⟩ (.slice va vn vc)).setCell ⟨b + 1, 3, none⟩ (.slice fa fn fc)) (.slice fa fn fc) el := ownsRow_setCell_below (a := ⟨b + 1, 3, none⟩) (ownsRow_setCell_below (a := ⟨b + 1, 2, none⟩) (ownsRow_setCell_below (a := ⟨b + 1, 1, none⟩) (ownsRow_setCell_below (a := ⟨b + 1, 0, none⟩) HOE.out hbC _) hbC _) hbC _) hbC _
          have hBZ : Below w.heap.size w ((((wr.setCell ⟨b + 1, 0, none⟩ (.int .i64 (sq : Int))).setCell ⟨b + 1, 1, none⟩ (.int .i64 (ba : Int))).setCell ⟨b + 1, 2, none⟩ (.slice va vn vc)).setCell ⟨b + 1, 3, none⟩ (.slice fa fn fc)) := ((((HX.out wr HB.out).2.2.2.1.setCell (p := ⟨b + 1, 0, none⟩) hbw _).setCell (p := ⟨b + 1, 1, none⟩) hbw _).setCell (p := ⟨b + 1, 2, none⟩) hbw _).setCell (p := ⟨b + 1, 3, none⟩) hbw _
          obtain ⟨a1, c1, e1, hr1⟩ := ownJ_row hMZ (HX.out wr HB.out).2.1.2.1
          obtain ⟨a2, c2, e2, hr2⟩ := ownJ_row hEZ (HX.out wr HB.out).2.2.1.2.1
          rw [HML.out.1] at e1 hr1
          rw [HML.out.2] at e2 hr2
          refine bodyPost_ret (v := .agg #[.int .i64 (sq : Int), .int .i64 (ba : Int), .slice va vn vc, .slice fa fn fc]) ?_ rfl ⟨a1, c1, a2, c2, by rw [e1, e2], hr1, hr2, hBZ⟩
          simp [results, Tryz.results15, go_sem, r0, r1, r2, r3]
end Go.Proofs.YthgcjiocelcblaaGreat
