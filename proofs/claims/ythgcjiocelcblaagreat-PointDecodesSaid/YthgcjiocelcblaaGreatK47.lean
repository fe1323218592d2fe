/- Parts of the proof: PtDecIs, PtDecodes, PtInC. -/
import Derived.Test.YthgcjiocelcblaaGreatK44
import Derived.Test.YthgcjiocelcblaaGreatK46
import Derived.Test.YthgcjiocelcblaaGreatK45
namespace Go.Proofs.YthgcjiocelcblaaGreat
open Go.RowKit Go.Deep

/-- What the two Decodes say of some bytes. -/
structure DecIs (bs : List Nat) (sq ba : Nat) (ml el : List Nat) (ee : Nat) : Prop where
  sq_ : sq < 4294967296
  ba_ : ba < 4294967296
  ml_ : ∀ y ∈ ml, y < 4294967296
  el_ : ∀ y ∈ el, y < 4294967296
  mlen : ml.length ≤ 1000
  elen : el.length ≤ 1000
  prog : ∀ (w : World) (a : Option Addr) (n c : Nat), Row w a n bs → (a = none → c = 0) → Calls Tryz.prog 11 #[.slice a n c] w fun e w' => Below w.heap.size w w' ∧ ∃ v1 v2, e = .returned (.tuple #[.agg #[.int .u32 (sq : Int), .int .u32 (ba : Int), v1, v2], .int .i64 (ee : Int)]) ∧ OwnU w.heap.size w' v1 ml ∧ OwnU w.heap.size w' v2 el
  doc : ∀ (w : World) (a : Option Addr) (n c : Nat), Row w a n bs → n ≤ c → Calls Tryz.prog 17 #[.slice a n c] w fun e w' => Below w.heap.size w w' ∧ ∃ v1 v2, e = .returned (.tuple #[.agg #[.int .i64 (sq : Int), .int .i64 (ba : Int), v1, v2], .int .i64 (ee : Int)]) ∧ OwnJ w.heap.size w' v1 ml ∧ OwnJ w.heap.size w' v2 el
theorem dec_is (bs : List Nat) (hl : bs.length ≤ 3000) (hb : ∀ y ∈ bs, y < 256) : ∃ sq ba ml el ee, DecIs bs sq ba ml el ee := by
  have hlt : ∀ k, ptN bs k < 4294967296 := fun k => by
    unfold ptN
    have h1 := leVal_lt ((bs.drop (4 * k)).take 4) (fun y hy => hb y (List.mem_of_mem_drop (List.mem_of_mem_take hy)))
    have h2 : ((bs.drop (4 * k)).take 4).length ≤ 4 := by rw [List.length_take]; exact Nat.min_le_left _ _
    exact Nat.lt_of_lt_of_le h1 (Nat.pow_le_pow_right (by decide) h2 : 256 ^ _ ≤ 256 ^ 4)
  have hby : ∀ z k, ∀ y ∈ numsU bs z k, y < 4294967296 := fun z k y hy => by
    unfold numsU at hy
    rw [List.mem_map] at hy
    obtain ⟨i, _, rfl⟩ := hy
    have h1 := leVal_lt ((bs.drop (z + 4 * i)).take 4) (fun y hy => hb y (List.mem_of_mem_drop (List.mem_of_mem_take hy)))
    have h2 : ((bs.drop (z + 4 * i)).take 4).length ≤ 4 := by rw [List.length_take]; exact Nat.min_le_left _ _
    exact Nat.lt_of_lt_of_le h1 (Nat.pow_le_pow_right (by decide) h2 : 256 ^ _ ≤ 256 ^ 4)
  by_cases hf : ptFits bs
  · by_cases hz : zeros (bs.drop (16 + 4 * ptN bs 2 + 4 * ptN bs 3)) = true
    · have hf2 := hf
      unfold ptFits at hf2
      refine ⟨_, _, _, _, 0, hlt 0, hlt 1, hby 16 (ptN bs 2), hby (16 + 4 * ptN bs 2) (ptN bs 3), by rw [numsU_len]; omega, by rw [numsU_len]; omega, fun w a n c hr hn => ?_, fun w a n c hr hc => ?_⟩
      · refine (ptDecode_ok a n c bs w hr hn (by rw [← hr.1]; omega) hf).mono fun e w' h => ⟨h.1, ?_⟩
        rcases h.2 with ⟨h2, _⟩ | ⟨_, h2⟩
        · rw [hz] at h2; cases h2
        · exact h2
      · refine (ptRefDec_ok a n c bs w hr (by rw [← hr.1]; omega) (by rw [← hr.1]; omega) (by rw [← hr.1]; omega) hc).mono fun e w' h => ⟨h.1, ?_⟩
        rcases h.2 with ⟨h2, _⟩ | ⟨_, h2⟩
        · rw [hz] at h2; cases h2
        · exact h2
    · have hz' : zeros (bs.drop (16 + 4 * ptN bs 2 + 4 * ptN bs 3)) = false := by simpa using hz
      have hf2 := hf
      unfold ptFits at hf2
      refine ⟨0, 0, [], [], 62, by decide, by decide, by simp, by simp, by simp, by simp, fun w a n c hr hn => ?_, fun w a n c hr hc => ?_⟩
      · refine (ptDecode_ok a n c bs w hr hn (by rw [← hr.1]; omega) hf).mono fun e w' h => ⟨h.1, ?_⟩
        rcases h.2 with ⟨_, h2⟩ | ⟨h2, _⟩
        · exact ⟨_, _, h2, ownU_nil _ _, ownU_nil _ _⟩
        · rw [hz'] at h2; cases h2
      · refine (ptRefDec_ok a n c bs w hr (by rw [← hr.1]; omega) (by rw [← hr.1]; omega) (by rw [← hr.1]; omega) hc).mono fun e w' h => ⟨h.1, ?_⟩
        rcases h.2 with ⟨_, h2⟩ | ⟨h2, _⟩
        · exact ⟨_, _, h2, ownJ_nil _ _, ownJ_nil _ _⟩
        · rw [hz'] at h2; cases h2
  · refine ⟨0, 0, [], [], 62, by decide, by decide, by simp, by simp, by simp, by simp, fun w a n c hr hn => ?_, fun w a n c hr hc => ?_⟩
    · exact (ptDecode_dies a n c bs w hr hn (by rw [← hr.1]; omega) hf).mono fun e w' h => ⟨h.2, _, _, h.1, ownU_nil _ _, ownU_nil _ _⟩
    · by_cases h16 : n < 16
      · exact (ptRefDec_short a n c w h16).mono fun e w' h => ⟨h.2, _, _, h.1, ownJ_nil _ _, ownJ_nil _ _⟩
      · refine (ptRefDec_many a n c bs w hr (by rw [← hr.1]; omega) (by omega) ?_).mono fun e w' h => ⟨h.2, _, _, h.1, ownJ_nil _ _, ownJ_nil _ _⟩
        have h1 := hr.1
        unfold ptFits at hf
        omega
end Go.Proofs.YthgcjiocelcblaaGreat

namespace Go.Proofs.YthgcjiocelcblaaGreat
open Go.RowKit Go.Deep

theorem ownJ_sl {B : Nat} {x : World} {v : Value} {l : List Nat} (h : OwnJ B x v l) (hb : ∀ y ∈ l, y < 4294967296) : ∃ a c, v = .slice a l.length c ∧ RowK .i64 4294967296 x a l.length l := ownJ_row h hb
theorem ownJ_sets {B b : Nat} {x : World} {v : Value} {l : List Nat} (h : OwnJ B x v l) (hb : b < B) (v0 v1 v2 v3 : Value) : OwnJ B ((((x.setCell ⟨b, 0, none⟩ v0).setCell ⟨b, 1, none⟩ v1).setCell ⟨b, 2, none⟩ v2).setCell ⟨b, 3, none⟩ v3) v l :=
  ownsRow_setCell_below (a := ⟨b, 3, none⟩) (ownsRow_setCell_below (a := ⟨b, 2, none⟩) (ownsRow_setCell_below (a := ⟨b, 1, none⟩) (ownsRow_setCell_below (a := ⟨b, 0, none⟩) h hb _) hb _) hb _) hb _
theorem own_sets4 {B b : Nat} {x : World} {v : Value} {l : List Nat} (h : Own B x v l) (hb : b < B) (v0 v1 v2 v3 : Value) : Own B ((((x.setCell ⟨b, 0, none⟩ v0).setCell ⟨b, 1, none⟩ v1).setCell ⟨b, 2, none⟩ v2).setCell ⟨b, 3, none⟩ v3) v l :=
  ⟨ownsRow_setCell_below (a := ⟨b, 3, none⟩) (ownsRow_setCell_below (a := ⟨b, 2, none⟩) (ownsRow_setCell_below (a := ⟨b, 1, none⟩) (ownsRow_setCell_below (a := ⟨b, 0, none⟩) h.1 hb _) hb _) hb _) hb _, h.2⟩
theorem heap_sets4 {b j : Nat} (x : World) (hj : j ≠ b) (v0 v1 v2 v3 : Value) : ((((x.setCell ⟨b, 0, none⟩ v0).setCell ⟨b, 1, none⟩ v1).setCell ⟨b, 2, none⟩ v2).setCell ⟨b, 3, none⟩ v3).heap[j]? = x.heap[j]? := by
  rw [Below.heap_setCell _ _ _ _ (by show j ≠ b; omega), Below.heap_setCell _ _ _ _ (by show j ≠ b; omega), Below.heap_setCell _ _ _ _ (by show j ≠ b; omega), Below.heap_setCell _ _ _ _ (by show j ≠ b; omega)]
theorem size_sets4 {b : Nat} (x : World) (v0 v1 v2 v3 : Value) : ((((x.setCell ⟨b, 0, none⟩ v0).setCell ⟨b, 1, none⟩ v1).setCell ⟨b, 2, none⟩ v2).setCell ⟨b, 3, none⟩ v3).heap.size = x.heap.size := by simp
theorem pt_free4 {W : World} {b : Nat} {cs : Array Value} {t : TypeId} (h : W.heap[b]? = some (.cells cs t (0, 0))) : W.frozen? ⟨b, 0, none⟩ = false ∧ W.frozen? ⟨b, 1, none⟩ = false ∧ W.frozen? ⟨b, 2, none⟩ = false ∧ W.frozen? ⟨b, 3, none⟩ = false := ⟨pt_free h 0, pt_free h 1, pt_free h 2, pt_free h 3⟩
/-- Two boxes: a point that was decoded, and the document's; both say the same. -/
structure DBox (w : World) (sq ba : Nat) (ml el : List Nat) (pb wb : Nat) (ma : Option Addr) (mc : Nat) (ea : Option Addr) (ec : Nat) (na : Option Addr) (nc : Nat) (fa : Option Addr) (fc : Nat) (x : World) : Prop where
  p : x.heap[pb]? = some (.cells #[.int .u32 (sq : Int), .int .u32 (ba : Int), .slice ma ml.length mc, .slice ea el.length ec] 25 (0, 0))
  d : x.heap[wb]? = some (.cells #[.int .i64 (sq : Int), .int .i64 (ba : Int), .slice na ml.length nc, .slice fa el.length fc] 39 (0, 0))
  ok : PT.Ok ⟨sq, ba, ma, ml.length, mc, ml, ea, el.length, ec, el⟩ x
  r1 : RowK .i64 4294967296 x na ml.length ml
  r2 : RowK .i64 4294967296 x fa el.length el
  bel : Below w.heap.size w x
theorem DBox.step {w : World} {sq ba : Nat} {ml el : List Nat} {pb wb : Nat} {ma : Option Addr} {mc : Nat} {ea : Option Addr} {ec : Nat} {na : Option Addr} {nc : Nat} {fa : Option Addr} {fc : Nat} {x y : World} (h : DBox w sq ba ml el pb wb ma mc ea ec na nc fa fc x) (hb : Below x.heap.size x y) : DBox w sq ba ml el pb wb ma mc ea ec na nc fa fc y :=
  ⟨(hb.block pb (Array.getElem?_eq_some_iff.1 h.p).1).trans h.p, (hb.block wb (Array.getElem?_eq_some_iff.1 h.d).1).trans h.d, h.ok.step hb, rowK_below h.r1 hb, rowK_below h.r2 hb, h.bel.trans (hb.mono h.bel.size)⟩
set_option maxRecDepth 100000 in
set_option maxHeartbeats 4000000 in
theorem pointDecodes_any (a : Option Addr) (len cap : Nat) (bs : List Nat) (n k : Nat) (w : World) (hr : Row w a len bs) (hc : len ≤ cap) (hnil : a = none → cap = 0) (hn : n < 4294967296) (hk : k < 4294967296) :
    Calls Tryz.prog 4 #[.slice a len cap, .int .u32 (n : Int), .int .u32 (k : Int)] w fun e w' => e = .returned (.bool true) ∧ Below w.heap.size w w' := by
  have HWR := Lib.hid written_any
  by_cases hl : len ≤ 2000
  · have d1 : decide ((2000 : Int) < (len : Int)) = false := by simp; omega
    obtain ⟨sq, ba, ml, el, ee, hD⟩ := dec_is bs (by rw [hr.1]; omega) hr.2.1
    have HD := Lib.hid hD
    have HR := Lib.hid hr
    have HN := Lib.hid (And.intro hl (And.intro hc (And.intro hnil (And.intro hn hk))))
    clear hl hD hr hc hnil hn hk
    go_enter Tryz.func4, Tryz.ntmps4
    go_wp2_with fail
    ((with_reducible refine (HWR.out _).mono ?_))
    rintro e w1 ⟨rfl, hb1⟩
    have HB1 := Lib.hid hb1
    have HP1 := Lib.hid (HD.out.prog w1 a len cap (row_stp HR.out hb1) HN.out.2.2.1)
    clear hb1
    go_wp2_with fail
    ((with_reducible refine HP1.out.mono ?_))
    rintro e w2 ⟨hb2, v1, v2, rfl, ho1, ho2⟩
    obtain ⟨ma, mc, rfl, hm1⟩ := ownU_row ho1 HD.out.ml_
    obtain ⟨ea, ec, rfl, hm2⟩ := ownU_row ho2 HD.out.el_
    obtain ⟨w3, hw3⟩ : ∃ x, x = w2.alloc (.cells #[.int .u32 (sq : Int), .int .u32 (ba : Int), .slice ma ml.length mc, .slice ea el.length ec] 25) := ⟨_, rfl⟩
    obtain ⟨pb, hpb⟩ : ∃ x, x = w2.heap.size := ⟨_, rfl⟩
    have hb3 : Below w2.heap.size w2 w3 := by rw [hw3]; exact bel_alloc (Below.refl _ _) _
    have hp3 : w3.heap[pb]? = some (.cells #[.int .u32 (sq : Int), .int .u32 (ba : Int), .slice ma ml.length mc, .slice ea el.length ec] 25 (0, 0)) := by rw [hw3, hpb]; exact heap_alloc_new _ _
    have hok3 : PT.Ok ⟨sq, ba, ma, ml.length, mc, ml, ea, el.length, ec, el⟩ w3 := PT.Ok.step (w := w2) ⟨HD.out.sq_, HD.out.ba_, hm1, hm2⟩ hb3
    have HPB : Hid (w.heap.size ≤ pb) := Lib.hid (by rw [hpb]; exact (bel_trans HB1.out hb2).size)
    have HB3 := Lib.hid (And.intro hp3 (And.intro hok3 (bel_trans (bel_trans HB1.out hb2) hb3)))
    have HP3 := Lib.hid (HD.out.doc w3 a len cap (row_stp HR.out HB3.out.2.2) HN.out.2.1)
    clear hb2 ho1 ho2 hm1 hm2 hb3 hp3 hok3
    go_upto_region 4 with fail
    rw [← hw3, ← hpb]
    clear hw3 hpb
    go_wp2_with fail
    ((with_reducible refine HP3.out.mono ?_))
    rintro e w4 ⟨hb4, v1, v2, rfl, ho1, ho2⟩
    obtain ⟨na, nc, rfl, hm1⟩ := ownJ_sl ho1 HD.out.ml_
    obtain ⟨fa, fc, rfl, hm2⟩ := ownJ_sl ho2 HD.out.el_
    obtain ⟨w5, hw5⟩ : ∃ x, x = w4.alloc (.cells #[.int .i64 (sq : Int), .int .i64 (ba : Int), .slice na ml.length nc, .slice fa el.length fc] 39) := ⟨_, rfl⟩
    obtain ⟨wb, hwb⟩ : ∃ x, x = w4.heap.size := ⟨_, rfl⟩
    have hb5 : Below w4.heap.size w4 w5 := by rw [hw5]; exact bel_alloc (Below.refl _ _) _
    have hp5 : w5.heap[wb]? = some (.cells #[.int .i64 (sq : Int), .int .i64 (ba : Int), .slice na ml.length nc, .slice fa el.length fc] 39 (0, 0)) := by rw [hw5, hwb]; exact heap_alloc_new _ _
    have hb45 : Below w3.heap.size w3 w5 := bel_trans hb4 hb5
    have HX : Hid (DBox w sq ba ml el pb wb ma mc ea ec na nc fa fc w5) := Lib.hid ⟨(hb45.block pb (Array.getElem?_eq_some_iff.1 HB3.out.1).1).trans HB3.out.1, hp5, HB3.out.2.1.step hb45, rowK_below hm1 hb5, rowK_below hm2 hb5, bel_trans HB3.out.2.2 hb45⟩
    have hpw : pb < wb ∧ w.heap.size ≤ pb := ⟨by have := (Array.getElem?_eq_some_iff.1 HB3.out.1).1; have := hb4.size; omega, HPB.out⟩
    have HPW := Lib.hid hpw
    clear hb4 ho1 ho2 hm1 hm2 hb5 hp5 hb45 hpw
    go_upto_region 5 with fail
    rw [← hw5, ← hwb]
    clear hw5 hwb
    have HOP : Hid (∀ x : World, Below w5.heap.size w5 x → _) := Lib.hid fun x hx => ptOf_any sq ba ma ml.length mc ml ea el.length ec el x (HX.out.step hx).ok HD.out.mlen HD.out.elen
    have HY : Hid (∀ x : World, Below w5.heap.size w5 x → (x.cell? ⟨pb, 0, none⟩ = some (.int .u32 (sq : Int)) ∧ x.cell? ⟨pb, 1, none⟩ = some (.int .u32 (ba : Int)) ∧ x.cell? ⟨pb, 2, none⟩ = some (.slice ma ml.length mc) ∧ x.cell? ⟨pb, 3, none⟩ = some (.slice ea el.length ec)) ∧
        (x.cell? ⟨wb, 0, none⟩ = some (.int .i64 (sq : Int)) ∧ x.cell? ⟨wb, 1, none⟩ = some (.int .i64 (ba : Int)) ∧ x.cell? ⟨wb, 2, none⟩ = some (.slice na ml.length nc) ∧ x.cell? ⟨wb, 3, none⟩ = some (.slice fa el.length fc))) := Lib.hid fun x hx => ⟨(pt_four' (HX.out.step hx).p).1, (pt_four' (HX.out.step hx).d).1⟩
    have HB0 : Hid (Below w5.heap.size w5 w5.drew) := Lib.hid (Below.refl _ _).drew
    have hS0 := HY.out _ HB0.out
    have q1 : ((ee : Int) != (ee : Int)) = false := by simp
    go_region_held3 (fun x => (x.cell? ⟨pb, 0, none⟩ = some (.int .u32 (sq : Int)) ∧ x.cell? ⟨pb, 1, none⟩ = some (.int .u32 (ba : Int)) ∧ x.cell? ⟨pb, 2, none⟩ = some (.slice ma ml.length mc) ∧ x.cell? ⟨pb, 3, none⟩ = some (.slice ea el.length ec)) ∧
        (x.cell? ⟨wb, 0, none⟩ = some (.int .i64 (sq : Int)) ∧ x.cell? ⟨wb, 1, none⟩ = some (.int .i64 (ba : Int)) ∧ x.cell? ⟨wb, 2, none⟩ = some (.slice na ml.length nc) ∧ x.cell? ⟨wb, 3, none⟩ = some (.slice fa el.length fc)))
      (first | with_reducible exact hS0 | with_reducible exact hS1 | with_reducible exact hS2)
      (first
        | (go_simp; go_at_call 15; ((with_reducible refine (HOP.out _ HB0.out).mono ?_)); (rintro e x1 ⟨a5, c5, a6, c6, rfl, hk5, hk6, hb5⟩; have HC1 := Lib.hid (HB0.out.trans (hb5.mono HB0.out.size)); have HK5 := Lib.hid (And.intro hk5 hk6); have hS1 := HY.out _ HC1.out; clear hk5 hk6 hb5))
        | (go_simp; go_at_call 16; ((with_reducible refine (ptSame_any sq ba _ _ _ ml _ _ _ el _ _ _ _ _ HD.out.sq_ HD.out.ba_ HK5.out.1 HK5.out.2 (HX.out.step HC1.out).r1 (HX.out.step HC1.out).r2 HD.out.mlen HD.out.elen).mono ?_)); (rintro e x2 ⟨rfl, hb6⟩; have HC2 := Lib.hid (HC1.out.trans (hb6.mono HC1.out.size)); have hS2 := HY.out _ HC2.out; clear hb6)))
    all_goals
      clear hS0 hS1 hS2 q1
      have m1 : IntKind.u64.wrap (n : Int) = (n : Int) := by rw [IntKind.wrap_u64]; have := HN.out.2.2.2.1; omega
      have m2 : IntKind.u64.wrap (k : Int) = (k : Int) := by rw [IntKind.wrap_u64]; have := HN.out.2.2.2.2; omega
      obtain ⟨z8, hz8⟩ : ∃ z, z = List.replicate 8 (0 : Nat) := ⟨_, rfl⟩
      have HZ : Hid (∀ x : World, Calls Tryz.prog 12 #[.int .i64 8] x (RetOwn x z8)) := Lib.hid fun x => by rw [hz8]; exact zeros_any 8 x (by omega)
      have HZ8 : Hid (z8.length = 8) := Lib.hid (by rw [hz8, List.length_replicate])
      clear hz8
      go_wp2_with fail
      ((with_reducible refine (HZ.out _).mono ?_))
      rintro e w6 ⟨v6, rfl, ho6, hb6⟩
      obtain ⟨a6, c6, rfl, hr6, -⟩ := row_of_own ho6
      rw [HZ8.out] at ho6 hr6 ⊢
      have HO6 := Lib.hid (And.intro ho6 hb6)
      have HC6 := Lib.hid (HC2.out.trans (hb6.mono HC2.out.size))
      clear ho6 hb6 hr6
      go_wp2_with fail
      ((with_reducible refine (bytes4_any n w6 HN.out.2.2.2.1).mono ?_))
      rintro e w7 ⟨v7, rfl, ho7, hb7⟩
      obtain ⟨a7, c7, rfl, hr7, -⟩ := row_of_own ho7
      rw [Crc.les_len] at ho7 hr7 ⊢
      have HO7 := Lib.hid (And.intro hr7 (And.intro (ptj_none ho7 rfl) (And.intro (own_stp HO6.out.1 hb7) (Nat.le_trans HO6.out.2.size hb7.size))))
      have HC7 := Lib.hid (HC6.out.trans (hb7.mono HC6.out.size))
      clear ho7 hr7 hb7
      go_wp2_with (at_builtin; refine wpList_app rfl _ _ rfl x2.heap.size _ _ rfl HO7.out.2.2.1 a7 4 c7 _ rfl HO7.out.1 HO7.out.2.1 HO7.out.2.2.2 (by rw [HZ8.out]; omega) ?_)
      intro v8 w8 hA8
      obtain ⟨a8, c8, rfl, -, -⟩ := row_of_own hA8.own
      have hl8 : (z8 ++ Crc.les 4 n).length = 12 := by rw [List.length_append, HZ8.out, Crc.les_len]
      obtain ⟨y8, hy8⟩ : ∃ y, y = z8 ++ Crc.les 4 n := ⟨_, rfl⟩
      rw [← hy8] at hA8 hl8 ⊢
      rw [hl8] at hA8 ⊢
      have HL8 := Lib.hid (And.intro hl8 hy8)
      have hc8 : Below w5.heap.size w5 w8 := HC7.out.trans (hA8.below.mono HC2.out.size)
      have HO8 := Lib.hid (And.intro hA8.own (Nat.le_trans HO7.out.2.2.2 hA8.below.size))
      have HC8 := Lib.hid hc8
      clear hA8 hc8 hl8 hy8
      go_wp2_with fail
      ((with_reducible refine (bytes4_any k w8 HN.out.2.2.2.2).mono ?_))
      rintro e w9 ⟨v9, rfl, ho9, hb9⟩
      obtain ⟨a9, c9, rfl, hr9, -⟩ := row_of_own ho9
      rw [Crc.les_len] at ho9 hr9 ⊢
      have HO9 := Lib.hid (And.intro hr9 (And.intro (ptj_none ho9 rfl) (And.intro (own_stp HO8.out.1 hb9) (Nat.le_trans HO8.out.2 hb9.size))))
      have HC9 := Lib.hid (HC8.out.trans (hb9.mono HC8.out.size))
      clear ho9 hr9 hb9
      go_wp2_with (at_builtin; refine wpList_app rfl _ _ rfl x2.heap.size _ _ rfl HO9.out.2.2.1 a9 4 c9 _ rfl HO9.out.1 HO9.out.2.1 HO9.out.2.2.2 (by rw [HL8.out.1]; omega) ?_)
      intro v10 w10 hA10
      obtain ⟨a10, c10, rfl, -, -⟩ := row_of_own hA10.own
      have hl10 : (y8 ++ Crc.les 4 k).length = 16 := by rw [List.length_append, HL8.out.1, Crc.les_len]
      obtain ⟨y10, hy10⟩ : ∃ y, y = y8 ++ Crc.les 4 k := ⟨_, rfl⟩
      rw [← hy10] at hA10 hl10 ⊢
      rw [hl10] at hA10 ⊢
      have HL10 := Lib.hid (And.intro hl10 hy10)
      have hc10 : Below w5.heap.size w5 w10 := HC9.out.trans (hA10.below.mono HC2.out.size)
      have HO10 := Lib.hid (And.intro hA10.own (Nat.le_trans HO9.out.2.2.2 hA10.below.size))
      have HC10 := Lib.hid hc10
      have HR10 : Hid (Row w10 a len bs) := Lib.hid (row_stp HR.out (HX.out.bel.trans (hc10.mono HX.out.bel.size)))
      clear hA10 hc10 hl10 hy10
      go_wp2_with (at_builtin; refine wpList_app rfl _ _ rfl x2.heap.size _ _ rfl HO10.out.1 a len cap bs rfl HR10.out HN.out.2.2.1 HO10.out.2 (by rw [HL10.out.1]; have := HN.out.1; omega) ?_)
      intro v11 w11 hA11
      obtain ⟨a11, c11, rfl, -, -⟩ := row_of_own hA11.own
      have hl11 : (y10 ++ bs).length = 16 + len := by rw [List.length_append, HL10.out.1, HR10.out.1]
      obtain ⟨cs, hcs⟩ : ∃ y, y = y10 ++ bs := ⟨_, rfl⟩
      rw [← hcs] at hA11 hl11 ⊢
      rw [hl11] at hA11 ⊢
      obtain ⟨cl, hcl⟩ : ∃ x, x = 16 + len := ⟨_, rfl⟩
      rw [← hcl] at hA11 hl11 ⊢
      have hc11 : Below w5.heap.size w5 w11 := HC10.out.trans (hA11.below.mono HC2.out.size)
      obtain ⟨tq, ta, tl, ul, te, hD2⟩ := dec_is cs (by rw [hl11, hcl]; have := HN.out.1; omega) hA11.own.2
      have HD2 := Lib.hid hD2
      have HO11 := Lib.hid (And.intro hA11.own (And.intro hl11 (Nat.le_trans HO10.out.2 hA11.below.size)))
      have HX11 := Lib.hid (HX.out.step hc11)
      have HP11 := Lib.hid (HD2.out.prog w11 a11 cl c11 (own_rowAt hA11.own) (ptj_none hA11.own rfl))
      clear hA11 hc11 hl11 hcs hcl hD2
      go_wp2_with fail
      ((with_reducible refine HP11.out.mono ?_))
      rintro e w12 ⟨hb12, u1, u2, rfl, ho1, ho2⟩
      obtain ⟨pa, pc, rfl, -⟩ := ownU_row ho1 HD2.out.ml_
      obtain ⟨qa, qc, rfl, -⟩ := ownU_row ho2 HD2.out.el_
      have hX12 := HX11.out.step hb12
      have hp11 : pb < w11.heap.size := (Array.getElem?_eq_some_iff.1 HX11.out.p).1
      have hw11 : wb < w11.heap.size := (Array.getElem?_eq_some_iff.1 HX11.out.d).1
      have hpx2 : pb < x2.heap.size ∧ wb < x2.heap.size := ⟨Nat.lt_of_lt_of_le (Array.getElem?_eq_some_iff.1 HX.out.p).1 HC2.out.size, Nat.lt_of_lt_of_le (Array.getElem?_eq_some_iff.1 HX.out.d).1 HC2.out.size⟩
      obtain ⟨⟨z0, z1, z2, z3⟩, -⟩ := pt_four' hX12.p
      obtain ⟨f0, f1, f2, f3⟩ := pt_free4 hX12.p
      obtain ⟨W13, hW13⟩ : ∃ y, y = (((w12.setCell ⟨pb, 0, none⟩ (.int .u32 (tq : Int))).setCell ⟨pb, 1, none⟩ (.int .u32 (ta : Int))).setCell ⟨pb, 2, none⟩ (.slice pa tl.length pc)).setCell ⟨pb, 3, none⟩ (.slice qa ul.length qc) := ⟨_, rfl⟩
      have hp13 : W13.heap[pb]? = some (.cells #[.int .u32 (tq : Int), .int .u32 (ta : Int), .slice pa tl.length pc, .slice qa ul.length qc] 25 (0, 0)) := by rw [hW13]; exact pt_put4 hX12.p _ _ _ _
      have hd13 : W13.heap[wb]? = some (.cells #[.int .i64 (sq : Int), .int .i64 (ba : Int), .slice na ml.length nc, .slice fa el.length fc] 39 (0, 0)) := by rw [hW13, heap_sets4 w12 (by have := HPW.out.1; omega)]; exact hX12.d
      have ho13 : OwnU w11.heap.size W13 (.slice pa tl.length pc) tl ∧ OwnU w11.heap.size W13 (.slice qa ul.length qc) ul := by rw [hW13]; exact ⟨ownU_sets ho1 hp11 _ _ _ _, ownU_sets ho2 hp11 _ _ _ _⟩
      have hoc13 : Own x2.heap.size W13 (.slice a11 cl c11) cs := by rw [hW13]; exact own_sets4 (own_stp HO11.out.1 hb12) hpx2.1 _ _ _ _
      have hb13 : Below w.heap.size w W13 := by rw [hW13]; exact pt4_set hX12.bel HPW.out.2 _ _ _ _
      have hs13 : W13.heap.size = w12.heap.size := by rw [hW13]; exact size_sets4 _ _ _ _ _
      have H13 := Lib.hid (And.intro hp13 (And.intro hd13 (And.intro ho13 (And.intro hb13 (And.intro (show w11.heap.size ≤ W13.heap.size by rw [hs13]; exact hb12.size) (And.intro hp11 (And.intro hw11 hpx2)))))))
      have HP13 := Lib.hid (HD2.out.doc W13 a11 cl c11 (own_rowAt hoc13) (own_cap hoc13).1)
      go_upto_region 10 with fail
      rw [← hW13]
      clear hW13 hX12 hp11 hw11 hpx2 hp13 hd13 ho13 hoc13 hb13 hs13 hb12 ho1 ho2 z0 z1 z2 z3 f0 f1 f2 f3
      go_wp2_with fail
      ((with_reducible refine HP13.out.mono ?_))
      rintro e w14 ⟨hb14, u1, u2, rfl, ho1, ho2⟩
      obtain ⟨ra, rc, rfl, -⟩ := ownJ_sl ho1 HD2.out.ml_
      obtain ⟨sa, sc, rfl, -⟩ := ownJ_sl ho2 HD2.out.el_
      obtain ⟨hp13, hd13, ho13, hb13, hs13, hp11, hw11, hpx2⟩ := H13.out
      have hp14 := (hb14.block pb (Array.getElem?_eq_some_iff.1 hp13).1).trans hp13
      have hd14 := (hb14.block wb (Array.getElem?_eq_some_iff.1 hd13).1).trans hd13
      have hw13 : wb < W13.heap.size := (Array.getElem?_eq_some_iff.1 hd13).1
      obtain ⟨⟨z0, z1, z2, z3⟩, -⟩ := pt_four' hd14
      obtain ⟨f0, f1, f2, f3⟩ := pt_free4 hd14
      obtain ⟨W15, hW15⟩ : ∃ y, y = (((w14.setCell ⟨wb, 0, none⟩ (.int .i64 (tq : Int))).setCell ⟨wb, 1, none⟩ (.int .i64 (ta : Int))).setCell ⟨wb, 2, none⟩ (.slice ra tl.length rc)).setCell ⟨wb, 3, none⟩ (.slice sa ul.length sc) := ⟨_, rfl⟩
      have hou1 : OwnU w11.heap.size W15 (.slice pa tl.length pc) tl := by rw [hW15]; exact ownU_sets (ownU_at ho13.1 (y := w14) fun q _ hq => hb14.block q hq) hw11 _ _ _ _
      have hou2 : OwnU w11.heap.size W15 (.slice qa ul.length qc) ul := by rw [hW15]; exact ownU_sets (ownU_at ho13.2 (y := w14) fun q _ hq => hb14.block q hq) hw11 _ _ _ _
      have hoj1 : OwnJ W13.heap.size W15 (.slice ra tl.length rc) tl := by rw [hW15]; exact ownJ_sets ho1 hw13 _ _ _ _
      have hoj2 : OwnJ W13.heap.size W15 (.slice sa ul.length sc) ul := by rw [hW15]; exact ownJ_sets ho2 hw13 _ _ _ _
      have hX15 : DBox w tq ta tl ul pb wb pa pc qa qc ra rc sa sc W15 := by
        obtain ⟨b1, b2, e1, r1⟩ := ownU_row hou1 HD2.out.ml_
        obtain ⟨b3, b4, e2, r2⟩ := ownU_row hou2 HD2.out.el_
        obtain ⟨b5, b6, e3, r3⟩ := ownJ_sl hoj1 HD2.out.ml_
        obtain ⟨b7, b8, e4, r4⟩ := ownJ_sl hoj2 HD2.out.el_
        simp only [Value.slice.injEq] at e1 e2 e3 e4
        obtain ⟨rfl, -, -⟩ := e1
        obtain ⟨rfl, -, -⟩ := e2
        obtain ⟨rfl, -, -⟩ := e3
        obtain ⟨rfl, -, -⟩ := e4
        refine ⟨?_, ?_, ⟨HD2.out.sq_, HD2.out.ba_, r1, r2⟩, r3, r4, ?_⟩
        · rw [hW15, heap_sets4 w14 (by have := HPW.out.1; omega)]; exact hp14
        · rw [hW15]; exact pt_put4 hd14 _ _ _ _
        · rw [hW15]; exact pt4_set (hb13.trans (hb14.mono hb13.size)) (by have := HPW.out; omega) _ _ _ _
      have HX15 := Lib.hid hX15
      go_upto_region 11 with fail
      rw [← hW15]
      clear hW15 hX15 hou1 hou2 hoj1 hoj2 hp14 hd14 hw13 z0 z1 z2 z3 f0 f1 f2 f3 hb14 ho1 ho2 hp13 hd13 ho13 hb13 hs13 hp11 hw11 hpx2
      have HOP2 : Hid (∀ x : World, Below W15.heap.size W15 x → _) := Lib.hid fun x hx => ptOf_any tq ta pa tl.length pc tl qa ul.length qc ul x (HX15.out.step hx).ok HD2.out.mlen HD2.out.elen
      have HY2 : Hid (∀ x : World, Below W15.heap.size W15 x → (x.cell? ⟨pb, 0, none⟩ = some (.int .u32 (tq : Int)) ∧ x.cell? ⟨pb, 1, none⟩ = some (.int .u32 (ta : Int)) ∧ x.cell? ⟨pb, 2, none⟩ = some (.slice pa tl.length pc) ∧ x.cell? ⟨pb, 3, none⟩ = some (.slice qa ul.length qc)) ∧
          (x.cell? ⟨wb, 0, none⟩ = some (.int .i64 (tq : Int)) ∧ x.cell? ⟨wb, 1, none⟩ = some (.int .i64 (ta : Int)) ∧ x.cell? ⟨wb, 2, none⟩ = some (.slice ra tl.length rc) ∧ x.cell? ⟨wb, 3, none⟩ = some (.slice sa ul.length sc))) := Lib.hid fun x hx => ⟨(pt_four' (HX15.out.step hx).p).1, (pt_four' (HX15.out.step hx).d).1⟩
      have HB9 : Hid (Below W15.heap.size W15 W15.drew) := Lib.hid (Below.refl _ _).drew
      have hS0 := HY2.out _ HB9.out
      have q1 : ((te : Int) == (te : Int)) = true := by simp
      go_region_held3 (fun x => (x.cell? ⟨pb, 0, none⟩ = some (.int .u32 (tq : Int)) ∧ x.cell? ⟨pb, 1, none⟩ = some (.int .u32 (ta : Int)) ∧ x.cell? ⟨pb, 2, none⟩ = some (.slice pa tl.length pc) ∧ x.cell? ⟨pb, 3, none⟩ = some (.slice qa ul.length qc)) ∧
          (x.cell? ⟨wb, 0, none⟩ = some (.int .i64 (tq : Int)) ∧ x.cell? ⟨wb, 1, none⟩ = some (.int .i64 (ta : Int)) ∧ x.cell? ⟨wb, 2, none⟩ = some (.slice ra tl.length rc) ∧ x.cell? ⟨wb, 3, none⟩ = some (.slice sa ul.length sc)))
        (first | with_reducible exact hS0 | with_reducible exact hS1 | with_reducible exact hS2)
        (first
          | (go_simp; go_at_call 15; ((with_reducible refine (HOP2.out _ HB9.out).mono ?_)); (rintro e x3 ⟨a5, c5, a6, c6, rfl, hk5, hk6, hb5⟩; have HC3 := Lib.hid (HB9.out.trans (hb5.mono HB9.out.size)); have HK6 := Lib.hid (And.intro hk5 hk6); have hS1 := HY2.out _ HC3.out; clear hk5 hk6 hb5))
          | (go_simp; go_at_call 16; ((with_reducible refine (ptSame_any tq ta _ _ _ tl _ _ _ ul _ _ _ _ _ HD2.out.sq_ HD2.out.ba_ HK6.out.1 HK6.out.2 (HX15.out.step HC3.out).r1 (HX15.out.step HC3.out).r2 HD2.out.mlen HD2.out.elen).mono ?_)); (rintro e x4 ⟨rfl, hb6⟩; have HC4 := Lib.hid (HC3.out.trans (hb6.mono HC3.out.size)); have hS2 := HY2.out _ HC4.out; clear hb6)))
      all_goals
        go_wp2
        go_ret
        exact ⟨rfl, (HX15.out.step HC4.out).bel⟩
  · have d1 : decide ((2000 : Int) < (len : Int)) = true := by simp; omega
    clear hl hr hc hnil hn hk
    go_enter Tryz.func4, Tryz.ntmps4
    go_wp2_with fail
    ((with_reducible refine (HWR.out _).mono ?_))
    rintro e w1 ⟨rfl, hb1⟩
    have HB1 := Lib.hid hb1
    clear hb1
    go_wp2_with fail
    ((with_reducible refine (HWR.out _).mono ?_))
    rintro e w2 ⟨rfl, hb2⟩
    have HB2 := Lib.hid (bel_trans HB1.out hb2)
    clear hb2
    go_wp2_with fail
    go_ret
    exact ⟨rfl, HB2.out⟩
end Go.Proofs.YthgcjiocelcblaaGreat

namespace Go.Proofs.YthgcjiocelcblaaGreat
open Go.RowKit

theorem pointDecodes_all (a : Option Addr) (len cap : Nat) (bs : List Nat) (x y : Int) (w : World) (h : InB w a len cap bs) (hx : (Lit.int .u32 x).wf = true) (hy : (Lit.int .u32 y).wf = true) :
    Calls Tryz.prog 4 #[.slice a len cap, .int .u32 x, .int .u32 y] w fun e w' => e = .returned (.bool true) ∧ Below w.heap.size w w' := by
  obtain ⟨n, rfl, hn⟩ := wfS_u32 hx
  obtain ⟨k, rfl, hk⟩ := wfS_u32 hy
  exact pointDecodes_any a len cap bs n k w h.1 h.2.1 h.2.2.2 hn hk
end Go.Proofs.YthgcjiocelcblaaGreat
