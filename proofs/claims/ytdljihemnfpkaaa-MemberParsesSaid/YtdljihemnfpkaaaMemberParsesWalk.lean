/- MemberParses: walked. -/
import Derived.Test.YtdljihemnfpkaaaMemRefQ
import Derived.Test.YtdljihemnfpkaaaMemSame
import Derived.Test.YtdljihemnfpkaaaMemWith
import Derived.RegionTactic
namespace Go.Proofs.Ytdljihemnfpkaaa
open Go.RowKit Go.Deep

theorem wbelP {w x : World} {o : Obj} (h : Below (w.alloc o).drew.heap.size (w.alloc o).drew x) : Below w.heap.size w x :=
  (bel_alloc (Below.refl w.heap.size w) o).drew.trans (h.mono (by simp))
theorem wbelQ {w x : World} {o : Obj} (h : Below (w.alloc o).drew.heap.size (w.alloc o).drew x) : Below w.heap.size w x :=
  (bel_alloc (Below.refl w.heap.size w) o).drew.trans (h.mono (by simp))
theorem mod30 (x : Int) : ∃ t : Nat, t < 30 ∧ IntKind.i64.wrap ((IntKind.u64.wrap x).tmod 30) = (t : Int) ∧ wrap64 ((IntKind.u64.wrap x).tmod 30) = (t : Int) ∧ IntKind.u64.wrap ((IntKind.u64.wrap x).tmod 30) = (t : Int) ∧ (IntKind.u64.wrap x).tmod 30 = (t : Int) ∧ IntKind.i64.wrap (t : Int) = (t : Int) := by
  obtain ⟨h1, h2⟩ := modM_eq 30 x (by omega) (by omega)
  rw [show ((30 : Nat) : Int) = 30 from rfl] at h1
  refine ⟨modM 30 x, h2, ?_, ?_, ?_, h1, by rw [IntKind.wrap_i64]; omega⟩
  · rw [h1, IntKind.wrap_i64]; omega
  · rw [h1]; exact IntWalk.wrap64_in _ (by omega)
  · rw [h1, IntKind.wrap_u64]; omega
theorem mod3 (x : Int) : ∃ m : Int, x.tmod 3 = m ∧ wrap64 m = m ∧ IntKind.i64.wrap m = m := by
  have h1 : x.tmod 3 < 3 := Int.tmod_lt_of_pos x (by omega)
  have h2 : -3 < x.tmod 3 := by
    have := Int.lt_tmod_of_pos x (show (0 : Int) < 3 by omega)
    omega
  refine ⟨_, rfl, IntWalk.wrap64_in _ (by omega), ?_⟩
  rw [IntKind.wrap_i64]; omega
theorem memFirst_row (n : Nat) (w : World) (hn : n ≤ 16) : Calls Try.prog 7 #[.agg #[.int .i64 (n : Int), .int .i64 20, .int .i64 6, .int .i64 256]] w fun e w' => ∃ a c, e = .returned (.agg #[.int .u32 1, .slice a n c, .int .i64 (n : Int), .int .i64 255, .int .i64 0]) ∧ RowI w' a n c (firstL n) ∧ Below w.heap.size w w' := by
  refine (memFirst_any n 20 6 256 w (by omega)).mono ?_
  rintro e w' ⟨v, rfl, ho, hb⟩
  obtain ⟨a, c, rfl, hr, _⟩ := ownI_row ho (firstL_in n (by omega))
  rw [firstL_len] at hr ⊢
  exact ⟨a, c, rfl, hr, hb⟩
/-- Bytes of the call's own, as a slice. -/
theorem own_slice {B : Nat} {x : World} {v : Value} {l : List Nat} {n : Nat} (h : Own B x v l) (hl : l.length = n) (h0 : 0 < n) : ∃ g c, v = .slice (some ⟨g, 0, none⟩) n c ∧ Row x (some ⟨g, 0, none⟩) n l ∧ n ≤ c ∧ c ≤ maxLen := by
  obtain ⟨a, c, rfl, hr, _⟩ := row_of_own h
  have hc := own_capR h
  rw [hl] at hr hc ⊢
  rcases h.1.2 with ⟨e, h0'⟩ | ⟨g, cp, cur, e, _⟩
  · omega
  · cases e
    exact ⟨g, c, rfl, hr, hc⟩
set_option maxRecDepth 100000 in
set_option maxHeartbeats 8000000 in
theorem memberParses_big (ch ot : Int) (aa : Option Addr) (an ac : Nat) (ca : Option Addr) (cn cc : Nat) (re : Bool) (w : World) (ha : an ≤ maxLen) (_hc : cn ≤ maxLen) (hbig : 6 < an ∨ cn < an) :
    Calls Try.prog 4 #[.agg #[.int .i64 ch, .int .i64 ot, .slice aa an ac, .slice ca cn cc, .bool re]] w fun e w' => e = .returned (.bool true) ∧ Below w.heap.size w w' := by
  have HF := Lib.hid memFirst0_any
  unfold maxLen at ha
  go_enter Try.func4, Try.ntmps4
  go_upto_region 1 with fail
  go_region
  go_wp2_with fail
  ((with_reducible refine (HF.out _).mono ?_))
  rintro e w1 ⟨rfl, hb1⟩
  have HB1 : Hid (Below w.heap.size w w1) := Lib.hid (wbelP hb1)
  clear hb1
  by_cases h6 : 6 < an
  · have t6 : decide ((6 : Int) < (an : Int)) = true := by simp; omega
    have t6' : decide (6 < an) = true := by simp; omega
    clear h6 hbig
    go_wp2_with fail
    ((with_reducible refine (HF.out _).mono ?_))
    rintro e w2 ⟨rfl, hb2⟩
    have HB2 := Lib.hid (bel_trans HB1.out hb2)
    clear hb2
    go_wp2_with fail
    go_ret
    exact ⟨rfl, HB2.out⟩
  · have t6 : decide ((6 : Int) < (an : Int)) = false := by simp; omega
    have t6' : decide (6 < an) = false := by simp; omega
    have t7 : decide ((cn : Int) < (an : Int)) = true := by simp; omega
    have t7' : decide (cn < an) = true := by simp; omega
    clear h6 hbig
    go_wp2_with fail
    ((with_reducible refine (HF.out _).mono ?_))
    rintro e w2 ⟨rfl, hb2⟩
    have HB2 := Lib.hid (bel_trans HB1.out hb2)
    clear hb2
    go_wp2_with fail
    go_ret
    exact ⟨rfl, HB2.out⟩
set_option maxRecDepth 100000 in
set_option maxHeartbeats 16000000 in
theorem memberParses_small (ch ot : Int) (aa : Option Addr) (an ac : Nat) (AS : List Int) (ca : Option Addr) (cn cc : Nat) (CS : List Nat) (re : Bool) (w : World) (hA : RowI w aa an ac AS) (hC : Row w ca cn CS) (hc : cn ≤ maxLen) (hs6 : an ≤ 6) (hsc : an ≤ cn) :
    Calls Try.prog 4 #[.agg #[.int .i64 ch, .int .i64 ot, .slice aa an ac, .slice ca cn cc, .bool re]] w fun e w' => e = .returned (.bool true) ∧ Below w.heap.size w w' := by
  have HF := Lib.hid memFirst0_any
  have HSH := Lib.hid fun x : World => memShape_any ch x
  obtain ⟨_, hn3, hn16⟩ := mod14_eq ch
  obtain ⟨n, hnn⟩ : ∃ n, n = memN ch := ⟨_, rfl⟩
  rw [← hnn] at HSH hn3 hn16
  have HFI := Lib.hid fun x : World => memFirst_row n x hn16
  have HOF := Lib.hid fun (x : World) (a : Option Addr) (c : Nat) => memOf_any 1 a n c (n : Int) 255 0 x (by omega) (by omega)
  obtain ⟨D0, hD0⟩ : ∃ D, D = padTo (memB 1 (List.range n) n 255 0 20 6 256) 256 := ⟨_, rfl⟩
  have HD0 : Hid (D0.length = 256) := Lib.hid (by rw [hD0]; exact page_len _ _ _ _ _ (by rw [List.length_range]; omega))
  have HPG : Hid (∀ (x : World) (a : Option Addr) (c : Nat), RowI x a n c (firstL n) → Calls Try.prog 13 #[setV 1 a n c (n : Int) 255 0, .agg #[.int .i64 (n : Int), .int .i64 20, .int .i64 6, .int .i64 256]] x (RefPageRet x D0 (sealB (memH 1) D0 []))) := Lib.hid fun x a c hr =>
    refMemPage_any 1 a n c (List.range n) n 255 0 x (by omega) hr List.length_range hn16 (fun y hy => by have := List.mem_range.1 hy; omega) (by omega) (by omega) (by omega) D0 hD0
  have hcb : cn ≤ 9223372036854775807 := by unfold maxLen at hc; omega
  have HA := Lib.hid hA
  have HC := Lib.hid hC
  have HN := Lib.hid (And.intro hn3 hn16)
  clear hnn hD0 hA hC hc hn3 hn16
  have t6 : decide ((6 : Int) < (an : Int)) = false := by simp; omega
  have t6' : decide (6 < an) = false := by simp; omega
  have t7 : decide ((cn : Int) < (an : Int)) = false := by simp; omega
  have t7' : decide (cn < an) = false := by simp; omega
  go_enter Try.func4, Try.ntmps4
  go_upto_region 1 with fail
  go_region
  go_wp2_with fail
  ((with_reducible refine (HF.out _).mono ?_))
  rintro e w1 ⟨rfl, hb1⟩
  have HB1 : Hid (Below w.heap.size w w1) := Lib.hid (wbelP hb1)
  clear hb1
  go_wp2_with fail
  ((with_reducible refine (HSH.out _).mono ?_))
  rintro e w2 ⟨rfl, hb2⟩
  have HB2 : Hid (Below w.heap.size w w2) := Lib.hid (bel_trans HB1.out hb2)
  clear hb2 HB1
  go_upto_region 5 with fail
  have g3 := heap_alloc_new w2 (.cells #[.int .i64 (n : Int), .int .i64 20, .int .i64 6, .int .i64 256] 27)
  have hb3 := bel_alloc HB2.out (.cells #[.int .i64 (n : Int), .int .i64 20, .int .i64 6, .int .i64 256] 27)
  obtain ⟨w3, hw3⟩ : ∃ x, x = w2.alloc (.cells #[.int .i64 (n : Int), .int .i64 20, .int .i64 6, .int .i64 256] 27) := ⟨_, rfl⟩
  obtain ⟨gb, hgb⟩ : ∃ x, x = w2.heap.size := ⟨_, rfl⟩
  have hg3 : gb < w3.heap.size := by rw [hw3, hgb]; simp
  rw [← hw3] at g3 hb3 ⊢
  rw [← hgb] at g3 ⊢
  have G3 := Lib.hid g3
  have HB3 := Lib.hid (And.intro hb3 hg3)
  have HGC : Hid (∀ x, Below w3.heap.size w3 x → x.cell? ⟨gb, 0, none⟩ = some (.int .i64 (n : Int)) ∧ x.cell? ⟨gb, 1, none⟩ = some (.int .i64 20) ∧ x.cell? ⟨gb, 2, none⟩ = some (.int .i64 6) ∧ x.cell? ⟨gb, 3, none⟩ = some (.int .i64 256)) := Lib.hid fun x hx => mfour_at ((hx.block gb hg3).trans g3)
  clear hw3 hgb g3 hb3 hg3 HB2 t6 t6' t7 t7'
  have hS0 := HGC.out w3.drew (Below.refl _ _).drew
  go_region_held3 (fun x => x.cell? ⟨gb, 0, none⟩ = some (.int .i64 (n : Int)) ∧ x.cell? ⟨gb, 1, none⟩ = some (.int .i64 20) ∧ x.cell? ⟨gb, 2, none⟩ = some (.int .i64 6) ∧ x.cell? ⟨gb, 3, none⟩ = some (.int .i64 256))
    (first | with_reducible exact hS0 | with_reducible exact hS1 | with_reducible exact hS2 | with_reducible exact hS3 | go_keep)
    (first
      | (go_simp; go_at_call 7; ((with_reducible refine (HFI.out _).mono ?_)); (intro e w4 hr; obtain ⟨fa, fc, rfl, hr4, hb4⟩ := hr; have HB4 : Hid (Below w3.heap.size w3 w4) := Lib.hid ((Below.refl _ w3).drew.trans (hb4.mono (Nat.le_refl _))); have hS1 := HGC.out w4 HB4.out; have HR4 := Lib.hid hr4; clear hr4 hb4))
      | (go_simp; go_at_call 11; ((with_reducible refine (HOF.out _ fa fc).mono ?_)); (intro e w5 hr; obtain ⟨rfl, hb5⟩ := hr; have HB5 : Hid (Below w3.heap.size w3 w5) := Lib.hid (bel_trans HB4.out hb5); have hS2 := HGC.out w5 HB5.out; have HR5 := Lib.hid (rowI_below HR4.out hb5); clear hb5))
      | (go_simp; go_at_call 13; ((with_reducible refine (HPG.out _ fa fc HR5.out).mono ?_)); (intro e w6 hr; obtain ⟨dv0, ov0, rfl, hd6, ho6, hb6⟩ := hr; have HB6 : Hid (Below w3.heap.size w3 w6) := Lib.hid (bel_trans HB5.out hb6); have hS3 := HGC.out w6 HB6.out; have HD6 := Lib.hid (own_mono hd6 (Nat.le_trans HB3.out.1.size HB5.out.size)); have HO6 := Lib.hid (own_mono ho6 (Nat.le_trans HB3.out.1.size HB5.out.size)); clear hd6 ho6 hb6)))
  all_goals
    have HB6w : Hid (Below w.heap.size w w6) := Lib.hid (HB3.out.1.trans (HB6.out.mono HB3.out.1.size))
    have HG6 : Hid (w6.heap[gb]? = some (.cells #[.int .i64 (n : Int), .int .i64 20, .int .i64 6, .int .i64 256] 27 (0, 0))) := Lib.hid ((HB6.out.block gb HB3.out.2).trans G3.out)
    clear hS0 hS1 hS2 hS3 HR4 HR5 HB4 HB5 HFI HOF HPG HGC G3
    go_wp2_with fail
    go_loopw [9, 11] (fun dv iv wr => ∃ (k : Nat) (D : List Nat), k ≤ an ∧ iv = .int .i64 (k : Int) ∧ D.length = 256 ∧ Own w.heap.size wr dv D ∧ Below w6.heap.size w6 wr) (fun _ iv _ => an - (intOf iv).toNat)
    case atStart => exact ⟨0, D0, Nat.zero_le _, rfl, HD0.out, HD6.out, Below.refl _ _⟩
    case round =>
      obtain ⟨k, D, hk, rfl, hDl, hO, hB⟩ := hrel
      obtain ⟨db, dc, rfl, hdr, hdc, hdm⟩ := own_slice hO hDl (by omega)
      have HDL := Lib.hid hDl
      have HO := Lib.hid hO
      have HB := Lib.hid hB
      have HDR := Lib.hid (And.intro hdr (And.intro hdc hdm))
      clear hDl hO hB hdr hdc hdm HD6
      by_cases hlt : k < an
      · have t1 : decide (k < an) = true := by simpa using hlt
        have hbw : Below w.heap.size w wr := bel_trans HB6w.out HB.out
        obtain ⟨ab, ao, rfl, hca, ha0, ha1⟩ := rowI_at (rowI_below HA.out hbw) hlt
        obtain ⟨cb, co, rfl, hcc⟩ := (row_keep HC.out hbw (Nat.le_refl _)).2.2 (by omega)
        have hck := hcc k (by omega)
        obtain ⟨c, hce⟩ : ∃ c, c = CS.getD k 0 := ⟨_, rfl⟩
        rw [← hce] at hck
        have hc256 : c < 256 := by rw [hce]; exact getD_lt HC.out.2.1 k
        obtain ⟨A, hAe⟩ : ∃ A, A = AS.getD k 0 := ⟨_, rfl⟩
        rw [← hAe] at hca ha0 ha1
        obtain ⟨t, ht30, mt0, mt1, mt2, mt3, mt4⟩ := mod30 A
        have HT := Lib.hid ht30
        have i0 : (0 : Int) ≤ (k : Int) := by omega
        have i1 : (k : Int) < (an : Int) := by omega
        have i2 : (k : Int) < (cn : Int) := by omega
        have HMT := Lib.hid (And.intro mt0 (And.intro mt1 (And.intro mt2 (And.intro mt3 mt4))))
        clear mt0 mt1 mt2 mt3 mt4
        have hl2 : (D.take t ++ [c] ++ D.drop (t + 1)).length = 256 := by
          rw [List.length_append, List.length_append, List.length_take, List.length_drop, HDL.out]; simp; omega
        have HL2 := Lib.hid hl2
        have HWI : Hid (Calls Try.prog 14 #[.slice (some ⟨db, 0, none⟩) 256 dc, .int .i64 (t : Int), .slice (some ⟨wr.heap.size, 0, none⟩) 1 1] (wr.alloc (.cells #[.int .u8 (c : Int)] 5)).drew (RetOwn (wr.alloc (.cells #[.int .u8 (c : Int)] 5)).drew (D.take t ++ [c] ++ D.drop (t + 1)))) := Lib.hid
          (with_any db 0 256 dc D t wr.heap.size 1 c _ (row_keep HDR.out.1 (bel_alloc (Below.refl _ wr) _).drew (Nat.le_refl _)) HDR.out.2.1 (by have := HDR.out.2.2; unfold maxLen at this; omega) (by omega) (by omega) (row_one wr c hc256))
        have hS0 : wr.drew.cell? ⟨ab, ao + k, none⟩ = some (.int .i64 A) ∧ wr.drew.cell? ⟨cb, co + k, none⟩ = some (.int .u8 (c : Int)) := ⟨hca, hck⟩
        have hS1 : (wr.alloc (.cells #[.int .u8 (c : Int)] 5)).drew.cell? ⟨ab, ao + k, none⟩ = some (.int .i64 A) ∧ (wr.alloc (.cells #[.int .u8 (c : Int)] 5)).drew.cell? ⟨cb, co + k, none⟩ = some (.int .u8 (c : Int)) := ⟨cell_step hca (bel_alloc (Below.refl _ wr) _).drew, cell_step hck (bel_alloc (Below.refl _ wr) _).drew⟩
        have HCC : Hid (∀ x, Below wr.heap.size wr x → x.cell? ⟨ab, ao + k, none⟩ = some (.int .i64 A) ∧ x.cell? ⟨cb, co + k, none⟩ = some (.int .u8 (c : Int))) := Lib.hid fun x hx => ⟨cell_step hca hx, cell_step hck hx⟩
        clear hce hAe hcc hl2 hbw
        obtain ⟨mt0, mt1, mt2, mt3, mt4⟩ := HMT.out
        go_wp2_with fail
        go_region_held3 (fun x => x.cell? ⟨ab, ao + k, none⟩ = some (.int .i64 A) ∧ x.cell? ⟨cb, co + k, none⟩ = some (.int .u8 (c : Int)))
          (first | with_reducible exact hS0 | with_reducible exact hS1 | with_reducible exact hS2 | go_keep)
          ((go_simp; go_at_call 14; ((with_reducible refine HWI.out.mono ?_)); (intro e w8 hr; obtain ⟨sv, rfl, ho8, hb8⟩ := hr; have HB8 : Hid (Below wr.heap.size wr w8) := Lib.hid (wbelQ hb8); have hS2 := HCC.out w8 HB8.out; have HO8 := Lib.hid ho8; clear ho8 hb8)))
        all_goals
          clear hS0 hS1 hS2 hca hck mt0 mt1 mt2 mt3 mt4
          have HO9 : Hid (Own w.heap.size w8 sv (D.take t ++ [c] ++ D.drop (t + 1))) := Lib.hid (own_mono HO8.out (by have := HB6w.out.size; have := HB.out.size; simp; omega))
          go_wp2_with fail
          go_roundw
          case rel => exact ⟨k + 1, _, by omega, by go_num, HL2.out, HO9.out, bel_trans HB.out HB8.out⟩
          case measure => simp [intOf]; omega
      · obtain rfl : k = an := by omega
        have t1 : decide (k < k) = false := by simp
        have HBw : Hid (Below w.heap.size w wr) := Lib.hid (bel_trans HB6w.out HB.out)
        have HGR : Hid (wr.heap[gb]? = some (.cells #[.int .i64 (n : Int), .int .i64 20, .int .i64 6, .int .i64 256] 27 (0, 0))) := Lib.hid ((HB.out.block gb (Array.getElem?_eq_some_iff.1 HG6.out).1).trans HG6.out)
        have HOV := Lib.hid (own_keep HO6.out HB.out)
        clear HG6 HO6 HB6 HD0 HA HC
        go_upto_if 72 with fail
        obtain ⟨V0, hV0⟩ : ∃ x, x = wr := ⟨_, rfl⟩
        rw [← hV0] at HO HB HDR HBw HGR HOV
        have HV0 := Lib.hid hV0
        clear hV0
        go_cut [10] (fun ov wx => ∃ O : List Nat, O.length = 64 ∧ Own w.heap.size wx ov O ∧ Below V0.heap.size V0 wx)
        case first =>
          cases re with
          | true =>
            have HSE : Hid (Calls Try.prog 15 #[.slice (some ⟨db, 0, none⟩) 256 dc, .int .i64 1] V0 (RetOwn V0 (sealB (memH 1) D []))) := Lib.hid (refMemSealed_any 1 (by omega) (some ⟨db, 0, none⟩) 256 dc D V0 HDR.out.1 (by omega) (fun h => by cases h))
            rw [HV0.out] at HSE
            go_wp2_with fail
            ((with_reducible refine HSE.out.mono ?_))
            rintro e w9 ⟨sv, rfl, ho9, hb9⟩
            have HX : Hid (Own w.heap.size w9 sv (sealB (memH 1) D []) ∧ Below V0.heap.size V0 w9) := Lib.hid ⟨own_mono ho9 (by rw [← HV0.out]; exact HBw.out.size), by rw [HV0.out]; exact hb9⟩
            clear ho9 hb9
            go_wp2_with fail
            go_meet
            exact ⟨_, sealB_len _ _ _, HX.out.1, HX.out.2⟩
          | false =>
            go_wp2_with fail
            go_meet
            exact ⟨_, sealB_len _ _ _, by rw [← HV0.out]; exact HOV.out, by rw [← HV0.out]; exact Below.refl _ _⟩
        case rest =>
        obtain ⟨O, hOl, hoo, hbo⟩ := hcut
        obtain ⟨ob, oc, rfl, hor, hoc, hom⟩ := own_slice hoo hOl (by omega)
        obtain ⟨Z, hZ⟩ : ∃ x, x = wc := ⟨_, rfl⟩
        rw [← hZ] at hor hbo ⊢
        have HRZ : Hid (∀ x, Below Z.heap.size Z x → Row x (some ⟨db, 0, none⟩) 256 D ∧ Row x (some ⟨ob, 0, none⟩) 64 O ∧ Below w.heap.size w x) := Lib.hid fun x hx => ⟨row_keep HDR.out.1 (bel_trans hbo hx) (Nat.le_refl _), row_keep hor hx (Nat.le_refl _), bel_trans HBw.out (bel_trans hbo hx)⟩
        have HGZ : Hid (Z.heap[gb]? = some (.cells #[.int .i64 (n : Int), .int .i64 20, .int .i64 6, .int .i64 256] 27 (0, 0))) := Lib.hid ((hbo.block gb (Array.getElem?_eq_some_iff.1 HGR.out).1).trans HGR.out)
        have HOC := Lib.hid (And.intro hoc hom)
        clear hZ hoo hor hbo hOl hoc hom HOV HO HV0
        obtain ⟨y0, y1, y2, y3⟩ := mfour_at HGZ.out
        obtain ⟨m3, hm3, hm3a, hm3b⟩ := mod3 ot
        obtain ⟨tb, htb⟩ : ∃ z, z = (m3 == 0) := ⟨_, rfl⟩
        have htq := htb.symm
        clear htb
        go_upto_if 78 with fail
        have gh := heap_alloc_new Z (.cells #[.int .i64 (n : Int), .int .i64 20, .int .i64 6, .int .i64 256] 27)
        have hbh := bel_alloc (Below.refl Z.heap.size Z) (.cells #[.int .i64 (n : Int), .int .i64 20, .int .i64 6, .int .i64 256] 27)
        obtain ⟨Y, hY⟩ : ∃ x, x = Z.alloc (.cells #[.int .i64 (n : Int), .int .i64 20, .int .i64 6, .int .i64 256] 27) := ⟨_, rfl⟩
        obtain ⟨hx, hhx⟩ : ∃ x, x = Z.heap.size := ⟨_, rfl⟩
        rw [← hY] at gh hbh ⊢
        rw [← hhx] at gh hbh ⊢
        have GH := Lib.hid gh
        have HBY : Hid (Below hx Z Y ∧ hx = Z.heap.size) := Lib.hid ⟨hbh, hhx⟩
        clear hY hhx gh hbh hm3 hm3a hm3b htq y0 y1 y2 y3 HGZ
        go_cut [] (fun wx => ∃ m : Nat, 3 ≤ m ∧ m ≤ 16 ∧ wx.heap[hx]? = some (.cells #[.int .i64 (m : Int), .int .i64 20, .int .i64 6, .int .i64 256] 27 (0, 0)) ∧ Below hx Z wx)
        case first =>
          cases tb with
          | true =>
            have HS2 := Lib.hid (memShape_any ot Y)
            obtain ⟨_, hm3, hm16⟩ := mod14_eq ot
            obtain ⟨m, hm⟩ : ∃ m, m = memN ot := ⟨_, rfl⟩
            rw [← hm] at HS2 hm3 hm16
            have HM := Lib.hid (And.intro hm3 hm16)
            clear hm hm3 hm16
            go_wp2_with fail
            ((with_reducible refine HS2.out.mono ?_))
            rintro e w9 ⟨rfl, hb9⟩
            have g9 := (hb9.block hx (Array.getElem?_eq_some_iff.1 GH.out).1).trans GH.out
            obtain ⟨y0, y1, y2, y3⟩ := mfour_at g9
            have yf := mfree_at g9
            have f0 := yf 0
            have f1 := yf 1
            have f2 := yf 2
            have f3 := yf 3
            have s0 := heap_setCell_same w9 hx 0 _ _ (.int .i64 (m : Int)) g9
            have s1 := heap_setCell_same _ hx 1 _ _ (.int .i64 20) s0
            have s2 := heap_setCell_same _ hx 2 _ _ (.int .i64 6) s1
            have s3 := heap_setCell_same _ hx 3 _ _ (.int .i64 256) s2
            have HS3 : Hid (((((w9.setCell ⟨hx, 0, none⟩ (.int .i64 (m : Int))).setCell ⟨hx, 1, none⟩ (.int .i64 20)).setCell ⟨hx, 2, none⟩ (.int .i64 6)).setCell ⟨hx, 3, none⟩ (.int .i64 256)).heap[hx]? = some (.cells #[.int .i64 (m : Int), .int .i64 20, .int .i64 6, .int .i64 256] 27 (0, 0))) := Lib.hid (by simpa using s3)
            have HB9 : Hid (Below hx Z ((((w9.setCell ⟨hx, 0, none⟩ (.int .i64 (m : Int))).setCell ⟨hx, 1, none⟩ (.int .i64 20)).setCell ⟨hx, 2, none⟩ (.int .i64 6)).setCell ⟨hx, 3, none⟩ (.int .i64 256))) := Lib.hid (((((HBY.out.1.trans (hb9.mono (Nat.le_of_lt (Array.getElem?_eq_some_iff.1 GH.out).1))).setCell (p := ⟨hx, 0, none⟩) (Nat.le_refl hx) _).setCell (p := ⟨hx, 1, none⟩) (Nat.le_refl hx) _).setCell (p := ⟨hx, 2, none⟩) (Nat.le_refl hx) _).setCell (p := ⟨hx, 3, none⟩) (Nat.le_refl hx) _)
            clear yf g9 s0 s1 s2 s3 hb9
            go_wp2_with fail
            go_meet
            exact ⟨m, HM.out.1, HM.out.2, HS3.out, HB9.out⟩
          | false =>
            go_wp2_with fail
            go_meet
            exact ⟨n, HN.out.1, HN.out.2, GH.out, HBY.out.1⟩
        case rest =>
        obtain ⟨m, hm3, hm16, hgm, hbm⟩ := hcut
        obtain ⟨X, hX⟩ : ∃ x, x = wc := ⟨_, rfl⟩
        rw [← hX] at hgm hbm ⊢
        have hbm' : Below Z.heap.size Z X := by rw [← HBY.out.2]; exact hbm
        obtain ⟨hrd, hro, hbx⟩ := HRZ.out X hbm'
        have HPA := Lib.hid (memParse_any m D O (some ⟨db, 0, none⟩) (some ⟨ob, 0, none⟩) dc oc X hm3 hm16 hrd (fun h => by cases h) hro HOC.out.1 HOC.out.2)
        have HPR : Hid (∀ x, Below X.heap.size X x → Calls Try.prog 16 #[.agg #[.int .i64 (m : Int), .int .i64 20, .int .i64 6, .int .i64 256], .slice (some ⟨db, 0, none⟩) 256 dc, .slice (some ⟨ob, 0, none⟩) 64 oc] x (RefParRet x (parSq m D O) (parL m D O) (parAt m D O 0) (parAt m D O 1) (parAt m D O 2) (parCode m D O))) := Lib.hid fun x hx => refMemParse_any m D O _ _ dc oc x hm16 (row_keep hrd hx (Nat.le_refl _)) HDR.out.2 (row_keep hro hx (Nat.le_refl _)) HOC.out.1 HOC.out.2
        have HDB : Hid (∀ x ∈ D, x < 256) := Lib.hid hrd.2.1
        have HBX := Lib.hid hbx
        have HGX := Lib.hid hgm
        clear hX hgm hbm hbm' hrd hro hbx hm3 hm16 HRZ GH HBY HGR
        have hsq : parSq m D O < 4294967296 := by
          unfold parSq
          split
          · unfold sqP
            have h1 := leVal_lt (D.take 4) (fun y hy => HDB.out y (List.mem_of_mem_take hy))
            rw [List.length_take, HDL.out] at h1
            simpa using h1
          · omega
        have hPL : ∀ x ∈ parL m D O, x < 256 := by
          unfold parL
          split
          · exact chP_lt HDB.out
          · simp
        generalize parSq m D O = sq at *
        generalize parL m D O = PL at *
        generalize parAt m D O 0 = p0 at *
        generalize parAt m D O 1 = p1 at *
        generalize parAt m D O 2 = p2 at *
        obtain ⟨pc, hpc, hpcw⟩ : ∃ z : Int, z = parCode m D O ∧ IntKind.i64.wrap z = z := ⟨_, rfl, by unfold parCode; split; (split <;> decide); decide⟩
        rw [← hpc] at HPA HPR
        have HPL := Lib.hid (intsN_inR hPL)
        have HSQ := Lib.hid hsq
        clear hpc hPL hsq
        obtain ⟨y0, y1, y2, y3⟩ := mfour_at HGX.out
        go_wp2_with fail
        ((with_reducible refine HPA.out.mono ?_))
        rintro e x1 ⟨cv, rfl, hco, hb1⟩
        obtain ⟨ta, tc, rfl, hrt, _⟩ := ownI_row hco HPL.out
        have HPR1 := Lib.hid (fun x hx => HPR.out x (bel_trans hb1 hx))
        have HG1 := Lib.hid ((hb1.block hx (Array.getElem?_eq_some_iff.1 HGX.out).1).trans HGX.out)
        have HB1 := Lib.hid (bel_trans HBX.out hb1)
        have HRT := Lib.hid hrt
        clear hco hb1 hrt y0 y1 y2 y3 HPA HPR HGX HBX
        have HNL : Hid (RowI x1 ta (intsN PL).length tc (intsN PL)) := HRT
        obtain ⟨N, hN⟩ : ∃ x, x = (intsN PL).length := ⟨_, rfl⟩
        rw [← hN] at HNL ⊢
        have HN2 := Lib.hid hN
        clear hN HRT
        go_upto_region 16 with fail
        have hs2 := heap_alloc_new x1 (.cells #[.int .u32 (sq : Int), .slice ta N tc, .int .i64 (p0 : Int), .int .i64 (p1 : Int), .int .i64 (p2 : Int)] 31)
        have hb2 := bel_alloc (Below.refl x1.heap.size x1) (.cells #[.int .u32 (sq : Int), .slice ta N tc, .int .i64 (p0 : Int), .int .i64 (p1 : Int), .int .i64 (p2 : Int)] 31)
        obtain ⟨x2, hx2⟩ : ∃ x, x = x1.alloc (.cells #[.int .u32 (sq : Int), .slice ta N tc, .int .i64 (p0 : Int), .int .i64 (p1 : Int), .int .i64 (p2 : Int)] 31) := ⟨_, rfl⟩
        obtain ⟨sb, hsb⟩ : ∃ x, x = x1.heap.size := ⟨_, rfl⟩
        rw [← hx2] at hs2 hb2 ⊢
        rw [← hsb] at hs2 ⊢
        have HS2 := Lib.hid hs2
        have HB2 := Lib.hid (bel_trans HB1.out hb2)
        have HR2 := Lib.hid (rowI_below HNL.out hb2)
        have HP2 := Lib.hid (HPR1.out x2 hb2)
        obtain ⟨y0, y1, y2, y3⟩ := mfour_at ((hb2.block hx (Array.getElem?_eq_some_iff.1 HG1.out).1).trans HG1.out)
        clear hx2 hsb hs2 hb2 HPR1 HG1 HB1 HNL
        go_wp2_with fail
        ((with_reducible refine HP2.out.mono ?_))
        rintro e x3 ⟨cv, rfl, hco, hb3⟩
        obtain ⟨ua, uc, rfl, hru, _⟩ := ownI_row hco HPL.out
        rw [← HN2.out] at hru ⊢
        have HS3 := Lib.hid ((hb3.block sb (Array.getElem?_eq_some_iff.1 HS2.out).1).trans HS2.out)
        have HB3' := Lib.hid (bel_trans HB2.out hb3)
        have HR3 := Lib.hid (rowI_below HR2.out hb3)
        have HU3 := Lib.hid hru
        clear hco hb3 hru y0 y1 y2 y3 HP2 HS2 HB2 HR2
        go_upto_region 17 with fail
        have hs4 := heap_alloc_new x3 (.cells #[.int .i64 (sq : Int), .slice ua N uc, .int .i64 (p0 : Int), .int .i64 (p1 : Int), .int .i64 (p2 : Int)] 42)
        have hb4 := bel_alloc (Below.refl x3.heap.size x3) (.cells #[.int .i64 (sq : Int), .slice ua N uc, .int .i64 (p0 : Int), .int .i64 (p1 : Int), .int .i64 (p2 : Int)] 42)
        obtain ⟨x4, hx4⟩ : ∃ x, x = x3.alloc (.cells #[.int .i64 (sq : Int), .slice ua N uc, .int .i64 (p0 : Int), .int .i64 (p1 : Int), .int .i64 (p2 : Int)] 42) := ⟨_, rfl⟩
        obtain ⟨ub, hub⟩ : ∃ x, x = x3.heap.size := ⟨_, rfl⟩
        rw [← hx4] at hs4 hb4 ⊢
        rw [← hub] at hs4 ⊢
        have HS4 := Lib.hid ((hb4.block sb (Array.getElem?_eq_some_iff.1 HS3.out).1).trans HS3.out)
        have HU4 := Lib.hid hs4
        have HB4' := Lib.hid (bel_trans HB3'.out hb4)
        have HR4' := Lib.hid (And.intro (rowI_below HR3.out hb4) (rowI_below HU3.out hb4))
        clear hx4 hub hs4 hb4 HS3 HR3 HU3 HB3'
        obtain ⟨C, hCd⟩ : ∃ C : World → Prop, (∀ x, C x → Below x4.heap.size x4 x) ∧ (∀ x, Below x4.heap.size x4 x → C x) := ⟨_, fun _ h => h, fun _ h => h⟩
        have hC0 := hCd.2 _ (Below.refl x4.heap.size x4).drew
        haveI hne : Nonempty (Wd C) := ⟨⟨_, hC0⟩⟩
        have HCD := Lib.hid hCd
        clear hCd
        have HTP : Hid (∀ y : Wd C, y.w.heap[sb]? = some (.cells #[.int .u32 (sq : Int), .slice ta N tc, .int .i64 (p0 : Int), .int .i64 (p1 : Int), .int .i64 (p2 : Int)] 31 (0, 0))) := Lib.hid fun y => ((HCD.out.1 _ y.ok).block _ (Array.getElem?_eq_some_iff.1 HS4.out).1).trans HS4.out
        have HTU : Hid (∀ y : Wd C, y.w.heap[ub]? = some (.cells #[.int .i64 (sq : Int), .slice ua N uc, .int .i64 (p0 : Int), .int .i64 (p1 : Int), .int .i64 (p2 : Int)] 42 (0, 0))) := Lib.hid fun y => ((HCD.out.1 _ y.ok).block _ (Array.getElem?_eq_some_iff.1 HU4.out).1).trans HU4.out
        have f0 : ∀ y : Wd C, y.w.cell? ⟨sb, 0, none⟩ = some (.int .u32 (sq : Int)) := fun y => (five_at (HTP.out y)).1
        have f1 : ∀ y : Wd C, y.w.cell? ⟨sb, 1, none⟩ = some (.slice ta N tc) := fun y => (five_at (HTP.out y)).2.1
        have f2 : ∀ y : Wd C, y.w.cell? ⟨sb, 2, none⟩ = some (.int .i64 (p0 : Int)) := fun y => (five_at (HTP.out y)).2.2.1
        have f3 : ∀ y : Wd C, y.w.cell? ⟨sb, 3, none⟩ = some (.int .i64 (p1 : Int)) := fun y => (five_at (HTP.out y)).2.2.2.1
        have f4 : ∀ y : Wd C, y.w.cell? ⟨sb, 4, none⟩ = some (.int .i64 (p2 : Int)) := fun y => (five_at (HTP.out y)).2.2.2.2
        have u0 : ∀ y : Wd C, y.w.cell? ⟨ub, 0, none⟩ = some (.int .i64 (sq : Int)) := fun y => (five_at (HTU.out y)).1
        have u1 : ∀ y : Wd C, y.w.cell? ⟨ub, 1, none⟩ = some (.slice ua N uc) := fun y => (five_at (HTU.out y)).2.1
        have u2 : ∀ y : Wd C, y.w.cell? ⟨ub, 2, none⟩ = some (.int .i64 (p0 : Int)) := fun y => (five_at (HTU.out y)).2.2.1
        have u3 : ∀ y : Wd C, y.w.cell? ⟨ub, 3, none⟩ = some (.int .i64 (p1 : Int)) := fun y => (five_at (HTU.out y)).2.2.2.1
        have u4 : ∀ y : Wd C, y.w.cell? ⟨ub, 4, none⟩ = some (.int .i64 (p2 : Int)) := fun y => (five_at (HTU.out y)).2.2.2.2
        have HST0 : Hid (∀ (y : Wd C) (z : World), Below y.w.heap.size y.w z → C z) := Lib.hid fun y z hb => HCD.out.2 _ (bel_trans (HCD.out.1 _ y.ok) hb)
        have HOF2 := Lib.hid fun (y : Wd C) => memOf_any (sq : Int) ta N tc (p0 : Int) (p1 : Int) (p2 : Int) y.w (by omega) (by have := HSQ.out; omega)
        have HSM : Hid (∀ y : Wd C, Calls Try.prog 10 #[setV (sq : Int) ta N tc (p0 : Int) (p1 : Int) (p2 : Int), .agg #[.int .i64 (sq : Int), .slice ua N uc, .int .i64 (p0 : Int), .int .i64 (p1 : Int), .int .i64 (p2 : Int)]] y.w fun e w' => e = .returned (.bool true) ∧ Below y.w.heap.size y.w w') := Lib.hid fun y : Wd C => memSame_yes (sq : Int) (p0 : Int) (p1 : Int) (p2 : Int) ta ua N tc uc (intsN PL) y.w (rowI_below HR4'.out.1 (HCD.out.1 _ y.ok)) (rowI_below HR4'.out.2 (HCD.out.1 _ y.ok))
        have tpc : (pc == pc) = true := by simp
        refine wp_region_wd C (by kernel_rfl) (by kernel_rfl) hC0 ?_
        repeat (go_big_quiet_step (first
          | (go_at_call 11; with_reducible exact Calls.wd (HST0.out _) (HOF2.out _))
          | (go_at_call 10; with_reducible exact Calls.wd (HST0.out _) (HSM.out _))))
        refine wpQuiet_nil ?_
        intro _ hw'
        obtain ⟨y, rfl⟩ := hw'
        have HY : Hid (Below w.heap.size w y.w) := Lib.hid (bel_trans HB4'.out (HCD.out.1 _ y.ok))
        clear f0 f1 f2 f3 f4 u0 u1 u2 u3 u4
        go_wp2_with fail
        go_ret
        exact ⟨rfl, HY.out⟩
end Go.Proofs.Ytdljihemnfpkaaa
