/- gabionref12.Page and Sealed. -/
import Derived.Test.YtdljihemnfpkaaaMemPage
import Derived.Test.YtdljihemnfpkaaaRRefOpen
namespace Go.Proofs.Ytdljihemnfpkaaa
open Go.RowKit Go.Deep

theorem memH_fits {sq : Nat} (hq : sq < 4294967296) : (memH sq).Fits := ⟨by show 2 < _; omega, hq, by show 0 < _; omega, by show 0 < _; omega, by show 1 < _; omega, by show 0 < _; omega, by show 0 < _; omega⟩
theorem refMemSeal (sq : Nat) (hq : sq < 4294967296) (a : Option Addr) (len cap : Nat) (ds : List Nat) (w : World) (hr : Row w a len ds) (hl : len ≤ 1000) (hn : a = none → cap = 0) :
    Calls Try.prog 32 #[.agg #[.int .i64 2, .int .i64 (sq : Int), .int .i64 0, .int .i64 0, .int .i64 1, .int .i64 0, .int .i64 0], .slice a len cap, .slice none 0 0] w (RetOwn w (sealB (memH sq) ds [])) :=
  refSeal_any (memH sq) (memH_fits hq) a len cap ds none 0 0 [] w hr hl hn ⟨rfl, (fun x hx => by cases hx), fun h => by omega⟩ (Nat.le_refl _) (Nat.zero_le _) (fun _ => rfl) (by omega)
set_option maxRecDepth 100000 in
theorem refMemSealed_any (sq : Nat) (hq : sq < 4294967296) (a : Option Addr) (len cap : Nat) (ds : List Nat) (w : World) (hr : Row w a len ds) (hl : len ≤ 1000) (hn : a = none → cap = 0) :
    Calls Try.prog 15 #[.slice a len cap, .int .i64 (sq : Int)] w (RetOwn w (sealB (memH sq) ds [])) := by
  have HS := Lib.hid (refMemSeal sq hq a len cap ds w hr hl hn)
  clear hr hn
  go_enter Try.func15, Try.ntmps15
  go_wp2_with fail
  ((with_reducible refine HS.out.mono ?_))
  rintro e w1 ⟨v, rfl, ho, hb⟩
  go_wp2
  go_ret
  exact ⟨v, rfl, ho, hb⟩
theorem own_capR {B : Nat} {x : World} {a : Option Addr} {n c : Nat} {l : List Nat} (h : Own B x (.slice a n c) l) : n ≤ c ∧ c ≤ maxLen := by
  rcases h.1.2 with ⟨e, _⟩ | ⟨g, cp, cur, e1, _, _, e4, e5, _⟩
  · cases e; exact ⟨Nat.le_refl _, Nat.zero_le _⟩
  · have e6 := e1
    simp only [Value.slice.injEq] at e6
    obtain ⟨_, h2, h3⟩ := e6
    have h7 := h.1.1
    refine ⟨?_, by omega⟩
    omega
theorem row_new3 (w : World) (x y z : Nat) (hx : x < 256) (hy : y < 256) (hz : z < 256) : Row (w.alloc (.cells #[.int .u8 (x : Int), .int .u8 (y : Int), .int .u8 (z : Int)] 5)) (some ⟨w.heap.size, 0, none⟩) 3 [x, y, z] :=
  row_u8 (l := [x, y, z]) (by simp; omega) (heap_alloc_new w _)
theorem geoBox_new (w : World) (u v : Array Value) (t1 t2 : TypeId) : ((w.alloc (.cells u t1)).alloc (.cells v t2)).heap[w.heap.size]? = some (.cells u t1 (0, 0)) ∧ ((w.alloc (.cells u t1)).alloc (.cells v t2)).heap[w.heap.size + 1]? = some (.cells v t2 (0, 0)) ∧ Below w.heap.size w ((w.alloc (.cells u t1)).alloc (.cells v t2)) ∧ ((w.alloc (.cells u t1)).alloc (.cells v t2)).heap.size = w.heap.size + 2 := by
  refine ⟨?_, ?_, bel_alloc (bel_alloc (Below.refl _ w) _) _, by simp⟩
  · rw [heap_alloc_oldm (by simp)]; exact heap_alloc_new w _
  · have := heap_alloc_new (w.alloc (.cells u t1)) (.cells v t2)
    simpa using this
def RefPageRet (w : World) (D O : List Nat) (e : Ending) (w' : World) : Prop :=
  ∃ v1 v2, e = .returned (.tuple #[v1, v2]) ∧ Own w.heap.size w' v1 D ∧ Own w.heap.size w' v2 O ∧ Below w.heap.size w w'
set_option maxRecDepth 100000 in
set_option maxHeartbeats 4000000 in
theorem refMemPage_any (sq : Nat) (a : Option Addr) (n c : Nat) (L : List Nat) (sp de dn : Nat) (w : World) (hq : sq < 4294967296) (hr : RowI w a n c (intsN L)) (hLn : L.length = n) (hn16 : n ≤ 16) (hL : ∀ x ∈ L, x < 256) (hsp : sp < 256) (hde : de < 256) (hdn : dn < 256) (P : List Nat) (hP : P = padTo (memB sq L sp de dn 20 6 256) 256) :
    Calls Try.prog 13 #[.agg #[.int .i64 (sq : Int), .slice a n c, .int .i64 (sp : Int), .int .i64 (de : Int), .int .i64 (dn : Int)], .agg #[.int .i64 (n : Int), .int .i64 20, .int .i64 6, .int .i64 256]] w (RefPageRet w P (sealB (memH sq) P [])) := by
  go_enter Try.func13, Try.ntmps13
  go_upto_region 1 with fail
  obtain ⟨q0, q1, q2, q3⟩ := geoBox_new w #[.int .i64 (sq : Int), .slice a n c, .int .i64 (sp : Int), .int .i64 (de : Int), .int .i64 (dn : Int)] #[.int .i64 (n : Int), .int .i64 20, .int .i64 6, .int .i64 256] 42 27
  obtain ⟨W, hW⟩ : ∃ x, x = (w.alloc (.cells #[.int .i64 (sq : Int), .slice a n c, .int .i64 (sp : Int), .int .i64 (de : Int), .int .i64 (dn : Int)] 42)).alloc (.cells #[.int .i64 (n : Int), .int .i64 20, .int .i64 6, .int .i64 256] 27) := ⟨_, rfl⟩
  obtain ⟨B, hB⟩ : ∃ x, x = w.heap.size := ⟨_, rfl⟩
  rw [← hW] at q0 q1 q2 q3 ⊢
  rw [← hB] at q0 q1 q3 ⊢
  have HX : Hid (∀ x, Below W.heap.size W x → x.heap[B]? = some (.cells #[.int .i64 (sq : Int), .slice a n c, .int .i64 (sp : Int), .int .i64 (de : Int), .int .i64 (dn : Int)] 42 (0, 0)) ∧ x.heap[B + 1]? = some (.cells #[.int .i64 (n : Int), .int .i64 20, .int .i64 6, .int .i64 256] 27 (0, 0)) ∧ RowI x a n c (intsN L) ∧ Below w.heap.size w x) := Lib.hid fun x hx => ⟨(hx.block _ (by omega)).trans q0, (hx.block _ (by omega)).trans q1, rowI_below (rowI_below hr q2) hx, bel_trans q2 hx⟩
  have HZ : Hid (w.heap.size ≤ W.heap.size) := Lib.hid (by omega)
  have HLN := Lib.hid hLn
  have HLB := Lib.hid hL
  have HPP := Lib.hid hP
  have HSEAL : Hid (∀ (x : World) (a' : Option Addr) (cap' : Nat), Row x a' 256 P → (a' = none → cap' = 0) → Calls Try.prog 32 #[.agg #[.int .i64 2, .int .i64 (sq : Int), .int .i64 0, .int .i64 0, .int .i64 1, .int .i64 0, .int .i64 0], .slice a' 256 cap', .slice none 0 0] x (RetOwn x (sealB (memH sq) P []))) := Lib.hid fun x a' cap' h1 h2 => refMemSeal sq hq a' 256 cap' P x h1 (by omega) h2
  have m1 : IntKind.u64.wrap (sq : Int) = (sq : Int) := by rw [IntKind.wrap_u64]; omega
  have mn : IntKind.u8.wrap (n : Int) = (n : Int) := by rw [IntKind.wrap_u8]; omega
  have msp : IntKind.u8.wrap (sp : Int) = (sp : Int) := by rw [IntKind.wrap_u8]; omega
  have mde : IntKind.u8.wrap (de : Int) = (de : Int) := by rw [IntKind.wrap_u8]; omega
  have mdn : IntKind.u8.wrap (dn : Int) = (dn : Int) := by rw [IntKind.wrap_u8]; omega
  clear hW q0 q1 q2 q3 hr hLn hL hP hB
  have hb0 : Below W.heap.size W W := Below.refl _ _
  obtain ⟨hx0, hx1, hxr, _⟩ := HX.out W hb0
  obtain ⟨s0, s1, s2, s3, s4⟩ := five_at hx0
  obtain ⟨g0, g1, g2, g3⟩ := mfour_at hx1
  clear hx0 hx1
  clear hxr
  go_wp2_with fail
  refine (bytes_any sq 4 W (by omega) (by omega)).mono ?_
  rintro e w1 ⟨v1, rfl, ho1, hb1⟩
  clear s0 s1 s2 s3 s4 g0 g1 g2 g3 hb0 m1
  obtain ⟨hx0, hx1, hxr, _⟩ := HX.out w1 hb1
  obtain ⟨s0, s1, s2, s3, s4⟩ := five_at hx0
  obtain ⟨g0, g1, g2, g3⟩ := mfour_at hx1
  clear hx0 hx1
  clear hxr
  have HO1 := Lib.hid ho1
  have hrk := row_new1 w1 n (by omega)
  have hbk := bel_alloc hb1 (.cells #[.int .u8 (n : Int)] 5)
  have hok := own_alloc ho1 (.cells #[.int .u8 (n : Int)] 5)
  have hzk := hbk.size
  clear ho1 hb1
  go_wp2_with (at_builtin; refine wpList_app rfl _ _ rfl W.heap.size _ _ rfl hok _ 1 1 [n] rfl hrk (fun e => by cases e) hzk (by simp [Crc.les_len]) ?_)
  intro v2 w2 hap
  have HO2 := Lib.hid hap.own
  have HB2 : Hid (Below W.heap.size W w2) := Lib.hid (hbk.trans hap.below)
  clear hap hok hbk hzk hrk mn HO1 s0 s1 s2 s3 s4 g0 g1 g2 g3
  go_wp2_with fail
  go_loopw [6, 7] (fun bv iv wr => ∃ k : Nat, k ≤ n ∧ iv = .int .i64 (k : Int) ∧ Own W.heap.size wr bv ((Crc.les 4 sq ++ [n]) ++ L.take k) ∧ Below W.heap.size W wr) (fun _ iv _ => n - (intOf iv).toNat)
  case atStart => exact ⟨0, Nat.zero_le _, rfl, by rw [List.take_zero, List.append_nil]; exact HO2.out, HB2.out⟩
  case round =>
    obtain ⟨k, hk, rfl, ho, hb⟩ := hrel
    have HO := Lib.hid ho
    have HB := Lib.hid hb
    obtain ⟨hx0, hx1, hxr, _⟩ := HX.out wr hb
    obtain ⟨s0, s1, s2, s3, s4⟩ := five_at hx0
    obtain ⟨g0, g1, g2, g3⟩ := mfour_at hx1
    clear hx0 hx1 ho hb HO2 HB2
    by_cases hlt : k < n
    · have t1 : decide (k < n) = true := by simpa using hlt
      obtain ⟨x, hx⟩ : ∃ x, x = L.getD k 0 := ⟨_, rfl⟩
      have hx256 : x < 256 := by rw [hx]; exact getD_lt HLB.out k
      have mx : IntKind.u8.wrap (x : Int) = (x : Int) := by rw [IntKind.wrap_u8]; omega
      obtain ⟨eb, eo, rfl, hcell, hnc, hcm⟩ := rowI_at hxr hlt
      have hgx : (intsN L).getD k 0 = (x : Int) := by rw [hx]; unfold intsN; simp [List.getD, show k < L.length by rw [HLN.out]; exact hlt]
      rw [hgx] at hcell
      have htk : (Crc.les 4 sq ++ [n]) ++ L.take (k + 1) = ((Crc.les 4 sq ++ [n]) ++ L.take k) ++ [x] := by rw [take_snoc_getD _ k (by rw [HLN.out]; exact hlt), ← hx]; simp
      have HTK := Lib.hid htk
      have hrk := row_new1 wr x hx256
      have hbk := bel_alloc HB.out (.cells #[.int .u8 (x : Int)] 5)
      have hok := own_alloc HO.out (.cells #[.int .u8 (x : Int)] 5)
      have hzk := hbk.size
      have hln : ((Crc.les 4 sq ++ [n]) ++ L.take k).length + 1 ≤ 140737488355328 := by simp [Crc.les_len]; omega
      have i0 : (0 : Int) ≤ (k : Int) := by omega
      have i1 : (k : Int) < (n : Int) := by omega
      clear hx hgx htk hxr
      go_wp2_with (at_builtin; refine wpList_app rfl _ _ rfl W.heap.size _ _ rfl hok _ 1 1 [x] rfl hrk (fun e => by cases e) hzk hln ?_)
      intro v3 w3 hap
      have HO3 := Lib.hid hap.own
      have HB3 : Hid (Below W.heap.size W w3) := Lib.hid (hbk.trans hap.below)
      clear hap hok hbk hzk hrk s0 s1 s2 s3 s4 g0 g1 g2 g3 hcell
      go_wp2_with fail
      go_roundw
      case rel => exact ⟨k + 1, by omega, by go_num, by rw [HTK.out]; exact HO3.out, HB3.out⟩
      case measure => simp [intOf]; omega
    · obtain rfl : k = n := by omega
      have t1 : decide (k < k) = false := by simp
      have htl : L.take k = L := List.take_of_length_le (by rw [HLN.out]; exact Nat.le_refl _)
      have ho4 := HO.out
      have hb4 := HB.out
      rw [htl] at ho4
      obtain ⟨lk, hlk⟩ : ∃ l, l = (Crc.les 4 sq ++ [k]) ++ L := ⟨_, rfl⟩
      rw [← hlk] at ho4
      have HLK := Lib.hid hlk
      have hrk := row_new3 wr sp de dn hsp hde hdn
      have hbk := bel_alloc hb4 (.cells #[.int .u8 (sp : Int), .int .u8 (de : Int), .int .u8 (dn : Int)] 5)
      have hok := own_alloc ho4 (.cells #[.int .u8 (sp : Int), .int .u8 (de : Int), .int .u8 (dn : Int)] 5)
      have hzk := hbk.size
      have hlkn : lk.length ≤ 90 := by rw [hlk]; simp [Crc.les_len, HLN.out]; omega
      clear htl ho4 hb4 hxr HO hlk
      go_wp2_with (at_builtin; refine wpList_app rfl _ _ rfl W.heap.size _ _ rfl hok _ 3 3 [sp, de, dn] rfl hrk (fun e => by cases e) hzk (by omega) ?_)
      intro v5 w5 hap
      have ho5 := hap.own
      have hb5 : Below W.heap.size W w5 := hbk.trans hap.below
      obtain ⟨l5, hl5⟩ : ∃ l, l = lk ++ [sp, de, dn] := ⟨_, rfl⟩
      rw [← hl5] at ho5
      have hn5 : l5.length ≤ 100 := by rw [hl5]; simp; omega
      have HL5 := Lib.hid hl5
      clear hl5 hap hok hbk hzk hrk hlkn s0 s1 s2 s3 s4 g0 g1 g2 g3
      obtain ⟨hx0, hx1, _, _⟩ := HX.out w5 hb5
      obtain ⟨g0, g1, g2, g3⟩ := mfour_at hx1
      clear hx0 hx1
      go_wp2_with fail
      refine (bytes_any 20 2 w5 (by omega) (by omega)).mono ?_
      intro e w6 hx
      obtain ⟨a_, k_, rfl, hrx, hnx, _, hbx⟩ := retOwn_len hx
      rw [Crc.les_len] at hrx ⊢
      have hox := own_up ho5 hbx
      have hby := hb5.trans (hbx.mono hb5.size)
      have hzy := hby.size
      clear ho5 hb5 hx hbx g0 g1 g2 g3
      go_wp2_with (at_builtin; refine wpList_app rfl _ _ rfl W.heap.size _ _ rfl hox a_ 2 k_ (Crc.les 2 20) rfl hrx hnx hzy (by omega) ?_)
      intro v7 w7 hap
      have ho7 := hap.own
      have hb7 : Below W.heap.size W w7 := hby.trans hap.below
      obtain ⟨l7, hl7⟩ : ∃ l, l = l5 ++ Crc.les 2 20 := ⟨_, rfl⟩
      rw [← hl7] at ho7
      have hn7 : l7.length ≤ 102 := by rw [hl7, List.length_append, Crc.les_len]; omega
      have HL7 := Lib.hid hl7
      clear hl7 hap hox hby hzy hrx hnx hn5
      obtain ⟨hx0, hx1, _, _⟩ := HX.out w7 hb7
      obtain ⟨g0, g1, g2, g3⟩ := mfour_at hx1
      clear hx0 hx1
      go_wp2_with fail
      refine (bytes_any 6 2 w7 (by omega) (by omega)).mono ?_
      intro e w8 hx
      obtain ⟨a_, k_, rfl, hrx, hnx, _, hbx⟩ := retOwn_len hx
      rw [Crc.les_len] at hrx ⊢
      have hox := own_up ho7 hbx
      have hby := hb7.trans (hbx.mono hb7.size)
      have hzy := hby.size
      clear ho7 hb7 hx hbx g0 g1 g2 g3
      go_wp2_with (at_builtin; refine wpList_app rfl _ _ rfl W.heap.size _ _ rfl hox a_ 2 k_ (Crc.les 2 6) rfl hrx hnx hzy (by omega) ?_)
      intro v9 w9 hap
      have ho9 := hap.own
      have hb9 : Below W.heap.size W w9 := hby.trans hap.below
      obtain ⟨l9, hl9⟩ : ∃ l, l = l7 ++ Crc.les 2 6 := ⟨_, rfl⟩
      rw [← hl9] at ho9
      have hn9 : l9.length ≤ 104 := by rw [hl9, List.length_append, Crc.les_len]; omega
      have HL9 := Lib.hid hl9
      clear hl9 hap hox hby hzy hrx hnx hn7
      obtain ⟨hx0, hx1, _, _⟩ := HX.out w9 hb9
      obtain ⟨g0, g1, g2, g3⟩ := mfour_at hx1
      clear hx0 hx1
      go_wp2_with fail
      refine (bytes_any 256 2 w9 (by omega) (by omega)).mono ?_
      intro e w10 hx
      obtain ⟨a_, k_, rfl, hrx, hnx, _, hbx⟩ := retOwn_len hx
      rw [Crc.les_len] at hrx ⊢
      have hox := own_up ho9 hbx
      have hby := hb9.trans (hbx.mono hb9.size)
      have hzy := hby.size
      clear ho9 hb9 hx hbx g0 g1 g2 g3
      go_wp2_with (at_builtin; refine wpList_app rfl _ _ rfl W.heap.size _ _ rfl hox a_ 2 k_ (Crc.les 2 256) rfl hrx hnx hzy (by omega) ?_)
      intro v11 w11 hap
      have ho11 := hap.own
      have hb11 : Below W.heap.size W w11 := hby.trans hap.below
      obtain ⟨l11, hl11⟩ : ∃ l, l = l9 ++ Crc.les 2 256 := ⟨_, rfl⟩
      rw [← hl11] at ho11
      have hn11 : l11.length ≤ 106 := by rw [hl11, List.length_append, Crc.les_len]; omega
      have HL11 := Lib.hid hl11
      clear hl11 hap hox hby hzy hrx hnx hn9
      obtain ⟨hx0, hx1, _, _⟩ := HX.out w11 hb11
      obtain ⟨g0, g1, g2, g3⟩ := mfour_at hx1
      clear hx0 hx1
      obtain ⟨pa, pc, rfl, hrp, hmp⟩ := row_of_own ho11
      have hnp := own_nocap ho11
      have hcp := own_capR ho11
      have hPe : padTo l11 256 = P := by rw [HPP.out, HL11.out, HL9.out, HL7.out, HL5.out, HLK.out]; unfold memB; simp [HLN.out]
      have HPE := Lib.hid hPe
      have HOW := Lib.hid ho11
      have HBW := Lib.hid hb11
      clear hPe ho11 hb11
      go_wp2_with fail
      refine (refPad_any pa _ pc l11 w11 hrp hcp.1 hcp.2 hnp (by omega) 256 (by omega) (by omega)).mono ?_
      rintro e wp hx
      rw [HPE.out] at hx
      have hPl : P.length = 256 := by rw [← HPE.out]; unfold padTo; rw [List.length_append, List.length_replicate]; show l11.length + (256 - l11.length) = 256; omega
      obtain ⟨da, dc, rfl, hrd, hnd, hod, hbd⟩ := retOwn_len hx
      rw [hPl] at hrd ⊢
      rw [hPl] at hod
      have HOD := Lib.hid (own_mono hod (Nat.le_trans HZ.out HBW.out.size))
      have hbp := HBW.out.trans (hbd.mono HBW.out.size)
      have HBP := Lib.hid hbp
      obtain ⟨hx0, hx1, _, _⟩ := HX.out wp hbp
      obtain ⟨s0, s1, s2, s3, s4⟩ := five_at hx0
      clear hx0 hx1 hx hod hbd hbp g0 g1 g2 g3 hrp hmp hnp hcp hPl
      go_wp2_with fail
      ((with_reducible refine (HSEAL.out wp da dc hrd hnd).mono ?_))
      rintro e wz ⟨ov, rfl, hoo, hbo⟩
      clear s0 s1 s2 s3 s4
      go_wp2
      refine bodyPost_ret (v := .tuple #[.slice da 256 dc, ov]) (by simp [results, Try.results13, go_sem]) rfl ?_
      exact ⟨_, _, rfl, own_keep HOD.out hbo, own_mono hoo (Nat.le_trans HZ.out HBP.out.size), (HX.out wz (HBP.out.trans (hbo.mono HBP.out.size))).2.2.2⟩
end Go.Proofs.Ytdljihemnfpkaaa
