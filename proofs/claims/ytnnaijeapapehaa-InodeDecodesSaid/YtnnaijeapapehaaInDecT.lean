/- InodeDecodes: the walk. -/
import Derived.Test.YtnnaijeapapehaaInDcP
import Derived.Test.YtnnaijeapapehaaInDec6
import Derived.Deep.DeepCutAuto
namespace Go.Proofs.Ytnnaijeapapehaa
open Go.RowKit

set_option maxRecDepth 100000 in
set_option maxHeartbeats 40000000 in
theorem inodeDecodes_T (ba : Option Addr) (bn bc : Nat) (bs : List Nat) (n : Ino) (ta : Option Addr) (tn tc : Nat) (ca : Option Addr) (cn cc : Nat) (cs : List Nat) (w : World) (hd : DOk ba bn bc bs n ta tn ca cn cc cs w) (hok : okL bs = true) :
    Calls Try.prog 4 #[.agg #[.slice ba bn bc, .int .u8 (n.ki : Int), .int .u16 (n.ln : Int), .int .u32 (n.sz : Int), .int .u32 (n.d0 : Int), .int .u32 (n.d1 : Int), .int .u32 (n.d2 : Int), .int .u32 (n.d3 : Int), .int .u32 (n.d4 : Int), .int .u32 (n.d5 : Int), .int .u32 (n.d6 : Int), .int .u32 (n.d7 : Int), .int .u32 (n.si : Int), .int .u32 (n.db : Int), .slice ta tn tc, .slice ca cn cc]] w fun e w' => e = .returned (.bool true) ∧ Below w.heap.size w w' := by
  have HD := Lib.hid hd
  have HLD := Lib.hid laidI_any
  obtain ⟨B, hB⟩ : ∃ x, x = w.alloc (.cells #[.slice ba bn bc, .int .u8 (n.ki : Int), .int .u16 (n.ln : Int), .int .u32 (n.sz : Int), .int .u32 (n.d0 : Int), .int .u32 (n.d1 : Int), .int .u32 (n.d2 : Int), .int .u32 (n.d3 : Int), .int .u32 (n.d4 : Int), .int .u32 (n.d5 : Int), .int .u32 (n.d6 : Int), .int .u32 (n.d7 : Int), .int .u32 (n.si : Int), .int .u32 (n.db : Int), .slice ta tn tc, .slice ca cn cc] 42) := ⟨_, rfl⟩
  obtain ⟨b, hb⟩ : ∃ x, x = w.heap.size := ⟨_, rfl⟩
  have hBb : Below w.heap.size w B := by rw [hB]; exact bel_alloc (Below.refl _ _) _
  have hBh : B.heap[b]? = some (.cells #[.slice ba bn bc, .int .u8 (n.ki : Int), .int .u16 (n.ln : Int), .int .u32 (n.sz : Int), .int .u32 (n.d0 : Int), .int .u32 (n.d1 : Int), .int .u32 (n.d2 : Int), .int .u32 (n.d3 : Int), .int .u32 (n.d4 : Int), .int .u32 (n.d5 : Int), .int .u32 (n.d6 : Int), .int .u32 (n.d7 : Int), .int .u32 (n.si : Int), .int .u32 (n.db : Int), .slice ta tn tc, .slice ca cn cc] 42 (0, 0)) := by rw [hB, hb]; exact heap_alloc_new _ _
  have hBs : B.heap.size = b + 1 := by rw [hB, hb]; simp
  obtain ⟨z0, z1, z2, z3, z4, z5, z6, z7, z8, z9, z10, z11, z12, z13, z14, z15⟩ := dc16 hBh
  clear hd
  go_enter Try.func4, Try.ntmps4
  go_upto_region 1 with fail
  rw [← hB, ← hb]
  clear hB hb
  go_region
  obtain ⟨Y, hY⟩ : ∃ x, x = (B.alloc (.cells #[.int .u8 (n.ki : Int), .int .u16 (n.ln : Int), .int .u32 (n.sz : Int), .int .u32 (n.d0 : Int), .int .u32 (n.d1 : Int), .int .u32 (n.d2 : Int), .int .u32 (n.d3 : Int), .int .u32 (n.d4 : Int), .int .u32 (n.d5 : Int), .int .u32 (n.d6 : Int), .int .u32 (n.d7 : Int), .int .u32 (n.si : Int), .int .u32 (n.db : Int)] 26)).drew := ⟨_, rfl⟩
  rw [← hY]
  obtain ⟨p4, hp4⟩ : ∃ x, x = b + 1 := ⟨_, rfl⟩
  rw [← hp4]
  have hYh : Y.heap[p4]? = some (.cells n.cl 26 (0, 0)) := by rw [hY, hp4, ← hBs]; exact heap_alloc_new B (.cells n.cl 26)
  have HYB := Lib.hid (show Below w.heap.size w Y by rw [hY]; exact (bel_alloc hBb _).drew)
  have hp4l : p4 < Y.heap.size := (Array.getElem?_eq_some_iff.1 hYh).1
  have HX : Hid (∀ x : World, Below Y.heap.size Y x → x.heap[p4]? = some (.cells n.cl 26 (0, 0)) ∧ Below w.heap.size w x ∧ Row x ba bn bs ∧ RowE x ta tn ∧ Row x ca cn cs) := Lib.hid fun x hx => by
    have h1 := bel_trans HYB.out hx
    exact ⟨(hx.block p4 hp4l).trans hYh, h1, row_keep HD.out.b_.1 h1 (Nat.le_refl _), HD.out.t_.below h1, row_keep HD.out.c_.1 h1 (Nat.le_refl _)⟩
  clear hY hp4 hYh hp4l hBb hBh hBs z0 z1 z2 z3 z4 z5 z6 z7 z8 z9 z10 z11 z12 z13 z14 z15
  go_wp2_with fail
  ((with_reducible refine (HLD.out _).mono ?_))
  rintro e w1 ⟨rfl, hb1⟩
  have HB1 := Lib.hid hb1
  clear hb1
  by_cases c1 : 200 < bn
  · have t1 : decide ((200 : Int) < (bn : Int)) = true := by simp; omega
    clear c1
    go_wp2_with fail
    ((with_reducible refine (HLD.out _).mono ?_))
    rintro e w2 ⟨rfl, hb2⟩
    have HB2 := Lib.hid (bel_trans HB1.out hb2)
    clear hb2
    go_wp2_with fail
    go_ret
    exact ⟨rfl, (HX.out _ HB2.out).2.1⟩
  have t1 : decide ((200 : Int) < (bn : Int)) = false := by simp; omega
  by_cases c2 : 6 < tn
  · have t2 : decide ((6 : Int) < (tn : Int)) = true := by simp; omega
    clear c1 c2
    go_wp2_with fail
    ((with_reducible refine (HLD.out _).mono ?_))
    rintro e w2 ⟨rfl, hb2⟩
    have HB2 := Lib.hid (bel_trans HB1.out hb2)
    clear hb2
    go_wp2_with fail
    go_ret
    exact ⟨rfl, (HX.out _ HB2.out).2.1⟩
  have t2 : decide ((6 : Int) < (tn : Int)) = false := by simp; omega
  by_cases c3 : cn < tn
  · have t3 : decide ((cn : Int) < (tn : Int)) = true := by simp; omega
    have t3' : decide (cn < tn) = true := by simp; omega
    clear c1 c2 c3
    go_wp2_with fail
    ((with_reducible refine (HLD.out _).mono ?_))
    rintro e w2 ⟨rfl, hb2⟩
    have HB2 := Lib.hid (bel_trans HB1.out hb2)
    clear hb2
    go_wp2_with fail
    go_ret
    exact ⟨rfl, (HX.out _ HB2.out).2.1⟩
  have t3 : decide ((cn : Int) < (tn : Int)) = false := by simp; omega
  have t3' : decide (cn < tn) = false := by simp; omega
  have HL : Hid (bn ≤ 200 ∧ tn ≤ 6 ∧ tn ≤ cn) := Lib.hid ⟨by omega, by omega, by omega⟩
  clear c1 c2 c3
  go_upto_region 4 with fail
  clear t1 t2 t3 t3'
  have HFB := Lib.hid (inoOf_fits (bs := bs) HD.out.b_.1.2.1)
  obtain ⟨m, hm⟩ : ∃ m, inoOf bs = m := ⟨_, rfl⟩
  rw [hm] at HFB
  have H1 : Hid (∀ x : World, Below Y.heap.size Y x → Calls Try.prog 14 #[.slice ba bn bc] x fun e w' => e = .returned (.tuple #[.agg #[.int .u8 (m.ki : Int), .int .u16 (m.ln : Int), .int .u32 (m.sz : Int), .int .u32 (m.d0 : Int), .int .u32 (m.d1 : Int), .int .u32 (m.d2 : Int), .int .u32 (m.d3 : Int), .int .u32 (m.d4 : Int), .int .u32 (m.d5 : Int), .int .u32 (m.d6 : Int), .int .u32 (m.d7 : Int), .int .u32 (m.si : Int), .int .u32 (m.db : Int)], .int .i64 0]) ∧ Below x.heap.size x w') := Lib.hid fun x hx => by have := decOk_any _ _ _ _ x (HX.out x hx).2.2.1 HD.out.b_.2.2.2 hok; rw [hm] at this; exact this
  have H2 : Hid (∀ x : World, Below Y.heap.size Y x → Calls Try.prog 15 #[.slice ba bn bc] x fun e w' => ∃ a c, e = .returned (.tuple #[.agg #[.int .i64 (m.ki : Int), .int .i64 (m.ln : Int), .int .i64 (m.sz : Int), .slice a 10 c], .int .i64 0]) ∧ RowK .i64 4294967296 w' a 10 m.at_ ∧ Below x.heap.size x w') := Lib.hid fun x hx => by rw [← hm]; exact refOk_any _ _ _ _ x (HX.out x hx).2.2.1 HD.out.b_.2.1 hok
  clear hok hm
  go_wp2_with fail
  ((with_reducible refine (H1.out _ HB1.out).mono ?_))
  rintro e w2 ⟨rfl, hb2⟩
  have HB2 := Lib.hid (bel_trans HB1.out hb2)
  clear hb2
  go_upto_region 5 with fail
  obtain ⟨p7, hp7⟩ : ∃ x, x = w2.heap.size := ⟨_, rfl⟩
  obtain ⟨Z, hZ⟩ : ∃ x, x = w2.alloc (.cells #[.int .u8 (m.ki : Int), .int .u16 (m.ln : Int), .int .u32 (m.sz : Int), .int .u32 (m.d0 : Int), .int .u32 (m.d1 : Int), .int .u32 (m.d2 : Int), .int .u32 (m.d3 : Int), .int .u32 (m.d4 : Int), .int .u32 (m.d5 : Int), .int .u32 (m.d6 : Int), .int .u32 (m.d7 : Int), .int .u32 (m.si : Int), .int .u32 (m.db : Int)] 26) := ⟨_, rfl⟩
  have h7 : Z.heap[p7]? = some (.cells m.cl 26 (0, 0)) := by rw [hZ, hp7]; exact heap_alloc_new _ _
  have HZB := Lib.hid (show Below Y.heap.size Y Z by rw [hZ]; exact bel_alloc HB2.out _)
  have HP7 : Hid (Y.heap.size ≤ p7 ∧ p7 < Z.heap.size) := Lib.hid ⟨by rw [hp7]; exact HB2.out.size, (Array.getElem?_eq_some_iff.1 h7).1⟩
  have H7 := Lib.hid h7
  rw [← hZ, ← hp7]
  clear hZ hp7 h7
  go_cut [9, 10] from 46 to 50 (fun s9 s10 wx => ∃ (p9 : Nat) (la : Option Addr) (lc : Nat), s9 = .pointer (some ⟨p9, 0, none⟩) ∧ s10 = .int .i64 0 ∧ wx.heap[p9]? = some (.cells #[.int .i64 (m.ki : Int), .int .i64 (m.ln : Int), .int .i64 (m.sz : Int), .slice la 10 lc] 34 (0, 0)) ∧ wx.heap[p7]? = some (.cells m.cl 26 (0, 0)) ∧ RowK .i64 4294967296 wx la 10 m.at_ ∧ Below Y.heap.size Y wx ∧ p7 < p9)
  case first =>
    go_wp2_with fail
    ((with_reducible refine (H2.out _ HZB.out).mono ?_))
    rintro e w3 ⟨la, lc, rfl, hrk, hb3⟩
    have HRK := Lib.hid hrk
    have HB3 := Lib.hid hb3
    have HUB : Hid (Below w3.heap.size w3 (w3.alloc (.cells #[.int .i64 (m.ki : Int), .int .i64 (m.ln : Int), .int .i64 (m.sz : Int), .slice la 10 lc] 34))) := Lib.hid (bel_alloc (Below.refl _ _) _)
    have HLT : Hid (p7 < w3.heap.size) := Lib.hid (Nat.lt_of_lt_of_le HP7.out.2 HB3.out.size)
    clear hrk hb3
    go_wp2_with fail
    go_meet
    exact ⟨w3.heap.size, la, lc, rfl, rfl, heap_alloc_new _ _, (HUB.out.block p7 HLT.out).trans ((HB3.out.block p7 HP7.out.2).trans H7.out), rowK_below HRK.out HUB.out, bel_trans HZB.out (bel_trans HB3.out HUB.out), HLT.out⟩
  case rest =>
  obtain ⟨p9, la, lc, rfl, rfl, h9, hu7, huk, hub, hlt⟩ := hcut
  obtain ⟨U, rfl⟩ : ∃ x, x = wc := ⟨wc, rfl⟩
  have HUB := Lib.hid hub
  have HP9 : Hid (Y.heap.size ≤ p7 ∧ p7 < p9 ∧ p9 < U.heap.size) := Lib.hid ⟨HP7.out.1, hlt, (Array.getElem?_eq_some_iff.1 h9).1⟩
  have HU7 := Lib.hid hu7
  have HU9 := Lib.hid h9
  have HUK := Lib.hid huk
  clear h9 hu7 huk hub hlt H7 HZB HB2 HB1 H1 H2 HP7
  go_upto_region 6 with fail
  have HUX : Hid (∀ x : World, Below U.heap.size U x → x.heap[p7]? = some (.cells m.cl 26 (0, 0)) ∧ x.heap[p9]? = some (.cells #[.int .i64 (m.ki : Int), .int .i64 (m.ln : Int), .int .i64 (m.sz : Int), .slice la 10 lc] 34 (0, 0))) := Lib.hid fun x hx => ⟨(hx.block p7 (by have := HP9.out; omega)).trans HU7.out, (hx.block p9 HP9.out.2.2).trans HU9.out⟩
  go_cut [75] from 51 to 75 (fun t wx => t = .bool false ∧ Below U.heap.size U wx)
  case first =>
    have hF := HFB.out
    clear HX HLD HD HL HFB
    refine inDec6f m la lc p7 p9 U HUX HUK hF _ ?_
    intro t51 t52 t53 t54 t55 t56 t57 t58 t59 t60 t61 t62 t63 t64 t65 t66 t67 t68 t69 t70 t71 t72 t73 t74 w' hbel
    go_wp2_with fail
    go_meet
    exact ⟨rfl, hbel⟩
  case rest =>
  obtain ⟨rfl, hbc⟩ := hcut
  obtain ⟨T, rfl⟩ : ∃ x, x = wc := ⟨wc, rfl⟩
  have HT := Lib.hid (bel_trans HUB.out hbc)
  have HTU : Hid (∀ x : World, Below T.heap.size T x → x.heap[p7]? = some (.cells m.cl 26 (0, 0)) ∧ x.heap[p9]? = some (.cells #[.int .i64 (m.ki : Int), .int .i64 (m.ln : Int), .int .i64 (m.sz : Int), .slice la 10 lc] 34 (0, 0))) := Lib.hid fun x hx => HUX.out x (bel_trans hbc hx)
  have HPT : Hid (Y.heap.size ≤ p7 ∧ p7 < p9 ∧ p9 < T.heap.size) := Lib.hid ⟨HP9.out.1, HP9.out.2.1, Nat.lt_of_lt_of_le HP9.out.2.2 hbc.size⟩
  have HTX : Hid (∀ x : World, Below T.heap.size T x → Below Y.heap.size Y x) := Lib.hid fun x hx => bel_trans HT.out hx
  have HOF := Lib.hid fun x : World => ofI_any n x HD.out.n_
  have HRE := Lib.hid (refOf_any n HD.out.n_)
  obtain ⟨z0, z1, z2, z3, z4, z5, z6, z7, z8, z9, z10, z11, z12⟩ := ino13 (HX.out T HT.out).1
  clear hbc HUX HUB HU7 HU9 HP9 HLD
  go_wp2_with fail
  ((with_reducible refine (HOF.out _).mono ?_))
  rintro e s1 ⟨xa, xc, rfl, hk, hb1⟩
  have HK1 := Lib.hid hk
  have HS1 := Lib.hid hb1
  clear hk hb1 z0 z1 z2 z3 z4 z5 z6 z7 z8 z9 z10 z11 z12
  go_wp2_with fail
  ((with_reducible refine (HRE.out xa xc _ HK1.out).mono ?_))
  rintro e s2 ⟨v, rfl, ho, hb2⟩
  have HS2 := Lib.hid (bel_trans HS1.out hb2)
  have HO2 := Lib.hid (own_mono ho HS1.out.size)
  clear ho hb2 HK1 HOF HRE
  go_wp2_with fail
  go_loopw [11, 12] (fun dv iv wr => ∃ (k : Nat) (L : List Nat), k ≤ tn ∧ iv = .int .i64 (k : Int) ∧ L.length = 64 ∧ Own T.heap.size wr dv L ∧ Below T.heap.size T wr) (fun _ iv _ => tn - (intOf iv).toNat)
  case atStart => exact ⟨0, _, Nat.zero_le _, rfl, enc_len _, HO2.out, HS2.out⟩
  case round =>
    obtain ⟨k, L, hk, rfl, hL, ho, hb⟩ := hrel
    obtain ⟨g, oc, cur, rfl, hg0, hgh, hnc, hcm, hcs, hct⟩ := ho.1.2.resolve_left (fun h => by rw [hL] at h; exact absurd h.2 (by omega))
    rw [hL] at hnc ho ⊢
    have HO := Lib.hid ho
    have HB := Lib.hid hb
    have HLL := Lib.hid hL
    have HC := Lib.hid (And.intro hnc hcm)
    have HR : Hid (Row wr (some ⟨g, 0, none⟩) 64 L) := Lib.hid (by
      obtain ⟨a, c, e, h, _⟩ := row_of_own ho
      simp only [Value.slice.injEq] at e
      obtain ⟨rfl, -, -⟩ := e
      rw [hL] at h
      exact h)
    obtain ⟨-, -, -, hE, hC⟩ := HX.out wr (HTX.out wr hb)
    clear hg0 hgh hnc hcm hcs hct ho hb hL
    by_cases hlt : k < tn
    · have t1 : decide (k < tn) = true := by simpa using hlt
      have t2 : decide ((k : Int) < (tn : Int)) = true := by simp; omega
      have hkc : k < cn := by have := HL.out; omega
      have k9 : k < 6 := by have := HL.out; omega
      obtain ⟨eb, eo, z, rfl, hce⟩ := hE k hlt
      obtain ⟨cb, co, y, rfl, hcc, hy, -⟩ := row_cell hC hkc
      obtain ⟨zu, hzu⟩ : ∃ q, IntKind.u64.wrap z = q := ⟨_, rfl⟩
      have zu0 : 0 ≤ zu ∧ zu < 18446744073709551616 := by rw [← hzu, IntKind.wrap_u64]; omega
      obtain ⟨r, hr⟩ : ∃ r : Nat, zu % 64 = (r : Int) := ⟨(zu % 64).toNat, by omega⟩
      have r64 : r < 64 := by omega
      have v0 : zu.tmod 64 = (r : Int) := by rw [Int.tmod_eq_emod_of_nonneg zu0.1]; exact hr
      have v1 : IntKind.u64.wrap (r : Int) = (r : Int) := by rw [IntKind.wrap_u64]; omega
      have v2 : IntKind.i64.wrap (r : Int) = (r : Int) := by rw [IntKind.wrap_i64]; omega
      have i1 : (0 : Int) ≤ (k : Int) := by omega
      have i2 : (k : Int) < (tn : Int) := by omega
      have i3 : (k : Int) < (cn : Int) := by omega
      have hba := (bel_alloc (Below.refl _ wr) (.cells #[.int .u8 (y : Int)] 5))
      have hce2 := pt_step hce hba
      have hcc2 := pt_step hcc hba
      have HLEN : Hid ((L.take r ++ [y] ++ L.drop (r + 1)).length = 64) := Lib.hid (by have := HLL.out; simp; omega)
      have HWI : Hid (Calls Try.prog 16 #[.slice (some ⟨g, 0, none⟩) 64 oc, .int .i64 (r : Int), .slice (some ⟨wr.heap.size, 0, none⟩) 1 1] (wr.alloc (.cells #[.int .u8 (y : Int)] 5)).drew (RetOwn (wr.alloc (.cells #[.int .u8 (y : Int)] 5)).drew (L.take r ++ [y] ++ L.drop (r + 1)))) := Lib.hid (withR_any g 0 64 oc L r (some ⟨wr.heap.size, 0, none⟩) 1 1 [y] _ (row_keepB HR.out hba.drew) HC.out.1 (by have := HC.out.2; unfold maxLen at this; omega) (by omega) (by omega) (row_oneD wr y hy) (fun h => by cases h))
      have HBA := Lib.hid (hba.drew)
      clear hr zu0 hE hC hba hy
    
      go_upto_region 12 with fail
      go_region_law (first
        | (go_simp; go_at_call 16; ((with_reducible refine HWI.out.mono ?_)); (intro e y9 hr; obtain ⟨sv, rfl, ho9, hb9⟩ := hr; have HO9 := Lib.hid ho9; have HB9 := Lib.hid hb9; clear ho9 hb9)))
      all_goals
        go_wp2_with fail
        go_roundw
        case rel => exact ⟨k + 1, _, by omega, by go_num, HLEN.out, own_mono HO9.out (Nat.le_trans HB.out.size HBA.out.size), bel_trans HB.out (bel_trans HBA.out HB9.out)⟩
        case measure => simp [intOf]; omega
    · obtain rfl : k = tn := by omega
      have t1 : decide (k < k) = false := by simp
      have t2 : decide ((k : Int) < (k : Int)) = false := by simp
      clear hE hC hlt hk
      obtain ⟨ok2, hok2⟩ : ∃ k, okL L = k := ⟨_, rfl⟩
      have HLB := Lib.hid HR.out.2.1
      have HFL := Lib.hid (inoOf_fits HLB.out)
      obtain ⟨l, hl⟩ : ∃ m, inoOf L = m := ⟨_, rfl⟩
      rw [hl] at HFL
      cases ok2 with
      | true =>
        have HEB := Lib.hid (encI_back L hok2 HLB.out)
        rw [hl] at HEB
        have H3 : Hid (Calls Try.prog 14 #[.slice (some ⟨g, 0, none⟩) 64 oc] wr fun e w' => e = .returned (.tuple #[.agg #[.int .u8 (l.ki : Int), .int .u16 (l.ln : Int), .int .u32 (l.sz : Int), .int .u32 (l.d0 : Int), .int .u32 (l.d1 : Int), .int .u32 (l.d2 : Int), .int .u32 (l.d3 : Int), .int .u32 (l.d4 : Int), .int .u32 (l.d5 : Int), .int .u32 (l.d6 : Int), .int .u32 (l.d7 : Int), .int .u32 (l.si : Int), .int .u32 (l.db : Int)], .int .i64 0]) ∧ Below wr.heap.size wr w') := Lib.hid (by have := decOk_any _ _ oc _ wr HR.out (fun h => by cases h) hok2; rw [hl] at this; exact this)
        have H4 : Hid (∀ x : World, Row x (some ⟨g, 0, none⟩) 64 L → Calls Try.prog 15 #[.slice (some ⟨g, 0, none⟩) 64 oc] x fun e w' => ∃ a c, e = .returned (.tuple #[.agg #[.int .i64 (l.ki : Int), .int .i64 (l.ln : Int), .int .i64 (l.sz : Int), .slice a 10 c], .int .i64 0]) ∧ RowK .i64 4294967296 w' a 10 l.at_ ∧ Below x.heap.size x w') := Lib.hid fun x hx => by rw [← hl]; exact refOk_any _ _ _ _ x hx HC.out.1 hok2
        clear hok2 hl
        go_wp2_with fail
        ((with_reducible refine H3.out.mono ?_))
        rintro e s3 ⟨rfl, hb3⟩
        have HB3 := Lib.hid (bel_trans HB.out hb3)
        have HO3 := Lib.hid (own_up HO.out hb3)
        obtain ⟨z0, z1, z2, z3, z4, z5, z6, z7, z8, z9, z10, z11, z12⟩ := ino13 (HTU.out s3 HB3.out).1
        have zf := pt_free (HTU.out s3 HB3.out).1
        have f0 := zf 0
        have f1 := zf 1
        have f2 := zf 2
        have f3 := zf 3
        have f4 := zf 4
        have f5 := zf 5
        have f6 := zf 6
        have f7 := zf 7
        have f8 := zf 8
        have f9 := zf 9
        have f10 := zf 10
        have f11 := zf 11
        have f12 := zf 12
        clear zf hb3 t1 t2
        obtain ⟨S, hS⟩ : ∃ x, x = ((((((((((((s3.setCell ⟨p7, 0, none⟩ (.int .u8 (l.ki : Int))).setCell ⟨p7, 1, none⟩ (.int .u16 (l.ln : Int))).setCell ⟨p7, 2, none⟩ (.int .u32 (l.sz : Int))).setCell ⟨p7, 3, none⟩ (.int .u32 (l.d0 : Int))).setCell ⟨p7, 4, none⟩ (.int .u32 (l.d1 : Int))).setCell ⟨p7, 5, none⟩ (.int .u32 (l.d2 : Int))).setCell ⟨p7, 6, none⟩ (.int .u32 (l.d3 : Int))).setCell ⟨p7, 7, none⟩ (.int .u32 (l.d4 : Int))).setCell ⟨p7, 8, none⟩ (.int .u32 (l.d5 : Int))).setCell ⟨p7, 9, none⟩ (.int .u32 (l.d6 : Int))).setCell ⟨p7, 10, none⟩ (.int .u32 (l.d7 : Int))).setCell ⟨p7, 11, none⟩ (.int .u32 (l.si : Int))).setCell ⟨p7, 12, none⟩ (.int .u32 (l.db : Int)) := ⟨_, rfl⟩
        have HS7 : Hid (S.heap[p7]? = some (.cells l.cl 26 (0, 0))) := Lib.hid (by rw [hS]; exact put13 (HTU.out s3 HB3.out).1 _ _ _ _ _ _ _ _ _ _ _ _ _)
        have HS9 : Hid (S.heap[p9]? = some (.cells #[.int .i64 (m.ki : Int), .int .i64 (m.ln : Int), .int .i64 (m.sz : Int), .slice la 10 lc] 34 (0, 0))) := Lib.hid (by rw [hS, heap_far13 (by have := HPT.out; omega)]; exact (HTU.out s3 HB3.out).2)
        have HSO : Hid (Own T.heap.size S (.slice (some ⟨g, 0, none⟩) 64 oc) L) := Lib.hid (by rw [hS]; exact own_far13 HO3.out (by have := HPT.out; omega) _ _ _ _ _ _ _ _ _ _ _ _ _)
        have HSB : Hid (Below Y.heap.size Y S) := Lib.hid (by rw [hS]; exact bel_far13 (HTX.out _ HB3.out) HPT.out.1 _ _ _ _ _ _ _ _ _ _ _ _ _)
        have HSR : Hid (∀ (x : World), Own T.heap.size x (.slice (some ⟨g, 0, none⟩) 64 oc) L → Row x (some ⟨g, 0, none⟩) 64 L) := Lib.hid fun x hx => by
          obtain ⟨a, c, e, h, _⟩ := row_of_own hx
          simp only [Value.slice.injEq] at e
          obtain ⟨rfl, -, -⟩ := e
          rw [HLL.out] at h
          exact h
        have HSZ : Hid (p7 < S.heap.size ∧ p9 < S.heap.size) := Lib.hid ⟨(Array.getElem?_eq_some_iff.1 HS7.out).1, (Array.getElem?_eq_some_iff.1 HS9.out).1⟩
        go_upto_region 14 with fail
        rw [← hS]
        clear hS z0 z1 z2 z3 z4 z5 z6 z7 z8 z9 z10 z11 z12 f0 f1 f2 f3 f4 f5 f6 f7 f8 f9 f10 f11 f12
        go_wp2_with fail
        ((with_reducible refine (H4.out _ (HSR.out _ HSO.out)).mono ?_))
        rintro e s4 ⟨xb, xd, rfl, -, hb4⟩
        have h94 := (hb4.block p9 HSZ.out.2).trans HS9.out
        have H74 := Lib.hid ((hb4.block p7 HSZ.out.1).trans HS7.out)
        have HO4 := Lib.hid (own_up HSO.out hb4)
        have HB4 := Lib.hid (bel_trans HSB.out hb4)
        obtain ⟨y0, y1, y2, y3⟩ := pt_four h94
        have yf := pt_free h94
        have g0 := yf 0
        have g1 := yf 1
        have g2 := yf 2
        have g3 := yf 3
        have H94 := Lib.hid h94
        clear yf hb4 h94
        obtain ⟨R, hR⟩ : ∃ x, x = (((s4.setCell ⟨p9, 0, none⟩ (.int .i64 (l.ki : Int))).setCell ⟨p9, 1, none⟩ (.int .i64 (l.ln : Int))).setCell ⟨p9, 2, none⟩ (.int .i64 (l.sz : Int))).setCell ⟨p9, 3, none⟩ (.slice xb 10 xd) := ⟨_, rfl⟩
        have HR9 : Hid (R.heap[p9]? = some (.cells #[.int .i64 (l.ki : Int), .int .i64 (l.ln : Int), .int .i64 (l.sz : Int), .slice xb 10 xd] 34 (0, 0))) := Lib.hid (by rw [hR]; exact pt_put4 H94.out _ _ _ _)
        have HR7 : Hid (R.heap[p7]? = some (.cells l.cl 26 (0, 0))) := Lib.hid (by rw [hR, heap_far4 (by have := HPT.out; omega)]; exact H74.out)
        have HRO : Hid (Own T.heap.size R (.slice (some ⟨g, 0, none⟩) 64 oc) L) := Lib.hid (by rw [hR]; exact own_far4 HO4.out HPT.out.2.2 _ _ _ _)
        have HRB : Hid (Below Y.heap.size Y R) := Lib.hid (by rw [hR]; exact bel_far4 HB4.out (by have := HPT.out; omega) _ _ _ _)
        go_upto_region 15 with fail
        rw [← hR]
        clear hR y0 y1 y2 y3 g0 g1 g2 g3
        have HOL := Lib.hid fun x : World => ofI_any l x HFL.out
        have HEL := Lib.hid (refOf_any l HFL.out)
        obtain ⟨z0, z1, z2, z3, z4, z5, z6, z7, z8, z9, z10, z11, z12⟩ := ino13 HR7.out
        have k0 := HFL.out.ki
        have m0 : IntKind.i64.wrap (l.ki : Int) = (l.ki : Int) := by rw [IntKind.wrap_i64]; omega
        clear k0
        go_wp2_with fail
        ((with_reducible refine (HOL.out _).mono ?_))
        rintro e s5 ⟨xe, xf, rfl, hk, hb5⟩
        have HK5 := Lib.hid hk
        have HB5 := Lib.hid hb5
        clear hk hb5 z0 z1 z2 z3 z4 z5 z6 z7 z8 z9 z10 z11 z12
        go_wp2_with fail
        ((with_reducible refine (HEL.out xe xf _ HK5.out).mono ?_))
        rintro e s6 ⟨v6, rfl, ho, hb6⟩
        obtain ⟨ea, ec, rfl, hrw, -⟩ := row_of_own ho
        rw [enc_len] at hrw ⊢
        rw [HEB.out] at hrw
        have HR6 := Lib.hid hrw
        have HB6 := Lib.hid (bel_trans HB5.out hb6)
        have HRL := Lib.hid (row_keepB (HSR.out _ HRO.out) HB6.out)
        clear ho hb6 hrw
        go_wp2_with fail
        ((with_reducible refine (same_any ea (some ⟨g, 0, none⟩) 64 ec 64 oc L _ HR6.out HRL.out).mono ?_))
        rintro e s7 ⟨rfl, rfl⟩
        obtain ⟨z0, z1, z2, z3, z4, z5, z6, z7, z8, z9, z10, z11, z12⟩ := ino13 ((HB6.out.block p7 (Array.getElem?_eq_some_iff.1 HR7.out).1).trans HR7.out)
        obtain ⟨y0, y1, y2, y3⟩ := pt_four ((HB6.out.block p9 (Array.getElem?_eq_some_iff.1 HR9.out).1).trans HR9.out)
        go_wp2_with fail
        go_ret
        exact ⟨rfl, (HX.out _ (bel_trans HRB.out HB6.out)).2.1⟩
      | false =>
        have H3 : Hid (Calls Try.prog 14 #[.slice (some ⟨g, 0, none⟩) 64 oc] wr fun e w' => e = .returned (.tuple #[.agg #[.int .u8 0, .int .u16 0, .int .u32 0, .int .u32 0, .int .u32 0, .int .u32 0, .int .u32 0, .int .u32 0, .int .u32 0, .int .u32 0, .int .u32 0, .int .u32 0, .int .u32 0], .int .i64 62]) ∧ Below wr.heap.size wr w') := Lib.hid (decNo_any _ _ oc _ wr HR.out (fun h => by cases h) hok2)
        have H4 : Hid (∀ x : World, Row x (some ⟨g, 0, none⟩) 64 L → Calls Try.prog 15 #[.slice (some ⟨g, 0, none⟩) 64 oc] x fun e w' => e = .returned (.tuple #[.agg #[.int .i64 0, .int .i64 0, .int .i64 0, .slice none 0 0], .int .i64 62]) ∧ Below x.heap.size x w') := Lib.hid fun x hx => refNo_any _ _ _ _ x hx HC.out.1 hok2
        clear hok2 hl
        go_wp2_with fail
        ((with_reducible refine H3.out.mono ?_))
        rintro e s3 ⟨rfl, hb3⟩
        have HB3 := Lib.hid (bel_trans HB.out hb3)
        have HO3 := Lib.hid (own_up HO.out hb3)
        obtain ⟨z0, z1, z2, z3, z4, z5, z6, z7, z8, z9, z10, z11, z12⟩ := ino13 (HTU.out s3 HB3.out).1
        have zf := pt_free (HTU.out s3 HB3.out).1
        have f0 := zf 0
        have f1 := zf 1
        have f2 := zf 2
        have f3 := zf 3
        have f4 := zf 4
        have f5 := zf 5
        have f6 := zf 6
        have f7 := zf 7
        have f8 := zf 8
        have f9 := zf 9
        have f10 := zf 10
        have f11 := zf 11
        have f12 := zf 12
        clear zf hb3 t1 t2
        obtain ⟨S, hS⟩ : ∃ x, x = ((((((((((((s3.setCell ⟨p7, 0, none⟩ (.int .u8 0)).setCell ⟨p7, 1, none⟩ (.int .u16 0)).setCell ⟨p7, 2, none⟩ (.int .u32 0)).setCell ⟨p7, 3, none⟩ (.int .u32 0)).setCell ⟨p7, 4, none⟩ (.int .u32 0)).setCell ⟨p7, 5, none⟩ (.int .u32 0)).setCell ⟨p7, 6, none⟩ (.int .u32 0)).setCell ⟨p7, 7, none⟩ (.int .u32 0)).setCell ⟨p7, 8, none⟩ (.int .u32 0)).setCell ⟨p7, 9, none⟩ (.int .u32 0)).setCell ⟨p7, 10, none⟩ (.int .u32 0)).setCell ⟨p7, 11, none⟩ (.int .u32 0)).setCell ⟨p7, 12, none⟩ (.int .u32 0) := ⟨_, rfl⟩
        have HS7 : Hid (S.heap[p7]? = some (.cells #[.int .u8 0, .int .u16 0, .int .u32 0, .int .u32 0, .int .u32 0, .int .u32 0, .int .u32 0, .int .u32 0, .int .u32 0, .int .u32 0, .int .u32 0, .int .u32 0, .int .u32 0] 26 (0, 0))) := Lib.hid (by rw [hS]; exact put13 (HTU.out s3 HB3.out).1 _ _ _ _ _ _ _ _ _ _ _ _ _)
        have HS9 : Hid (S.heap[p9]? = some (.cells #[.int .i64 (m.ki : Int), .int .i64 (m.ln : Int), .int .i64 (m.sz : Int), .slice la 10 lc] 34 (0, 0))) := Lib.hid (by rw [hS, heap_far13 (by have := HPT.out; omega)]; exact (HTU.out s3 HB3.out).2)
        have HSO : Hid (Own T.heap.size S (.slice (some ⟨g, 0, none⟩) 64 oc) L) := Lib.hid (by rw [hS]; exact own_far13 HO3.out (by have := HPT.out; omega) _ _ _ _ _ _ _ _ _ _ _ _ _)
        have HSB : Hid (Below Y.heap.size Y S) := Lib.hid (by rw [hS]; exact bel_far13 (HTX.out _ HB3.out) HPT.out.1 _ _ _ _ _ _ _ _ _ _ _ _ _)
        have HSR : Hid (∀ (x : World), Own T.heap.size x (.slice (some ⟨g, 0, none⟩) 64 oc) L → Row x (some ⟨g, 0, none⟩) 64 L) := Lib.hid fun x hx => by
          obtain ⟨a, c, e, h, _⟩ := row_of_own hx
          simp only [Value.slice.injEq] at e
          obtain ⟨rfl, -, -⟩ := e
          rw [HLL.out] at h
          exact h
        have HSZ : Hid (p7 < S.heap.size ∧ p9 < S.heap.size) := Lib.hid ⟨(Array.getElem?_eq_some_iff.1 HS7.out).1, (Array.getElem?_eq_some_iff.1 HS9.out).1⟩
        go_upto_region 14 with fail
        rw [← hS]
        clear hS z0 z1 z2 z3 z4 z5 z6 z7 z8 z9 z10 z11 z12 f0 f1 f2 f3 f4 f5 f6 f7 f8 f9 f10 f11 f12
        go_wp2_with fail
        ((with_reducible refine (H4.out _ (HSR.out _ HSO.out)).mono ?_))
        rintro e s4 ⟨rfl, hb4⟩
        have h94 := (hb4.block p9 HSZ.out.2).trans HS9.out
        have H74 := Lib.hid ((hb4.block p7 HSZ.out.1).trans HS7.out)
        have HO4 := Lib.hid (own_up HSO.out hb4)
        have HB4 := Lib.hid (bel_trans HSB.out hb4)
        obtain ⟨y0, y1, y2, y3⟩ := pt_four h94
        have yf := pt_free h94
        have g0 := yf 0
        have g1 := yf 1
        have g2 := yf 2
        have g3 := yf 3
        have H94 := Lib.hid h94
        clear yf hb4 h94
        obtain ⟨R, hR⟩ : ∃ x, x = (((s4.setCell ⟨p9, 0, none⟩ (.int .i64 0)).setCell ⟨p9, 1, none⟩ (.int .i64 0)).setCell ⟨p9, 2, none⟩ (.int .i64 0)).setCell ⟨p9, 3, none⟩ (.slice none 0 0) := ⟨_, rfl⟩
        have HR9 : Hid (R.heap[p9]? = some (.cells #[.int .i64 0, .int .i64 0, .int .i64 0, .slice none 0 0] 34 (0, 0))) := Lib.hid (by rw [hR]; exact pt_put4 H94.out _ _ _ _)
        have HR7 : Hid (R.heap[p7]? = some (.cells #[.int .u8 0, .int .u16 0, .int .u32 0, .int .u32 0, .int .u32 0, .int .u32 0, .int .u32 0, .int .u32 0, .int .u32 0, .int .u32 0, .int .u32 0, .int .u32 0, .int .u32 0] 26 (0, 0))) := Lib.hid (by rw [hR, heap_far4 (by have := HPT.out; omega)]; exact H74.out)
        have HRO : Hid (Own T.heap.size R (.slice (some ⟨g, 0, none⟩) 64 oc) L) := Lib.hid (by rw [hR]; exact own_far4 HO4.out HPT.out.2.2 _ _ _ _)
        have HRB : Hid (Below Y.heap.size Y R) := Lib.hid (by rw [hR]; exact bel_far4 HB4.out (by have := HPT.out; omega) _ _ _ _)
        go_upto_region 15 with fail
        rw [← hR]
        clear hR y0 y1 y2 y3 g0 g1 g2 g3
        go_wp2_with fail
        go_ret
        exact ⟨rfl, (HX.out _ HRB.out).2.1⟩
end Go.Proofs.Ytnnaijeapapehaa
