/- DirentDecodes: the walk. -/
import Derived.Test.YtdpkinppkhnjkaaDoorDnDec
namespace Go.Proofs.YtdpkinppkhnjkaaDoor
open Go.RowKit

set_option maxRecDepth 100000 in
set_option maxHeartbeats 4000000 in
theorem direntDecodes_core (a : Option Addr) (len cap nd : Nat) (s : ByteArray) (er : Int) (w : World) (hl : len ≤ 100) (hnd : nd < 4294967296)
    (H1 : Hid (∀ x : World, Below w.heap.size w x → Calls Tryd.prog 5 #[.slice a len cap] x fun e w' => e = .returned (.tuple #[.agg #[.int .u32 (nd : Int), .string s], .int .i64 er]) ∧ Below x.heap.size x w'))
    (H2 : Hid (∀ x : World, Below w.heap.size w x → Calls Tryd.prog 6 #[.slice a len cap] x fun e w' => e = .returned (.tuple #[.agg #[.int .i64 (nd : Int), .string s], .int .i64 er]) ∧ Below x.heap.size x w')) :
    Calls Tryd.prog 3 #[.slice a len cap] w fun e w' => e = .returned (.bool true) ∧ Below w.heap.size w w' := by
  have HORD := Lib.hid ordered_any
  have t0 : decide ((100 : Int) < (len : Int)) = false := by simp; omega
  have t0' : decide (100 < len) = false := by simp; omega
  have u1 : IntKind.i64.wrap (nd : Int) = (nd : Int) := by rw [IntKind.wrap_i64]; omega
  have t1 : (er == er) = true := by simp
  have t2 : ((nd : Int) == (nd : Int)) = true := by simp
  have t3 : (s.toList == s.toList) = true := by simp
  clear hl hnd
  go_enter Tryd.func3, Tryd.ntmps3
  go_wp2_with fail
  ((with_reducible refine (H1.out _ (Below.refl _ _)).mono ?_))
  rintro e w1 ⟨rfl, hb1⟩
  have HB1 := Lib.hid hb1
  clear hb1
  go_upto_region 4 with fail
  obtain ⟨p, hp⟩ : ∃ x, x = w1.heap.size := ⟨_, rfl⟩
  obtain ⟨X, hX⟩ : ∃ x, x = w1.alloc (.cells #[.int .u32 (nd : Int), .string s] 26) := ⟨_, rfl⟩
  have hx : X.heap[p]? = some (.cells #[.int .u32 (nd : Int), .string s] 26 (0, 0)) := by rw [hX, hp]; exact heap_alloc_new _ _
  have HBX : Hid (Below w.heap.size w X) := Lib.hid (by rw [hX]; exact bel_alloc HB1.out _)
  have HX := Lib.hid hx
  rw [← hX, ← hp]
  clear hX hp hx
  go_wp2_with fail
  ((with_reducible refine (H2.out _ HBX.out).mono ?_))
  rintro e w2 ⟨rfl, hb2⟩
  have HB2 := Lib.hid (bel_trans HBX.out hb2)
  have hx2 := (hb2.block p (Array.getElem?_eq_some_iff.1 HX.out).1).trans HX.out
  have HX2 := Lib.hid hx2
  clear hb2 hx2
  go_upto_region 5 with fail
  obtain ⟨q, hq⟩ : ∃ x, x = w2.heap.size := ⟨_, rfl⟩
  obtain ⟨Y, hY⟩ : ∃ x, x = w2.alloc (.cells #[.int .i64 (nd : Int), .string s] 31) := ⟨_, rfl⟩
  have hy : Y.heap[q]? = some (.cells #[.int .i64 (nd : Int), .string s] 31 (0, 0)) := by rw [hY, hq]; exact heap_alloc_new _ _
  have hb2y : Below w2.heap.size w2 Y := by rw [hY]; exact bel_alloc (Below.refl _ _) _
  have HBY : Hid (Below w.heap.size w Y) := Lib.hid (bel_trans HB2.out hb2y)
  have HY := Lib.hid hy
  have hx3 := (hb2y.block p (Array.getElem?_eq_some_iff.1 HX2.out).1).trans HX2.out
  have HX3 := Lib.hid hx3
  rw [← hY, ← hq]
  clear hY hq hy hb2y hx3
  go_wp2_with fail
  ((with_reducible refine (HORD.out _).mono ?_))
  rintro e w3 ⟨rfl, hb3⟩
  have HB3 := Lib.hid (bel_trans HBY.out hb3)
  obtain ⟨⟨x0, x1⟩, -, -⟩ := two_at ((hb3.block p (Array.getElem?_eq_some_iff.1 HX3.out).1).trans HX3.out)
  obtain ⟨⟨y0, y1⟩, -, -⟩ := two_at ((hb3.block q (Array.getElem?_eq_some_iff.1 HY.out).1).trans HY.out)
  clear hb3
  go_wp2_with fail
  go_ret
  exact ⟨rfl, HB3.out⟩
set_option maxRecDepth 100000 in
theorem direntDecodes_any (a : Option Addr) (len cap : Nat) (bs : List Nat) (w : World) (hr : Row w a len bs) (hn : a = none → cap = 0) (hc : len ≤ cap) (hT : Lib.Utf8Tabs 0 1 w) :
    Calls Tryd.prog 3 #[.slice a len cap] w fun e w' => e = .returned (.bool true) ∧ Below w.heap.size w w' := by
  by_cases c0 : 100 < len
  · have HORD := Lib.hid ordered_any
    have t0 : decide ((100 : Int) < (len : Int)) = true := by simp; omega
    have t0' : decide (100 < len) = true := by simpa using c0
    clear c0 hr hn hc hT
    go_enter Tryd.func3, Tryd.ntmps3
    go_wp2_with fail
    ((with_reducible refine (HORD.out _).mono ?_))
    rintro e w3 ⟨rfl, hb3⟩
    have HB3 := Lib.hid hb3
    clear hb3
    go_wp2_with fail
    go_ret
    exact ⟨rfl, HB3.out⟩
  by_cases c1 : len = 32
  · subst c1
    have hbl : bs.length = 32 := hr.1
    obtain ⟨b, off, rfl, -⟩ := hr.2.2 (by omega)
    have HRX : Hid (∀ x : World, Below w.heap.size w x → Row x (some ⟨b, off, none⟩) 32 bs ∧ Lib.Utf8Tabs 0 1 x) := Lib.hid fun x hx => ⟨row_keep hr hx (Nat.le_refl _), tabs_below hT hx⟩
    have hndl : ndOf bs < 4294967296 := by
      have := leVal_lt (bs.take 4) (fun x hx => hr.2.1 x (List.mem_of_mem_take hx))
      rw [List.length_take, hbl] at this
      exact this
    by_cases hg : goodB bs = true
    · have hg2 := hg
      unfold goodB at hg2
      simp only [Bool.and_eq_true, decide_eq_true_eq, beq_iff_eq] at hg2
      refine direntDecodes_core _ 32 cap (ndOf bs) (nmOf bs) 0 w (by omega) hndl (Lib.hid fun x hx => dnDecode_good _ 32 cap bs x rfl (HRX.out x hx).1 (fun h => by cases h) hg2.1 hg2.2.1 (HRX.out x hx).2 hg2.2.2) (Lib.hid fun x hx => ?_)
      have h := refDecE_any b off cap bs x (HRX.out x hx).1 hc
      unfold decDR at h
      rw [good_same hbl, if_pos hg] at h
      exact h
    · refine direntDecodes_core _ 32 cap 0 ⟨#[]⟩ 62 w (by omega) (by omega) (Lib.hid fun x hx => ?_) (Lib.hid fun x hx => ?_)
      · by_cases hk : bs.getD 4 0 ≤ 27
        · cases hz : zrOf bs with
          | false => exact dnDecode_rest _ 32 cap bs x rfl (HRX.out x hx).1 (fun h => by cases h) hk hz
          | true =>
            refine dnDecode_bad _ 32 cap bs x rfl (HRX.out x hx).1 (fun h => by cases h) hk hz (HRX.out x hx).2 (fun he => hg ?_)
            unfold goodB
            simp [hz, he]
            simpa using hk
        · exact dnDecode_dies _ 32 cap bs x rfl (HRX.out x hx).1 (fun h => by cases h) (by omega)
      · have h := refDecE_any b off cap bs x (HRX.out x hx).1 hc
        unfold decDR at h
        rw [good_same hbl, if_neg hg] at h
        exact h
  · exact direntDecodes_core a len cap 0 ⟨#[]⟩ 62 w (by omega) (by omega) (Lib.hid fun x _ => dnDecode_len a len cap x c1) (Lib.hid fun x _ => refDecE_len a len cap x c1)
theorem direntDecodes_all (a : Option Addr) (len cap : Nat) (bs : List Nat) (w : World) (h : Row w a len bs ∧ len ≤ cap ∧ cap ≤ maxLen ∧ (a = none → cap = 0)) (hT : Lib.Utf8Tabs 0 1 w) :
    Calls Tryd.prog 3 #[.slice a len cap] w fun e w' => e = .returned (.bool true) ∧ Below w.heap.size w w' := direntDecodes_any a len cap bs w h.1 h.2.2.2 h.2.1 hT
end Go.Proofs.YtdpkinppkhnjkaaDoor
