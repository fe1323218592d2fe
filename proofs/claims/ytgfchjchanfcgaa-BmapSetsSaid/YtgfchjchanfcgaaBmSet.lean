/- bmap.has, bmap.Set, bmap.Get. -/
import Derived.Test.YtgfchjchanfcgaaRw
import Derived.Test.YtgfchjchanfcgaaWx
import Derived.Test.YtgfchjchanfcgaaLaid
import Derived.Deep.RegionWith
import Derived.Deep.RegionLaw
import Derived.Laws.CopyOwn
namespace Go.Proofs.Ytgfchjchanfcgaa
open Go.RowKit

theorem quo_len (len k : Nat) (hl : len ≤ 9223372036854775807) (hk : len / 4 = k) : IntKind.i64.wrap ((len : Int).tdiv 4) = (k : Int) := by
  rw [IntWalk.i64_quo _ _ ⟨by omega, by omega, by omega⟩]; omega
set_option maxHeartbeats 800000 in
theorem has_yes (a : Option Addr) (len cap i : Nat) (w : World) (hl : len ≤ 9223372036854775807) (hi : i < len / 4) :
    Calls Try.prog 20 #[.slice a len cap, .int .i64 (i : Int)] w fun e w' => e = .returned (.bool true) ∧ w' = w := by
  have t1 : decide ((0 : Int) ≤ (i : Int)) = true := by simp
  have t2 : decide ((i : Int) < (len : Int) / 4) = true := by simp; omega
  clear hi
  go_enter Try.func20, Try.ntmps20
  go_wp2
  go_ret
  exact ⟨rfl, rfl⟩
set_option maxHeartbeats 800000 in
theorem has_no (a : Option Addr) (len cap : Nat) (i : Int) (w : World) (hl : len ≤ 9223372036854775807) (hi : i < 0 ∨ ((len / 4 : Nat) : Int) ≤ i) :
    Calls Try.prog 20 #[.slice a len cap, .int .i64 i] w fun e w' => e = .returned (.bool false) ∧ w' = w := by
  by_cases h0 : i < 0
  · have t1 : decide ((0 : Int) ≤ i) = false := by simp; omega
    clear hi
    go_enter Try.func20, Try.ntmps20
    go_wp2
    go_ret
    exact ⟨rfl, rfl⟩
  · have t1 : decide ((0 : Int) ≤ i) = true := by simp; omega
    have t2 : decide (i < (len : Int) / 4) = false := by simp; omega
    clear hi
    go_enter Try.func20, Try.ntmps20
    go_wp2
    go_ret
    exact ⟨rfl, rfl⟩
set_option maxHeartbeats 800000 in
theorem set_no (a : Option Addr) (len cap : Nat) (bs : List Nat) (i : Int) (v : Nat) (w : World) (hr : Row w a len bs) (hn : a = none → cap = 0) (hl : len ≤ 100000) (hi : i < 0 ∨ ((len / 4 : Nat) : Int) ≤ i) :
    Calls Try.prog 10 #[.slice a len cap, .int .i64 i, .int .u32 (v : Int)] w (RetOwn w bs) := by
  have HC := Lib.hid (clone_any a len cap bs w hr hn (by omega))
  have HH := Lib.hid fun x : World => has_no a len cap i x (by omega) hi
  clear hr hn hi
  go_enter Try.func10, Try.ntmps10
  go_wp2_with fail
  ((with_reducible refine HC.out.mono ?_))
  rintro e w1 ⟨sv, rfl, ho, hb⟩
  have HO := Lib.hid ho
  have HB := Lib.hid hb
  clear ho hb
  go_wp2_with fail
  ((with_reducible refine (HH.out _).mono ?_))
  rintro e w2 ⟨rfl, rfl⟩
  go_wp2_with fail
  go_ret
  exact ⟨_, rfl, HO.out, HB.out⟩
theorem splice_take (cur : List Value) (bs l : List Nat) (q : Nat) (hl : l.length = 4) (h : cur.take bs.length = bs.map u8v) (hq : q + 4 ≤ bs.length) :
    (splice cur q (l.map u8v)).take bs.length = (bs.take q ++ l ++ bs.drop (q + 4)).map u8v ∧ (splice cur q (l.map u8v)).length = cur.length := by
  have hA : (bs.map u8v).length = bs.length := List.length_map ..
  have hcl : bs.length ≤ cur.length := by
    have := congrArg List.length h
    rw [List.length_take, hA] at this
    omega
  refine ⟨?_, by rw [length_splice _ _ _ (by rw [List.length_map]; omega)]⟩
  have e : cur = bs.map u8v ++ cur.drop bs.length := by rw [← h, List.take_append_drop]
  generalize cur.drop bs.length = R at e
  subst e
  have hcs : splice (bs.map u8v ++ R) q (l.map u8v) = ((bs.map u8v).take q ++ (l.map u8v ++ (bs.map u8v).drop (q + 4))) ++ R := by
    unfold splice
    rw [List.take_append_of_le_length (by omega), List.drop_append_of_le_length (by rw [List.length_map, hl]; omega), List.length_map, hl]
    simp
  have hcl2 : ((bs.map u8v).take q ++ (l.map u8v ++ (bs.map u8v).drop (q + 4))).length = bs.length := by simp; omega
  rw [hcs, List.take_append_of_le_length (by omega), List.take_of_length_le (by omega)]
  simp
theorem row_src {w : World} {a : Option Addr} {n : Nat} {l : List Nat} (h : Row w a n l) (h0 : 0 < n) : ∃ ad, a = some ad ∧ ∀ j v, (l.map u8v)[j]? = some v → w.cell? (ad.add j) = some v := by
  obtain ⟨h1, _, h3⟩ := h
  obtain ⟨b, off, rfl, hc⟩ := h3 h0
  refine ⟨_, rfl, fun j v hj => ?_⟩
  have hjl : j < l.length := by
    rcases Nat.lt_or_ge j l.length with q | q
    · exact q
    · rw [List.getElem?_eq_none (by simpa using q)] at hj; cases hj
  rw [List.getElem?_map, List.getElem?_eq_getElem hjl] at hj
  simp only [Option.map_some, Option.some.injEq] at hj
  have h4 := hc j (by omega)
  rw [getD_in _ _ hjl] at h4
  rw [← hj, add_off]
  exact h4
theorem u8v_one {l : List Nat} {x : Value} (hx : x ∈ l.map u8v) : x.oneCell' = true := by
  rw [List.mem_map] at hx
  obtain ⟨y, _, rfl⟩ := hx
  rfl
def U32R (w2 : World) (l : List Nat) (e : Ending) (y : World) : Prop := ∃ p, e = .returned (.pointer (some ⟨p, 0, none⟩)) ∧ Below w2.heap.size w2 y ∧ Calls Try.prog 22 #[.pointer (some ⟨p, 0, none⟩)] y (RetOwn y l)
theorem u32r_of {w0 w2 y : World} {l : List Nat} {e : Ending} (hb : Below w2.heap.size w2 w0) (hl : l.length ≤ 1000) (h1 : e = .returned (.pointer (some ⟨w0.heap.size, 0, none⟩))) (h : WX w0 l y) : U32R w2 l e y :=
  ⟨w0.heap.size, h1, bel_trans hb h.bel, wx_bytes h (by omega)⟩
theorem u32_first (w2 : World) (v : Nat) (hv : v < 4294967296) : Calls Try.prog 21 #[.pointer (some ⟨w2.heap.size, 0, none⟩), .slice (some ⟨w2.heap.size + 1, 0, none⟩) 1 1]
    ((w2.alloc (.cells #[.slice none 0 0] 56)).alloc (.cells #[.int .u32 (v : Int)] 23)).drew (U32R w2 (Crc.les 4 v)) := by
  have h := wx_u32 (wx_new w2) (bel_alloc (Below.refl _ _) (.cells #[.int .u32 (v : Int)] 23)).drew (by simp) (w2.heap.size + 1) 1 1 (by simp) [v] (rowK_blk (l := [v]) (by simpa using hv) (by
    show ((w2.alloc (.cells #[.slice none 0 0] 56)).alloc (.cells #[.int .u32 (v : Int)] 23)).heap[w2.heap.size + 1]? = _
    have := heap_alloc_new (w2.alloc (.cells #[.slice none 0 0] 56)) (.cells #[.int .u32 (v : Int)] 23)
    simpa using this)) (by omega)
  refine h.mono fun e y hr => u32r_of (Below.refl _ _) (by rw [Crc.les_len]; omega) hr.1 ?_
  have := hr.2.1
  simpa using this
theorem u32_second (w2 : World) (v : Nat) (hv : v < 4294967296) : Calls Try.prog 21 #[.pointer (some ⟨w2.heap.size + 1, 0, none⟩), .slice (some ⟨w2.heap.size, 0, none⟩) 1 1]
    ((w2.alloc (.cells #[.int .u32 (v : Int)] 23)).alloc (.cells #[.slice none 0 0] 56)).drew (U32R w2 (Crc.les 4 v)) := by
  obtain ⟨w0, hw0⟩ : ∃ x, x = w2.alloc (.cells #[.int .u32 (v : Int)] 23) := ⟨_, rfl⟩
  have hs : w0.heap.size = w2.heap.size + 1 := by rw [hw0]; simp
  have hb : Below w2.heap.size w2 w0 := by rw [hw0]; exact bel_alloc (Below.refl _ _) _
  have hh : w0.heap[w2.heap.size]? = some (.cells #[.int .u32 (v : Int)] 23 (0, 0)) := by rw [hw0]; exact heap_alloc_new _ _
  rw [← hw0, ← hs]
  have hx : WX w0 [] (w0.alloc (.cells #[.slice none 0 0] 56)).drew := (wx_new w0).step (Below.refl _ _).drew
  obtain ⟨sv, h1, h2⟩ := hx
  have hr : RowK .u32 4294967296 (w0.alloc (.cells #[.slice none 0 0] 56)).drew (some ⟨w2.heap.size, 0, none⟩) 1 [v] := rowK_blk (l := [v]) (by simpa using hv) (by
    rw [h2.block _ (by omega)]; exact hh)
  refine (wU32_any _ _ sv [] _ h1 h2.size (some ⟨w2.heap.size, 0, none⟩) 1 1 [v] hr (fun _ z hz => ?_) (by omega) (by simp)).mono fun e y hr => ?_
  · cases hz
    refine ⟨by show w2.heap.size ≠ _; omega, fun e => ?_⟩
    have h := (h1.2.2.1.1.lt _ e.symm).1
    have h' : w0.heap.size ≤ w2.heap.size := h
    omega
  · obtain ⟨a, b⟩ := wx_of h1 h2 hr
    exact u32r_of hb (by rw [Crc.les_len]; omega) a (by simpa using b)
set_option maxRecDepth 100000 in
set_option maxHeartbeats 1600000 in
theorem set_yes (a : Option Addr) (len cap : Nat) (bs : List Nat) (i v : Nat) (w : World) (hr : Row w a len bs) (hn : a = none → cap = 0) (hl : len ≤ 100000) (hi : i < len / 4) (hv : v < 4294967296) :
    Calls Try.prog 10 #[.slice a len cap, .int .i64 (i : Int), .int .u32 (v : Int)] w (RetOwn w (bs.take (4 * i) ++ Crc.les 4 v ++ bs.drop (4 * i + 4))) := by
  have HC := Lib.hid (clone_any a len cap bs w hr hn (by omega))
  have HH := Lib.hid fun x : World => has_yes a len cap i x (by omega) hi
  have HL := Lib.hid hr.1
  clear hr hn
  go_enter Try.func10, Try.ntmps10
  go_wp2_with fail
  ((with_reducible refine HC.out.mono ?_))
  rintro e w1 ⟨sv, rfl, ho, hb⟩
  have hne : ¬ bs.length = 0 := by have := HL.out; omega
  obtain ⟨g, oc, cur, rfl, hg0, hgh, hnc, hcm, hcs, hct⟩ := ho.1.2.resolve_left (fun h => hne h.2)
  have hbl := HL.out
  have HO := Lib.hid (And.intro hcs (And.intro hct ho.2))
  have HG := Lib.hid hgh
  have HB := Lib.hid hb
  unfold maxLen at hcm
  rw [hbl] at hnc ⊢
  clear ho hb hgh hcs hct hne hbl
  go_wp2_with fail
  ((with_reducible refine (HH.out _).mono ?_))
  rintro e w2 ⟨rfl, rfl⟩
  obtain ⟨q, hq⟩ : ∃ q, q = 4 * i := ⟨_, rfl⟩
  have u0 : IntKind.i64.wrap (q : Int) = (q : Int) := by rw [IntKind.wrap_i64]; omega
  have u0' : (4 : Int) * (i : Int) = (q : Int) := by omega
  have u1 : q ≤ oc := by omega
  have u2 : (q : Int) ≤ (oc : Int) := by omega
  have u3 : (0 : Int) ≤ (q : Int) := by omega
  have u4 : ¬ oc = q := by omega
  have u5 : (q : Int) ≤ (len : Int) := by omega
  have u6 : q ≤ len := by omega
  have HQ := Lib.hid hq
  clear hq
  go_upto_region 3 with fail
  have HU1 := Lib.hid (u32_first w2 v hv)
  have HU2 := Lib.hid (u32_second w2 v hv)
  have HL4 : Hid ((Crc.les 4 v).length = 4) := Lib.hid (Crc.les_len 4 v)
  have hgl : g < w2.heap.size := (Array.getElem?_eq_some_iff.1 HG.out).1
  have h4q : q + 4 ≤ len := by omega
  have hlo : len ≤ oc := hnc
  have hle := HB.out.size
  have HGG : Hid (w.heap.size ≤ g ∧ g < w2.heap.size ∧ q + 4 ≤ len ∧ len ≤ oc) := Lib.hid ⟨hg0, hgl, h4q, hlo⟩
  clear hg0 hgl h4q hnc hle hlo
  go_region_law (first
    | (go_simp; go_at_call 21; ((with_reducible refine HU1.out.mono ?_)); (intro e y hr; obtain ⟨p, rfl, hb, hc⟩ := hr; have HBY := Lib.hid hb; have HCY := Lib.hid hc; clear hb hc))
    | (go_simp; go_at_call 21; ((with_reducible refine HU2.out.mono ?_)); (intro e y hr; obtain ⟨p, rfl, hb, hc⟩ := hr; have HBY := Lib.hid hb; have HCY := Lib.hid hc; clear hb hc))
    | (go_simp; go_at_call 22; ((with_reducible refine HCY.out.mono ?_)); (intro e z hr; obtain ⟨a4, c4, rfl, hr4, -, -, hb4⟩ := retOwn_len hr; rw [HL4.out] at hr4 ⊢; have HR4 := Lib.hid hr4; have HBZ := Lib.hid (bel_trans HBY.out hb4); have HGZ : Hid (z.heap[g]? = some (.cells cur.toList.toArray 5 (0, 0))) := Lib.hid (by rw [HBZ.out.block g HGG.out.2.1, HG.out]); have HBW := Lib.hid (bel_trans HB.out HBZ.out); clear hr4 hb4 hr))
    | (refine step_copy_splice rfl (.tmp 16) (.tmp 22) 22 22 rfl 5 Try.underlying22 (by kernel_rfl) _ _ _ _ _ _ rfl rfl g q cur.toList 5 HGZ.out ((Crc.les 4 v).map u8v) (by rw [List.length_map, HL4.out]; have := HGG.out; exact (Nat.min_eq_left (by omega)).symm) (fun _ => ⟨rfl, row_src HR4.out (by omega)⟩) (by rw [List.length_map, HL4.out, Array.length_toList, HO.out.1]; have := HGG.out; omega) (fun x hx => u8v_one hx) w.heap.size w HBW.out HGG.out.1 ?_; intro w5 hh5 hb5; have HH5 := Lib.hid hh5; have HB5 := Lib.hid hb5; clear hh5 hb5))
  all_goals
    have HF : Hid (Own w.heap.size w5 (.slice (some ⟨g, 0, none⟩) len oc) (bs.take (4 * i) ++ Crc.les 4 v ++ bs.drop (4 * i + 4))) := Lib.hid (by
      have hq := HQ.out
      subst hq
      have hg := HGG.out
      obtain ⟨h1, h2, h3⟩ := HO.out
      have h4 := HL4.out
      have h5 := HL.out
      obtain ⟨p1, p2⟩ := splice_take cur.toList bs (Crc.les 4 v) (4 * i) h4 (by rw [Nat.mul_one] at h2; exact h2) (by omega)
      have h6 : (bs.take (4 * i) ++ Crc.les 4 v ++ bs.drop (4 * i + 4)).length = len := by simp; omega
      refine ⟨⟨by rw [List.length_map]; omega, .inr ⟨g, oc, (splice cur.toList (4 * i) ((Crc.les 4 v).map u8v)).toArray, by rw [h6], hg.1, HH5.out.out, by omega, by unfold maxLen; exact hcm, ?_, ?_⟩⟩, ?_⟩
      · rw [List.size_toArray, p2, Array.length_toList]; exact h1
      · rw [Nat.mul_one, h6, ← h5]; exact p1
      · intro x hx
        simp only [List.mem_append] at hx
        rcases hx with (hx | hx) | hx
        · exact h3 x (List.mem_of_mem_take hx)
        · exact Crc.les_lt _ _ _ hx
        · exact h3 x (List.mem_of_mem_drop hx))
    go_wp2_with fail
    go_ret
    exact ⟨_, rfl, HF.out, HB5.out⟩
end Go.Proofs.Ytgfchjchanfcgaa
