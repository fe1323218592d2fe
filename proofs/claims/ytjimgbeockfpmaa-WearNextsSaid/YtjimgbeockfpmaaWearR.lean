/- The document's segments: of; its Next. -/
import Derived.Test.YtjimgbeockfpmaaWearM
import Derived.Deep.AppendLies
import Derived.Deep.RegionLaw
namespace Go.Proofs.Ytjimgbeockfpmaa
open Go.RowKit

def SegV.cr (s : SegV) : List Value := [.int .i64 s.k, .int .i64 s.l, .int .i64 (s.e : Int)]
def RowH (w : World) (a : Option Addr) (len : Nat) (G : List SegV) : Prop :=
  G.length = len ∧ (∀ s ∈ G, s.e < 4294967296) ∧ (0 < len → ∃ b off, a = some ⟨b, off, none⟩ ∧ ∀ i, i < len → w.cell? ⟨b, off + i * 3, none⟩ = some (.int .i64 (G.getD i SegV.nil).k) ∧ w.cell? ⟨b, off + i * 3 + 1, none⟩ = some (.int .i64 (G.getD i SegV.nil).l) ∧ w.cell? ⟨b, off + i * 3 + 2, none⟩ = some (.int .i64 ((G.getD i SegV.nil).e : Int)))
theorem RowH.step {x y : World} {a : Option Addr} {len : Nat} {G : List SegV} (h : RowH x a len G) (hb : Below x.heap.size x y) : RowH y a len G := by
  obtain ⟨h1, h2, h3⟩ := h
  refine ⟨h1, h2, fun h0 => ?_⟩
  obtain ⟨b, off, e, hc⟩ := h3 h0
  refine ⟨b, off, e, fun i hi => ?_⟩
  obtain ⟨c0, c1, c2⟩ := hc i hi
  exact ⟨wcell_step c0 hb, wcell_step c1 hb, wcell_step c2 hb⟩
theorem rowH_at {w : World} {a : Option Addr} {len k : Nat} {G : List SegV} (h : RowH w a len G) (hk : k < len) :
    ∃ b off, a = some ⟨b, off, none⟩ ∧ b < w.heap.size ∧ (∀ i, i < len → w.cell? ⟨b, off + i * 3, none⟩ = some (.int .i64 (G.getD i SegV.nil).k) ∧ w.cell? ⟨b, off + i * 3 + 1, none⟩ = some (.int .i64 (G.getD i SegV.nil).l) ∧ w.cell? ⟨b, off + i * 3 + 2, none⟩ = some (.int .i64 ((G.getD i SegV.nil).e : Int))) := by
  obtain ⟨b, off, e, hc⟩ := h.2.2 (by omega)
  exact ⟨b, off, e, World.block_lt_of_cell? w _ (hc 0 (by omega)).1, hc⟩
def OwnH (B : Nat) (w : World) (sv : Value) (L : List SegV) : Prop := w.ownsRow B 43 3 sv L.length (L.flatMap SegV.cr)
theorem ownH_nil (B : Nat) (w : World) : OwnH B w (.slice none 0 0) [] := World.ownsRow_nil w B _ 3
theorem ownH_below {B : Nat} {w w' : World} {sv : Value} {L : List SegV} (h : OwnH B w sv L) (hb : Below w.heap.size w w') : OwnH B w' sv L :=
  h.kept (row := none) ⟨hb.os, hb.tape, hb.output, hb.size, fun b hb' _ => hb.block b hb'⟩ (by cases hv : sv.ownBlock <;> simp)
theorem flatH_len (L : List SegV) : (L.flatMap SegV.cr).length = L.length * 3 := by
  induction L with
  | nil => rfl
  | cons g G ih => rw [List.flatMap_cons, List.length_append, ih, List.length_cons]; simp [SegV.cr]; omega
theorem flatH_at (L : List SegV) (i j : Nat) (hi : i < L.length) (hj : j < 3) : (L.flatMap SegV.cr)[i * 3 + j]? = (L.getD i SegV.nil).cr[j]? := by
  induction L generalizing i with
  | nil => simp at hi
  | cons g G ih =>
    cases i with
    | zero =>
      rw [List.flatMap_cons, List.getElem?_append_left (by simp [SegV.cr]; omega)]
      simp
    | succ i =>
      have hi' : i < G.length := by simpa using hi
      rw [List.flatMap_cons, List.getElem?_append_right (by simp [SegV.cr]; omega)]
      have e1 : (i + 1) * 3 + j - g.cr.length = i * 3 + j := by simp [SegV.cr]; omega
      rw [e1, ih i hi']
      simp [List.getD]
theorem ownH_row {B : Nat} {w : World} {sv : Value} {L : List SegV} (he : ∀ s ∈ L, s.e < 4294967296) (h : OwnH B w sv L) : ∃ a c, sv = .slice a L.length c ∧ L.length ≤ c ∧ c ≤ maxLen ∧ RowH w a L.length L := by
  have h' := h
  rcases h.2 with ⟨rfl, h0⟩ | ⟨g, cap, cur, rfl, hg, hh, hc, hm, _⟩
  · exact ⟨none, 0, by rw [h0], by omega, by unfold maxLen; omega, ⟨rfl, he, fun h1 => by omega⟩⟩
  · refine ⟨_, cap, rfl, hc, hm, ⟨rfl, he, fun _ => ⟨g, 0, rfl, fun i hi => ?_⟩⟩⟩
    have key : ∀ j, j < 3 → w.cell? ⟨g, 0 + i * 3 + j, none⟩ = (L.getD i SegV.nil).cr[j]? := fun j hj => by
      rw [Nat.zero_add, h'.cellAt (i * 3 + j) (by omega)]
      exact flatH_at L i j hi hj
    exact ⟨key 0 (by omega), key 1 (by omega), key 2 (by omega)⟩
theorem info_segH : (Try.prog.info? 43).map (fun i => (i.zero, i.size, i.bytes)) = some (some (.agg #[.int .i64 0, .int .i64 0, .int .i64 0]), 3, 24) := by kernel_rfl
theorem takeG_snoc {G : List SegV} {k : Nat} (h : k < G.length) : G.take (k + 1) = G.take k ++ [G.getD k SegV.nil] := by
  rw [List.take_succ_eq_append_getElem h]; simp [List.getD, h]
set_option maxHeartbeats 2000000 in
theorem of_any (a : Option Addr) (len cap : Nat) (G : List SegV) (w : World) (hr : RowG w a len G) (hl : len ≤ 1000) :
    Calls Try.prog 11 #[.slice a len cap] w fun e w' => ∃ v, e = .returned v ∧ OwnH w.heap.size w' v G ∧ Below w.heap.size w w' := by
  have HR := Lib.hid hr
  have hlen := hr.1
  clear hr
  obtain ⟨i0, hi, hz0, hz1, hz2⟩ := info_partsW info_segH
  go_enter Try.func11, Try.ntmps11
  go_wp2_with fail
  go_loopw [4, 3] (fun i t wr => ∃ (k : Nat), k ≤ len ∧ i = .int .i64 (k : Int) ∧ OwnH w.heap.size wr t (G.take k) ∧ Below w.heap.size w wr) (fun i _ _ => len - (intOf i).toNat)
  case atStart => exact ⟨0, Nat.zero_le _, rfl, ownH_nil _ _, Below.refl _ _⟩
  case round =>
    obtain ⟨k, hk, rfl, hO, hB⟩ := hrel
    have HO := Lib.hid hO
    have HB := Lib.hid hB
    clear hO hB
    by_cases hlt : k < len
    · have t1 : decide (k < len) = true := by simpa using hlt
      have hr1 := HR.out.step HB.out
      obtain ⟨b, off, rfl, hbs, hc⟩ := rowG_at hr1 hlt
      obtain ⟨c0, c1, c2⟩ := hc k hlt
      obtain ⟨g, hg⟩ : ∃ g, g = G.getD k SegV.nil := ⟨_, rfl⟩
      have hge : g.e < 4294967296 := by rw [hg]; exact getD_e hr1.2.1 k
      rw [← hg] at c0 c1 c2
      have HG := Lib.hid hg
      have HT : Hid (G.take (k + 1) = G.take k ++ [g]) := Lib.hid (by rw [hg]; exact takeG_snoc (by rw [hlen]; exact hlt))
      have htl : (G.take k).length = k := by rw [List.length_take]; omega
      clear hr1 hc hg
      have hk0 : (0 : Int) ≤ (k : Int) := by omega
      have hk1 : (k : Int) < (len : Int) := by omega
      have hwc : wrap64 (g.e : Int) = (g.e : Int) := IntWalk.wrap64_in _ (by omega)
      have hwc2 : IntKind.i64.wrap (g.e : Int) = (g.e : Int) := by rw [IntKind.wrap_i64]; omega
      have hBs := HB.out.size
      have hown : OwnH w.heap.size (wr.alloc (.cells #[.int .i64 g.k, .int .i64 g.l, .int .i64 (g.e : Int)] 43)).drew _ (G.take k) := ownH_below HO.out (wbel_alloc (Below.refl _ _) _).drew
      unfold OwnH at hown
      rw [htl] at hown
      go_upto_region 5 with fail
      go_region_law (first
        | (refine step_append_lies _ (by rfl) _ _ _ (by rfl) w.heap.size 43 i0 _ 3 24 Try.underlying26 hi hz0 hz1 hz2 rfl (by decide) _ k _ (by rfl) hown ⟨wr.heap.size, 0, none⟩ 1 1 [.int .i64 g.k, .int .i64 g.l, .int .i64 (g.e : Int)] (by rfl) (by rfl) (World.news_of_block (cs := #[.int .i64 g.k, .int .i64 g.l, .int .i64 (g.e : Int)]) (t := 43) (fr := (0, 0)) (heap_alloc_new wr _)) (by simp [Value.oneCell']) (by omega) (by unfold maxLen; omega) (by omega) (by simp; omega) (wr.heap.size + 1) (by simp) ?_; intro g2 c2' w3 hown1 hgrow hat hlt3))
      all_goals
        have hbw : Below w.heap.size w w3 := (wbel_alloc HB.out (.cells #[.int .i64 g.k, .int .i64 g.l, .int .i64 (g.e : Int)] 43)).drew.trans ((Below.refl w.heap.size _).grown hgrow (by simp; omega) (fun q hq => (hown.lt q hq).1))
        have hHN : Hid (OwnH w.heap.size w3 (.slice (some ⟨g2, 0, none⟩) (k + 1) c2') (G.take (k + 1)) ∧ Below w.heap.size w w3) := Lib.hid ⟨by
          unfold OwnH
          rw [HT.out, List.length_append, htl, List.flatMap_append]
          simpa [SegV.cr] using hown1, hbw⟩
        clear hown hown1 hgrow hat hlt3 hbw c0 c1 c2 hwc hwc2
        go_wp2_with fail
        go_roundw
        case rel => exact ⟨k + 1, by omega, by go_num, hHN.out.1, hHN.out.2⟩
        case measure => simp [intOf]; omega
    · obtain rfl : k = len := by omega
      have t1 : decide (k < k) = false := by simp
      have hO := HO.out
      rw [List.take_of_length_le (by omega)] at hO
      have HO2 := Lib.hid hO
      clear hO
      go_wp2_with fail
      go_ret
      exact ⟨_, rfl, HO2.out, HB.out⟩
/-- Which free one is the first, from k on. -/
def LastIs (G : List SegV) (k n : Nat) (r : Int) : Prop :=
  (r = -1 ∧ ∀ j, k ≤ j → j < n → (G.getD j SegV.nil).k ≠ 0) ∨ ∃ m : Nat, k ≤ m ∧ m < n ∧ r = (m : Int) ∧ (G.getD m SegV.nil).k = 0 ∧ ∀ j, k ≤ j → j < n → (G.getD j SegV.nil).k = 0 → (G.getD m SegV.nil).e ≤ (G.getD j SegV.nil).e ∧ (j < m → (G.getD m SegV.nil).e < (G.getD j SegV.nil).e)
theorem last_all {G : List SegV} {n : Nat} {r : Int} (h : LastIs G 0 n r) : FirstIs ordN 0 G n r := by
  rcases h with ⟨h1, h2⟩ | ⟨m, _, h1, h2, h3, h4⟩
  · exact .inl ⟨h1, fun j hj => h2 j (Nat.zero_le _) hj⟩
  · refine .inr ⟨m, h1, h2, h3, fun j hj hk => ?_⟩
    have := h4 j (Nat.zero_le _) hj hk
    rw [ordN_lt, ordN_lt]
    omega
theorem last_start (G : List SegV) (n : Nat) : LastIs G n n (-1) := .inl ⟨rfl, fun j h1 h2 => by omega⟩
theorem last_skip {G : List SegV} {k n : Nat} {r : Int} (h : LastIs G (k + 1) n r) (hk : (G.getD k SegV.nil).k ≠ 0) : LastIs G k n r := by
  rcases h with ⟨h1, h2⟩ | ⟨m, h0, h1, h2, h3, h4⟩
  · refine .inl ⟨h1, fun j hj hn => ?_⟩
    rcases Nat.lt_or_ge k j with q | q
    · exact h2 j q hn
    · obtain rfl : j = k := by omega
      exact hk
  · refine .inr ⟨m, by omega, h1, h2, h3, fun j hj hn hjk => ?_⟩
    rcases Nat.lt_or_ge k j with q | q
    · exact h4 j q hn hjk
    · obtain rfl : j = k := by omega
      exact absurd hjk hk
theorem last_one {G : List SegV} {k n : Nat} (h : LastIs G (k + 1) n (-1)) (hk : (G.getD k SegV.nil).k = 0) (hn : k < n) : LastIs G k n (k : Int) := by
  rcases h with ⟨_, h2⟩ | ⟨m, _, _, h2, _, _⟩
  · refine .inr ⟨k, Nat.le_refl _, hn, rfl, hk, fun j hj hjn hjk => ?_⟩
    rcases Nat.lt_or_ge k j with q | q
    · exact absurd hjk (h2 j q hjn)
    · obtain rfl : j = k := by omega
      omega
  · omega
theorem last_new {G : List SegV} {k n m : Nat} (h : LastIs G (k + 1) n (m : Int)) (hk : (G.getD k SegV.nil).k = 0) (hn : k < n) (he : (G.getD k SegV.nil).e ≤ (G.getD m SegV.nil).e) : LastIs G k n (k : Int) := by
  rcases h with ⟨h1, _⟩ | ⟨m', _, _, h2, _, h4⟩
  · omega
  · obtain rfl : m = m' := by omega
    refine .inr ⟨k, Nat.le_refl _, hn, rfl, hk, fun j hj hjn hjk => ?_⟩
    rcases Nat.lt_or_ge k j with q | q
    · have := (h4 j q hjn hjk).1
      omega
    · obtain rfl : j = k := by omega
      omega
theorem last_old {G : List SegV} {k n m : Nat} (h : LastIs G (k + 1) n (m : Int)) (he : ¬ (G.getD k SegV.nil).e ≤ (G.getD m SegV.nil).e) : LastIs G k n (m : Int) := by
  rcases h with ⟨h1, _⟩ | ⟨m', h0, h1, h2, h3, h4⟩
  · omega
  · obtain rfl : m = m' := by omega
    refine .inr ⟨m, by omega, h1, rfl, h3, fun j hj hjn hjk => ?_⟩
    rcases Nat.lt_or_ge k j with q | q
    · exact h4 j q hjn hjk
    · obtain rfl : j = k := by omega
      omega
theorem last_lt {G : List SegV} {k n : Nat} {r : Int} (h : LastIs G k n r) (hr : r ≠ -1) : ∃ m : Nat, r = (m : Int) ∧ m < n := by
  rcases h with ⟨h1, _⟩ | ⟨m, _, h1, h2, _, _⟩
  · exact absurd h1 hr
  · exact ⟨m, h2, h1⟩
set_option maxHeartbeats 2000000 in
theorem refNext_any (a : Option Addr) (len cap : Nat) (G : List SegV) (w : World) (hr : RowH w a len G) (hl : len ≤ 1000) :
    Calls Try.prog 14 #[.slice a len cap] w fun e w' => ∃ r, e = .returned (.int .i64 r) ∧ FirstIs ordN 0 G len r ∧ Below w.heap.size w w' := by
  have HR := Lib.hid hr
  clear hr
  have hw0 : wrap64 ((len : Int) - 1) = (len : Int) - 1 := IntWalk.wrap64_in _ (by omega)
  go_enter Try.func14, Try.ntmps14
  go_wp2_with fail
  go_loopw [4, 3] (fun i t wr => ∃ (k : Nat) (r : Int), k ≤ len ∧ i = .int .i64 ((k : Int) - 1) ∧ t = .int .i64 r ∧ LastIs G k len r ∧ Below w.heap.size w wr) (fun i _ _ => (intOf i + 1).toNat)
  case atStart => exact ⟨len, -1, Nat.le_refl _, by first | rfl | (rw [hw0]), rfl, last_start _ _, Below.refl _ _⟩
  case round =>
    obtain ⟨k, r, hk, rfl, rfl, hL, hB⟩ := hrel
    have HL := Lib.hid hL
    have HB := Lib.hid hB
    clear hL hB hw0
    rcases Nat.eq_zero_or_pos k with h0 | h0
    · subst h0
      have t1 : decide ((0 : Int) ≤ ((0 : Nat) : Int) - 1) = false := by simp
      have HF := Lib.hid (last_all HL.out)
      go_wp2_with fail
      go_ret
      exact ⟨r, rfl, HF.out, HB.out⟩
    · obtain ⟨m, rfl⟩ : ∃ m, k = m + 1 := ⟨k - 1, by omega⟩
      have e1 : ((m + 1 : Nat) : Int) - 1 = (m : Int) := by omega
      rw [e1]
      clear e1
      have t1 : decide ((0 : Int) ≤ (m : Int)) = true := by simp
      have hml : m < len := by omega
      have hr1 := HR.out.step HB.out
      obtain ⟨b, off, rfl, hbs, hc⟩ := rowH_at hr1 hml
      obtain ⟨c0, c1, c2⟩ := hc m hml
      have HC := Lib.hid hc
      obtain ⟨g, hg⟩ : ∃ g, g = G.getD m SegV.nil := ⟨_, rfl⟩
      rw [← hg] at c0 c1 c2
      have HG := Lib.hid hg
      clear hr1 hc hg h0
      have k0 : (0 : Int) ≤ (m : Int) := by omega
      have k1 : (m : Int) < (len : Int) := by omega
      have hw1 : wrap64 ((m : Int) - 1) = (m : Int) - 1 := IntWalk.wrap64_in _ (by omega)
      go_upto_region 5 with fail
      obtain ⟨S, hSd⟩ : ∃ S : World → Prop, (∀ x, S x → Below wr.heap.size wr x) ∧ (∀ x, Below wr.heap.size wr x → S x) := ⟨_, fun _ h => h, fun _ h => h⟩
      have hS0 : S wr.drew := hSd.2 _ (Below.refl _ _).drew
      haveI hne : Nonempty (Wd S) := ⟨⟨_, hS0⟩⟩
      have HS := Lib.hid hSd
      clear hSd
      have f0 : ∀ y : Wd S, y.w.cell? ⟨b, off + m * 3, none⟩ = some (.int .i64 g.k) := fun y => wcell_step c0 (HS.out.1 _ y.ok)
      have f2 : ∀ y : Wd S, y.w.cell? ⟨b, off + m * 3 + 2, none⟩ = some (.int .i64 (g.e : Int)) := fun y => wcell_step c2 (HS.out.1 _ y.ok)
      have HW : Hid (∀ y : Wd S, Below w.heap.size w y.w) := Lib.hid fun y => wbel_trans HB.out (HS.out.1 _ y.ok)
      clear c0 c1 c2
      by_cases hK : g.k = 0
      · have t2 : (g.k == 0) = true := by simpa using hK
        by_cases hr1 : r = -1
        · subst hr1
          have hR := Lib.hid (last_one HL.out (by rw [← HG.out]; exact hK) hml)
          refine wp_region_wd S (by kernel_rfl) (by kernel_rfl) hS0 ?_
          repeat (go_big_quiet_step (fail))
          refine wpQuiet_nil ?_
          intro _ hw'
          obtain ⟨y, rfl⟩ := hw'
          go_wp2_with fail
          go_roundw
          case rel => exact ⟨m, (m : Int), by omega, by first | rfl | go_num, rfl, hR.out, HW.out y⟩
          case measure => simp [intOf]
        · obtain ⟨q, rfl, hq⟩ := last_lt HL.out hr1
          have t3 : decide ((q : Int) < 0) = false := by simp
          obtain ⟨h, hh⟩ : ∃ h, h = G.getD q SegV.nil := ⟨_, rfl⟩
          have HH := Lib.hid hh
          have e2 : ∀ y : Wd S, y.w.cell? ⟨b, off + q * 3 + 2, none⟩ = some (.int .i64 (h.e : Int)) := fun y => by rw [HH.out]; exact wcell_step (HC.out q hq).2.2 (HS.out.1 _ y.ok)
          have q0 : (0 : Int) ≤ (q : Int) := by omega
          have q1 : (q : Int) < (len : Int) := by omega
          by_cases hE : g.e ≤ h.e
          · have t4 : decide ((g.e : Int) ≤ (h.e : Int)) = true := by simp; omega
            have t5 : decide (g.e ≤ h.e) = true := by simpa using hE
            have hR := Lib.hid (last_new HL.out (by rw [← HG.out]; exact hK) hml (by rw [← HG.out, ← HH.out]; exact hE))
            clear hh hr1 hK hE
            refine wp_region_wd S (by kernel_rfl) (by kernel_rfl) hS0 ?_
            repeat (go_big_quiet_step (fail))
            refine wpQuiet_nil ?_
            intro _ hw'
            obtain ⟨y, rfl⟩ := hw'
            go_wp2_with fail
            go_roundw
            case rel => exact ⟨m, (m : Int), by omega, by first | rfl | go_num, rfl, hR.out, HW.out y⟩
            case measure => simp [intOf]
          · have t4 : decide ((g.e : Int) ≤ (h.e : Int)) = false := by simp; omega
            have t5 : decide (g.e ≤ h.e) = false := by simpa using hE
            have hR := Lib.hid (last_old HL.out (by rw [← HG.out, ← HH.out]; exact hE))
            clear hh hr1 hK hE
            refine wp_region_wd S (by kernel_rfl) (by kernel_rfl) hS0 ?_
            repeat (go_big_quiet_step (fail))
            refine wpQuiet_nil ?_
            intro _ hw'
            obtain ⟨y, rfl⟩ := hw'
            go_wp2_with fail
            go_roundw
            case rel => exact ⟨m, (q : Int), by omega, by first | rfl | go_num, rfl, hR.out, HW.out y⟩
            case measure => simp [intOf]
      · have t2 : (g.k == 0) = false := by simpa using hK
        have hR := Lib.hid (last_skip HL.out (by rw [← HG.out]; exact hK))
        refine wp_region_wd S (by kernel_rfl) (by kernel_rfl) hS0 ?_
        repeat (go_big_quiet_step (fail))
        refine wpQuiet_nil ?_
        intro _ hw'
        obtain ⟨y, rfl⟩ := hw'
        go_wp2_with fail
        go_roundw
        case rel => exact ⟨m, r, by omega, by first | rfl | go_num, rfl, hR.out, HW.out y⟩
        case measure => simp [intOf]
end Go.Proofs.Ytjimgbeockfpmaa
