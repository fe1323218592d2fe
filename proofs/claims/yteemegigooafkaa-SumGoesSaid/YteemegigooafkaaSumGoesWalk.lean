/- SumGoes: the walk. -/
import Derived.Test.YteemegigooafkaaSumKnown
import Derived.Test.YteemegigooafkaaFrame
import Derived.Test.YteemegigooafkaaAppend
import Derived.Deep.RegionHeld3
import Derived.Deep.AppendLies
namespace Go.Proofs.Yteemegigooafkaa
open Go.RowKit

set_option maxRecDepth 100000 in
set_option maxHeartbeats 400000 in
theorem sumGoes_known (a b c : Option Addr) (la ca lb cb lc cc : Nat) (w : World) (h : 400 < la ∨ lb < la ∨ lc < la) (ha : la ≤ maxLen) :
    Calls Try.prog 12 #[.slice a la ca, .slice b lb cb, .slice c lc cc] w fun e w' => e = .returned (.bool true) ∧ Below w.heap.size w w' := by
  unfold maxLen at ha
  rcases (show 400 < la ∨ (la ≤ 400 ∧ lb < la) ∨ (la ≤ 400 ∧ la ≤ lb ∧ lc < la) by omega) with h | ⟨h1, h2⟩ | ⟨h1, h2, h3⟩
  all_goals
    go_enter Try.func12, Try.ntmps12
    go_wp2_with fail
    refine (known_any _).mono ?_
    rintro e w1 ⟨rfl, hb1⟩
    go_wp2_with fail
    refine (known_any _).mono ?_
    rintro e w2 ⟨rfl, hb2⟩
    go_wp2
    go_ret
    exact ⟨rfl, bel_trans hb1 hb2⟩

theorem row_drewN {w : World} {a : Option Addr} {len : Nat} {bs : List Nat} (h : Row w a len bs) (n : Nat) : Row (w.drewN n) a len bs := h
theorem bel_drewN {B : Nat} {w a : World} (h : Below B w a) (n : Nat) : Below B w (a.drewN n) := h.trans ⟨rfl, rfl, rfl, Nat.le_refl _, fun _ _ => rfl⟩
theorem row_prefix {w : World} {a : Option Addr} {len n : Nat} {bs : List Nat} (h : Row w a len bs) (hn : n ≤ len) : Row w a n (bs.take n) := by
  obtain ⟨h1, h2, h3⟩ := h
  refine ⟨by rw [List.length_take]; omega, fun x hx => h2 x (List.mem_of_mem_take hx), fun h0 => ?_⟩
  obtain ⟨b, off, h4, h5⟩ := h3 (by omega)
  refine ⟨b, off, h4, fun i hi => ?_⟩
  rw [h5 i (by omega)]
  simp [List.getD, hi]
theorem xors_snoc (a b : List Nat) (k : Nat) (ha : k < a.length) (hb : k < b.length) : Crc.xors (a.take (k + 1)) (b.take (k + 1)) = Crc.xors (a.take k) (b.take k) ++ [a.getD k 0 ^^^ b.getD k 0] := by
  unfold Crc.xors
  rw [take_snoc_getD a k ha, take_snoc_getD b k hb, List.zipWith_append (by rw [List.length_take, List.length_take]; omega)]
  rfl
theorem xors3_snoc (a b c : List Nat) (k : Nat) (ha : k < a.length) (hb : k < b.length) (hc : k < c.length) :
    Crc.xors (Crc.xors (a.take (k + 1)) (b.take (k + 1))) (c.take (k + 1)) = Crc.xors (Crc.xors (a.take k) (b.take k)) (c.take k) ++ [(a.getD k 0 ^^^ b.getD k 0) ^^^ c.getD k 0] := by
  rw [xors_snoc a b k ha hb]
  unfold Crc.xors
  rw [take_snoc_getD c k hc, List.zipWith_append (by rw [List.length_zipWith, List.length_take, List.length_take, List.length_take]; omega)]
  rfl
theorem xor8 (x y z : Nat) (hx : x < 256) (hy : y < 256) (hz : z < 256) : bits BinOp.xor IntKind.u8 (bits BinOp.xor IntKind.u8 (x : Int) (y : Int)) (z : Int) = (((x ^^^ y) ^^^ z : Nat) : Int) := by
  rw [u8_xor_nat x y hx hy, u8_xor_nat (x ^^^ y) z (Nat.xor_lt_two_pow (n := 8) hx hy) hz]
theorem xor8_lt (x y z : Nat) (hx : x < 256) (hy : y < 256) (hz : z < 256) : (x ^^^ y) ^^^ z < 256 := Nat.xor_lt_two_pow (n := 8) (Nat.xor_lt_two_pow (n := 8) hx hy) hz
theorem goes_test (a b c : List Nat) (hab : a.length = b.length) (hac : a.length = c.length) (ha : ∀ x ∈ a, x < 256) (hb : ∀ x ∈ b, x < 256) (hc : ∀ x ∈ c, x < 256) :
    (bits BinOp.xor IntKind.u32 (bits BinOp.xor IntKind.u32 ((Crc.of a : Nat) : Int) ((Crc.of b : Nat) : Int)) ((Crc.of c : Nat) : Int) == ((Crc.of (Crc.xors (Crc.xors a b) c) : Nat) : Int)) = true := by
  have h1 := Crc.of_lt a
  have h2 := Crc.of_lt b
  have h3 := Crc.of_lt c
  rw [u32_xor_nat _ _ h1 h2, u32_xor_nat _ _ (Nat.xor_lt_two_pow (n := 32) h1 h2) h3, Crc.goes a b c hab hac ha hb hc]
  simp
theorem own_app1 {B : Nat} {w : World} {g n cap : Nat} {bs : List Nat} {v : Int} {x : Nat} (h : w.ownsRow B 5 1 (.slice (some ⟨g, 0, none⟩) (bs.length + 1) cap) (bs.length + 1) (bs.map u8v ++ [.int .u8 v])) (hb : ∀ y ∈ bs, y < 256) (he : v = (x : Int)) (hx : x < 256) (hn : n = bs.length + 1) :
    Own B w (.slice (some ⟨g, 0, none⟩) n cap) (bs ++ [x]) := by
  subst he hn
  refine ⟨?_, fun y hy => ?_⟩
  · simpa [u8v] using h
  · rw [List.mem_append] at hy
    rcases hy with hy | hy
    · exact hb y hy
    · simp at hy; omega
theorem bel_drew {w a : World} (h : Below w.heap.size w a) : Below w.heap.size w a.drew := h.drew

set_option maxRecDepth 100000 in
set_option maxHeartbeats 1200000 in
theorem sumGoes_main (a b c : Option Addr) (la ca lb cb lc cc : Nat) (xs ys zs : List Nat) (w : World) (ha : InB w a la ca xs) (hb : InB w b lb cb ys) (hc : InB w c lc cc zs)
    (h1 : la ≤ 400) (h2 : la ≤ lb) (h3 : la ≤ lc) :
    Calls Try.prog 12 #[.slice a la ca, .slice b lb cb, .slice c lc cc] w fun e w' => e = .returned (.bool true) ∧ Below w.heap.size w w' := by
  obtain ⟨hra, hlca, hcma, hna⟩ := ha
  obtain ⟨hrb, hlcb, hcmb, hnb⟩ := hb
  obtain ⟨hrc, hlcc, hcmc, hnc⟩ := hc
  unfold maxLen at hcma hcmb hcmc
  have hd1 : decide ((400 : Int) < (la : Int)) = false := by simp; omega
  have hd2 : decide (lb < la) = false := by simp; omega
  have hd3 : decide (lc < la) = false := by simp; omega
  obtain ⟨i0, hi, hz0, hz1, hz2⟩ := info_parts info_u8
  go_enter Try.func12, Try.ntmps12
  go_wp2_with fail
  refine (known_any _).mono ?_
  rintro e w1 ⟨rfl, hb1⟩
  go_wp2_with fail
  go_quiet (fail)
  go_wp2
  go_loopw [7, 8] (fun out i wr => ∃ k : Nat, k ≤ la ∧ i = .int .i64 k ∧ Own w.heap.size wr out (Crc.xors (Crc.xors (xs.take k) (ys.take k)) (zs.take k)) ∧ Below w.heap.size w wr) (fun _ i _ => la - (intOf i).toNat)
  case atStart => exact ⟨0, by omega, rfl, own_nil _ _, bel_drewN hb1 _⟩
  case round =>
    obtain ⟨k, hk, rfl, hown, hbel⟩ := hrel
    by_cases hlt : k < la
    · obtain ⟨ba, oa, x, ha, hca, hx, HX⟩ := row_cell (row_keep hra hbel (Nat.le_refl _)) hlt
      obtain ⟨bb, ob, y, hb, hcb, hy, HY⟩ := row_cell (row_keep hrb hbel (Nat.le_refl _)) (Nat.lt_of_lt_of_le hlt h2)
      obtain ⟨bc, oc, z, hc, hcc, hz, HZ⟩ := row_cell (row_keep hrc hbel (Nat.le_refl _)) (Nat.lt_of_lt_of_le hlt h3)
      have HS := Lib.hid (xors3_snoc xs ys zs k (by have := hra.1; omega) (by have := hrb.1; omega) (by have := hrc.1; omega))
      rw [← HX.out, ← HY.out, ← HZ.out] at HS
      have HE := Lib.hid (xor8 x y z hx hy hz)
      have hv := xor8_lt x y z hx hy hz
      have hle : (Crc.xors (Crc.xors (xs.take k) (ys.take k)) (zs.take k)).length ≤ 400 := by
        unfold Crc.xors
        rw [List.length_zipWith, List.length_zipWith, List.length_take]; omega
      have HA := Lib.hid ha
      have HB := Lib.hid hb
      have HC := Lib.hid hc
      clear ha hb hc HX HY HZ
      rw [HA.out, HB.out, HC.out]
      have la' : ba < w.heap.size := row_lt hra (by omega) _ HA.out
      have lb' : bb < w.heap.size := row_lt hrb (by omega) _ HB.out
      have lc' : bc < w.heap.size := row_lt hrc (by omega) _ HC.out
      have hsz := hbel.size
      have na : u7.ownBlock ≠ some ba := fun e => by have := own_base hown ba e; omega
      have nb : u7.ownBlock ≠ some bb := fun e => by have := own_base hown bb e; omega
      have nc : u7.ownBlock ≠ some bc := fun e => by have := own_base hown bc e; omega
      have hi0 : (0 : Int) ≤ (k : Int) := Int.natCast_nonneg _
      have hi1 : (k : Int) < (la : Int) := by omega
      go_wp2
      go_region_held3 (fun w' => w'.cell? ⟨ba, oa + k, none⟩ = some (.int .u8 (x : Int)) ∧ w'.cell? ⟨bb, ob + k, none⟩ = some (.int .u8 (y : Int)) ∧ w'.cell? ⟨bc, oc + k, none⟩ = some (.int .u8 (z : Int)))
        (first
          | go_keep
          | (go_split_ands
             refine ⟨?_, ?_, ?_⟩
             · (rw [hgrow.cell_far _ (by simp; omega) (Ne.symm na)]; assumption)
             · (rw [hgrow.cell_far _ (by simp; omega) (Ne.symm nb)]; assumption)
             · (rw [hgrow.cell_far _ (by simp; omega) (Ne.symm nc)]; assumption)))
        ((refine step_append_lies _ (by rfl) _ _ _ (by rfl) w.heap.size 5 i0 _ 1 1 Try.underlying26 hi hz0 hz1 hz2 rfl (by omega) u7 _ _ (by rfl) ((hown.1.alloc _).drew)
            ⟨wr.heap.size, 0, none⟩ 1 1 [.int .u8 (bits BinOp.xor IntKind.u8 (bits BinOp.xor IntKind.u8 (x : Int) (y : Int)) (z : Int))] (by rfl) (by rfl) (World.news_of_block (cs := #[.int .u8 (bits BinOp.xor IntKind.u8 (bits BinOp.xor IntKind.u8 (x : Int) (y : Int)) (z : Int))]) (t := 5) (fr := (0, 0)) (heap_alloc_new wr _)) (by simp [Value.oneCell'])
            (by omega) (by unfold maxLen; omega) (by omega) (by simp; omega) (wr.heap.size + 1) (by simp) ?_; intro gg gcap w2 hown1 hgrow hat hlt2))
      have HO := own_app1 hown1 hown.2 HE.out hv rfl
      rw [← HS.out] at HO
      have HB2 : Below w.heap.size w w2 := (bel_drew (bel_alloc hbel _)).grown hgrow (by simp; omega) (fun b hb => (own_base hown b hb).1)
      clear hown hown1 hgrow hat hlt2 hbel
      go_wp2
      go_roundw
      case rel => exact ⟨k + 1, by omega, by go_num, HO, HB2⟩
      case measure => simp [intOf]; omega
    · obtain rfl : k = la := by omega
      have hn1 : xs.take k = xs := by rw [← hra.1, List.take_length]
      rw [hn1] at hown
      have HG := Lib.hid (goes_test xs (ys.take k) (zs.take k) (by rw [List.length_take]; have := hra.1; have := hrb.1; omega) (by rw [List.length_take]; have := hra.1; have := hrc.1; omega) hra.2.1 (fun x hx => hrb.2.1 x (List.mem_of_mem_take hx)) (fun x hx => hrc.2.1 x (List.mem_of_mem_take hx)))
      obtain ⟨a4, c4, hu, hr4, hm4⟩ := row_of_own hown
      subst hu
      have hka : k ≤ maxLen := by unfold maxLen; omega
      have hr1 := row_keep hra hbel (Nat.le_refl _)
      have hr2 := row_keep (row_prefix hrb h2) hbel (Nat.le_refl _)
      have hr3 := row_keep (row_prefix hrc h3) hbel (Nat.le_refl _)
      clear hn1
      go_wp2_with fail
      refine (of_one _ 0 _ a k ca xs _ (cell_new1 _ _ _) hka (row_alloc hr1 _)).mono ?_
      rintro e w' ⟨rfl, rfl⟩
      go_wp2_with fail
      refine (of_one (wr.heap.size + 1) 0 _ b k cb _ _ (cell_new1_at (by simp)) hka (row_alloc (row_alloc hr2 _) _)).mono ?_
      rintro e w' ⟨rfl, rfl⟩
      go_wp2_with fail
      refine (of_one (wr.heap.size + 2) 0 _ c k cc _ _ (cell_new1_at (by simp)) hka (row_alloc (row_alloc (row_alloc hr3 _) _) _)).mono ?_
      rintro e w' ⟨rfl, rfl⟩
      go_wp2_with fail
      refine (of_one (wr.heap.size + 3) 0 _ a4 _ c4 _ _ (cell_new1_at (by simp)) hm4 (row_alloc (row_alloc (row_alloc (row_alloc hr4 _) _) _) _)).mono ?_
      rintro e w' ⟨rfl, rfl⟩
      go_wp2
      go_ret
      exact ⟨ret_bool HG.out, bel_alloc (bel_alloc (bel_alloc (bel_alloc hbel _) _) _) _⟩

theorem sumGoes_walk (a : Option Addr) (la ca : Nat) (xs : List Nat) (b : Option Addr) (lb cb : Nat) (ys : List Nat) (c : Option Addr) (lc cc : Nat) (zs : List Nat) (w : World)
    (ha : InB w a la ca xs) (hb : InB w b lb cb ys) (hc : InB w c lc cc zs) :
    Calls Try.prog 12 #[.slice a la ca, .slice b lb cb, .slice c lc cc] w fun e w' => e = .returned (.bool true) ∧ Below w.heap.size w w' := by
  by_cases h : 400 < la ∨ lb < la ∨ lc < la
  · exact sumGoes_known a b c la ca lb cb lc cc w h (Nat.le_trans ha.2.1 ha.2.2.1)
  · exact sumGoes_main a b c la ca lb cb lc cc xs ys zs w ha hb hc (by omega) (by omega) (by omega)

end Go.Proofs.Yteemegigooafkaa
