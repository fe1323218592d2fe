/- gabionref14.Decode, where there are bytes enough. -/
import Derived.Test.YthgcjiocelcblaaGreatK45
namespace Go.Proofs.YthgcjiocelcblaaGreat
open Go.RowKit

/-- What Decode of enough bytes gives. -/
def RefGot (w : World) (sq ba : Nat) (l1 l2 : List Nat) (zz : Bool) (e : Ending) (w' : World) : Prop :=
  Below w.heap.size w w' ∧ (zz = false ∧ e = .returned ptNoneR ∨ zz = true ∧ ∃ v1 v2, e = .returned (.tuple #[.agg #[.int .i64 (sq : Int), .int .i64 (ba : Int), v1, v2], .int .i64 0]) ∧ OwnJ w.heap.size w' v1 l1 ∧ OwnJ w.heap.size w' v2 l2)
theorem ownJ_base {B B' : Nat} {x : World} {v : Value} {l : List Nat} (h : OwnJ B x v l) (hB : B' ≤ B) : OwnJ B' x v l := by
  rcases h with ⟨e, h | ⟨g, cap, cur, a, b, c, d⟩⟩
  · exact ⟨e, .inl h⟩
  · exact ⟨e, .inr ⟨g, cap, cur, a, Nat.le_trans hB b, c, d⟩⟩
theorem refGot_no {w w' : World} {sq ba : Nat} {l1 l2 : List Nat} (h : Below w.heap.size w w') : RefGot w sq ba l1 l2 false (.returned ptNoneR) w' := by
  unfold RefGot
  exact ⟨h, .inl ⟨rfl, rfl⟩⟩
theorem refGot_yes {w w' : World} {sq ba B1 B2 : Nat} {l1 l2 : List Nat} {v1 v2 : Value} (h : Below w.heap.size w w') (h1 : OwnJ B1 w' v1 l1) (k1 : w.heap.size ≤ B1) (h2 : OwnJ B2 w' v2 l2) (k2 : w.heap.size ≤ B2) :
    RefGot w sq ba l1 l2 true (.returned (.tuple #[.agg #[.int .i64 (sq : Int), .int .i64 (ba : Int), v1, v2], .int .i64 0])) w' := by
  unfold RefGot
  exact ⟨h, .inr ⟨rfl, v1, v2, rfl, ownJ_base h1 k1, ownJ_base h2 k2⟩⟩
set_option maxRecDepth 100000 in
set_option maxHeartbeats 8000000 in
theorem ptRefDec_ok (a : Option Addr) (n c : Nat) (bs : List Nat) (w : World) (hr : Row w a n bs) (hn : n ≤ 100000) (h : 16 ≤ n) (hk : 16 + 4 * (ptN bs 2 + ptN bs 3) ≤ n) (hc : n ≤ c) :
    Calls Tryz.prog 17 #[.slice a n c] w (RefGot w (ptN bs 0) (ptN bs 1) (numsU bs 16 (ptN bs 2)) (numsU bs (16 + 4 * ptN bs 2) (ptN bs 3)) (zeros (bs.drop (16 + 4 * ptN bs 2 + 4 * ptN bs 3)))) := by
  have t1 : decide ((n : Int) < 16) = false := by simp; omega
  have t1' : decide (n < 16) = false := by simp; omega
  have hlt : ∀ k, ptN bs k < 4294967296 := fun k => by
    unfold ptN
    have h1 := leVal_lt ((bs.drop (4 * k)).take 4) (fun y hy => hr.2.1 y (List.mem_of_mem_drop (List.mem_of_mem_take hy)))
    have h2 : ((bs.drop (4 * k)).take 4).length ≤ 4 := by rw [List.length_take]; exact Nat.min_le_left _ _
    exact Nat.lt_of_lt_of_le h1 (Nat.pow_le_pow_right (by decide) h2 : 256 ^ _ ≤ 256 ^ 4)
  have hby := hr.2.1
  obtain ⟨b8, off, rfl, hcs8⟩ := hr.2.2 (by omega)
  have HN : Hid (∀ (x : World) (k : Nat), Below w.heap.size w x → k + 4 ≤ n → Calls Tryz.prog 33 #[.slice (some ⟨b8, off, none⟩) n c, .int .i64 (k : Int), .int .i64 4] x fun e w' => e = .returned (.int .u64 ((leVal ((bs.drop k).take 4) : Nat) : Int)) ∧ w' = x) :=
    Lib.hid fun x k hx hk => numR_any _ n c bs k 4 x (row_keep hr hx (Nat.le_refl _)) hk hn (by omega)
  have l0 := hlt 0
  have l1 := hlt 1
  have l2 := hlt 2
  have l3 := hlt 3
  obtain ⟨sq, e0⟩ : ∃ y, ptN bs 0 = y := ⟨_, rfl⟩
  obtain ⟨ba, e1⟩ : ∃ y, ptN bs 1 = y := ⟨_, rfl⟩
  obtain ⟨mn, e2⟩ : ∃ y, ptN bs 2 = y := ⟨_, rfl⟩
  obtain ⟨en, e3⟩ : ∃ y, ptN bs 3 = y := ⟨_, rfl⟩
  rw [e2, e3] at hk
  rw [e0] at l0
  rw [e1] at l1
  rw [e2] at l2
  rw [e3] at l3
  rw [e0, e1, e2, e3]
  unfold ptN at e0 e1 e2 e3
  have HN0 : Hid (∀ x : World, Below w.heap.size w x → Calls Tryz.prog 33 #[.slice (some ⟨b8, off, none⟩) n c, .int .i64 0, .int .i64 4] x fun e w' => e = .returned (.int .u64 (sq : Int)) ∧ w' = x) := Lib.hid fun x hx => by
    have := HN.out x 0 hx (by omega)
    rw [e0] at this
    exact this
  have HN1 : Hid (∀ x : World, Below w.heap.size w x → Calls Tryz.prog 33 #[.slice (some ⟨b8, off, none⟩) n c, .int .i64 4, .int .i64 4] x fun e w' => e = .returned (.int .u64 (ba : Int)) ∧ w' = x) := Lib.hid fun x hx => by
    have := HN.out x 4 hx (by omega)
    rw [e1] at this
    exact this
  have HN2 : Hid (∀ x : World, Below w.heap.size w x → Calls Tryz.prog 33 #[.slice (some ⟨b8, off, none⟩) n c, .int .i64 8, .int .i64 4] x fun e w' => e = .returned (.int .u64 (mn : Int)) ∧ w' = x) := Lib.hid fun x hx => by
    have := HN.out x 8 hx (by omega)
    rw [e2] at this
    exact this
  have HN3 : Hid (∀ x : World, Below w.heap.size w x → Calls Tryz.prog 33 #[.slice (some ⟨b8, off, none⟩) n c, .int .i64 12, .int .i64 4] x fun e w' => e = .returned (.int .u64 (en : Int)) ∧ w' = x) := Lib.hid fun x hx => by
    have := HN.out x 12 hx (by omega)
    rw [e3] at this
    exact this
  have m0 : IntKind.i64.wrap (sq : Int) = (sq : Int) := by rw [IntKind.wrap_i64]; omega
  have m1 : IntKind.i64.wrap (ba : Int) = (ba : Int) := by rw [IntKind.wrap_i64]; omega
  obtain ⟨s, hs⟩ : ∃ y, mn + en = y := ⟨_, rfl⟩
  have s1 : (mn : Int) + (en : Int) = (s : Int) := by omega
  have m2 : IntKind.u64.wrap (s : Int) = (s : Int) := by rw [IntKind.wrap_u64]; omega
  obtain ⟨s4, hs4⟩ : ∃ y, 4 * s = y := ⟨_, rfl⟩
  have s2 : 4 * (s : Int) = (s4 : Int) := by omega
  have m3 : IntKind.u64.wrap (s4 : Int) = (s4 : Int) := by rw [IntKind.wrap_u64]; omega
  obtain ⟨r, hr2⟩ : ∃ y, n - 16 = y := ⟨_, rfl⟩
  have s3 : (n : Int) - 16 = (r : Int) := by omega
  have m4 : IntKind.i64.wrap (r : Int) = (r : Int) := by rw [IntKind.wrap_i64]; omega
  have m5 : IntKind.u64.wrap (r : Int) = (r : Int) := by rw [IntKind.wrap_u64]; omega
  have t2 : decide ((r : Int) < (s4 : Int)) = false := by simp; omega
  have t2' : decide (r < s4) = false := by simp; omega
  have hB0 := Below.refl w.heap.size w
  obtain ⟨zz, hzz⟩ : ∃ y, zeros (bs.drop (16 + 4 * mn + 4 * en)) = y := ⟨_, rfl⟩
  rw [hzz]
  have HZZ := Lib.hid hzz
  clear hzz
  have HLT : Hid (∀ k, leVal ((bs.drop k).take 4) < 4294967296) := Lib.hid fun k => by
    have h1 := leVal_lt ((bs.drop k).take 4) (fun y hy => hby y (List.mem_of_mem_drop (List.mem_of_mem_take hy)))
    have h2 : ((bs.drop k).take 4).length ≤ 4 := by rw [List.length_take]; exact Nat.min_le_left _ _
    exact Nat.lt_of_lt_of_le h1 (Nat.pow_le_pow_right (by decide) h2 : 256 ^ _ ≤ 256 ^ 4)
  have HLL : Hid (16 + 4 * mn + 4 * en ≤ n ∧ n ≤ 100000 ∧ n ≤ c) := Lib.hid (by omega)
  have HR := Lib.hid hr
  obtain ⟨i0, hi, hz0, hz1, hz2⟩ := info_parts info_int64
  have HI := Lib.hid (And.intro hi (And.intro hz0 (And.intro hz1 hz2)))
  clear hi hz0 hz1 hz2 hr hn h hk hc hlt l0 l1 l2 l3 e0 e1 e2 e3 hs hs4 hr2 hby hcs8
  go_enter Tryz.func17, Tryz.ntmps17
  go_wp2_with fail
  ((with_reducible refine (HN0.out _ (bel_alloc hB0 _)).mono ?_))
  rintro e y ⟨rfl, rfl⟩
  go_wp2_with fail
  ((with_reducible refine (HN1.out _ (bel_alloc hB0 _)).mono ?_))
  rintro e y ⟨rfl, rfl⟩
  go_wp2_with fail
  ((with_reducible refine (HN2.out _ (bel_alloc (bel_alloc hB0 _) _)).mono ?_))
  rintro e y ⟨rfl, rfl⟩
  go_wp2_with fail
  ((with_reducible refine (HN3.out _ (bel_alloc (bel_alloc hB0 _) _)).mono ?_))
  rintro e y ⟨rfl, rfl⟩
  clear HN0 HN1 HN2 HN3
  go_upto_region 9 with fail
  obtain ⟨W, hW⟩ : ∃ x, x = (w.alloc (.cells #[.int .i64 0, .int .i64 0, .slice none 0 0, .slice none 0 0] 39)).alloc (.cells #[.int .i64 (sq : Int), .int .i64 (ba : Int), .slice none 0 0, .slice none 0 0] 39) := ⟨_, rfl⟩
  obtain ⟨b, hb⟩ : ∃ x, x = w.heap.size := ⟨_, rfl⟩
  obtain ⟨p, hp⟩ : ∃ x, x = b + 1 := ⟨_, rfl⟩
  have hBW : Below w.heap.size w W := by rw [hW]; exact bel_alloc (bel_alloc (Below.refl _ w) _) _
  have q1 : W.heap[b]? = some (.cells #[.int .i64 0, .int .i64 0, .slice none 0 0, .slice none 0 0] 39 (0, 0)) := by
    rw [hW, hb]
    exact ((bel_alloc (Below.refl _ (w.alloc (.cells #[.int .i64 0, .int .i64 0, .slice none 0 0, .slice none 0 0] 39))) _).block _ (by simp)).trans (heap_alloc_new w _)
  have q2 : W.heap[p]? = some (.cells #[.int .i64 (sq : Int), .int .i64 (ba : Int), .slice none 0 0, .slice none 0 0] 39 (0, 0)) := by
    rw [hW, hp, hb]
    have e := heap_alloc_new (w.alloc (.cells #[.int .i64 0, .int .i64 0, .slice none 0 0, .slice none 0 0] 39)) (.cells #[.int .i64 (sq : Int), .int .i64 (ba : Int), .slice none 0 0, .slice none 0 0] 39)
    rw [show (w.alloc (.cells #[.int .i64 0, .int .i64 0, .slice none 0 0, .slice none 0 0] 39)).heap.size = w.heap.size + 1 by simp] at e
    exact e
  rw [← hW, ← hb, ← hp]
  have HBW := Lib.hid hBW
  have HBP : Hid (w.heap.size ≤ p) := Lib.hid (by omega)
  have HBB : Hid (b < p ∧ w.heap.size ≤ b) := Lib.hid (by omega)
  have HQ1 := Lib.hid q1
  have HQ2 := Lib.hid q2
  clear hW hb hp hBW q1 q2 m0 m1 m2 m3 m4 m5 s1 s2 s3 t2 t2' hB0 t1 t1'
  go_wp2_with fail
  go_loopw [7, 8] (fun av iv wr => ∃ (k : Nat) (v : Value), k ≤ mn ∧ av = .int .i64 ((16 + 4 * k : Nat) : Int) ∧ iv = .int .u64 (k : Int) ∧ OwnJ (p + 1) wr v (numsU bs 16 k) ∧ wr.heap[p]? = some (.cells #[.int .i64 (sq : Int), .int .i64 (ba : Int), v, .slice none 0 0] 39 (0, 0)) ∧ Below p W wr) (fun _ iv _ => mn - (intOf iv).toNat)
  case atStart => exact ⟨0, _, Nat.zero_le _, rfl, rfl, ownJ_nil _ _, HQ2.out, Below.refl _ _⟩
  case round =>
    clear HQ2
    obtain ⟨k, v, hk, rfl, rfl, hO, hH, hB⟩ := hrel
    obtain ⟨va, vn, vc, rfl⟩ := ownJ_slice hO
    have HO := Lib.hid hO
    have HH := Lib.hid hH
    have HB := Lib.hid hB
    clear hO hH hB
    by_cases hlt : k < mn
    · skip
      have t1 : decide ((k : Int) < (mn : Int)) = true := by simp; omega
      have t1' : decide (k < mn) = true := by simpa using hlt
      have hLL := HLL.out
      obtain ⟨q, hq⟩ : ∃ y, 16 + 4 * k = y := ⟨_, rfl⟩
      obtain ⟨x, hx⟩ : ∃ y, leVal ((bs.drop q).take 4) = y := ⟨_, rfl⟩
      have HNQ := Lib.hid fun (y : World) (hy : Below w.heap.size w y) => HN.out y q hy (by omega)
      have hxl : x < 4294967296 := by
        rw [← hx]; exact HLT.out q
      have HTK0 : Hid (numsU bs 16 (k + 1) = numsU bs 16 k ++ [x]) := Lib.hid (by rw [numsU_step, hq, hx])
      rw [hx] at HNQ
      rw [hq]
      obtain ⟨q2, hq2⟩ : ∃ y, q + 4 = y := ⟨_, rfl⟩
      have e1 : (q : Int) + 4 = (q2 : Int) := by omega
      have e2 : IntKind.i64.wrap (q2 : Int) = (q2 : Int) := by rw [IntKind.wrap_i64]; omega
      obtain ⟨k1, hk1⟩ : ∃ y, k + 1 = y := ⟨_, rfl⟩
      have e3 : (k : Int) + 1 = (k1 : Int) := by omega
      have e4 : IntKind.u64.wrap (k1 : Int) = (k1 : Int) := by rw [IntKind.wrap_u64]; omega
      have hwx : IntKind.i64.wrap (x : Int) = (x : Int) := by rw [IntKind.wrap_i64]; omega
      have HTK : Hid (valj (numsU bs 16 (k + 1)) = valj (numsU bs 16 k) ++ [.int .i64 (x : Int)] ∧ (numsU bs 16 (k + 1)).length = k + 1) := Lib.hid ⟨by
        rw [HTK0.out]; simp [valj], numsU_len _ _ _⟩
      have HTL : Hid ((numsU bs 16 k).length = k) := Lib.hid (numsU_len _ _ _)
      have z1 : wr.cell? ⟨p, 2, none⟩ = some (.slice va vn vc) := (pt_four HH.out).2.2.1
      have z1a := pt_step z1 (bel_alloc (Below.refl _ wr) (.cells #[.int .i64 (x : Int)] 2))
      have hps : p < wr.heap.size := (Array.getElem?_eq_some_iff.1 HH.out).1
      have hs1 : p + 1 ≤ wr.heap.size := hps
      have hown : (wr.alloc (.cells #[.int .i64 (x : Int)] 2)).drew.ownsRow (p + 1) 2 1 (.slice va vn vc) k (valj (numsU bs 16 k)) := by
        have := ownJ_below HO.out (bel_alloc (Below.refl _ wr) (.cells #[.int .i64 (x : Int)] 2)).drew
        unfold OwnJ at this
        rw [HTL.out] at this
        exact this
      have hkH : (wr.alloc (.cells #[.int .i64 (x : Int)] 2)).drew.heap.size = wr.heap.size + 1 := by simp
      have HK : Hid (k + 1 ≤ maxLen ∧ (k + 1) * 8 ≤ 140737488355328 ∧ (wr.alloc (.cells #[.int .i64 (x : Int)] 2)).drew.heap.size = wr.heap.size + 1 ∧ p + 1 ≤ (wr.alloc (.cells #[.int .i64 (x : Int)] 2)).drew.heap.size) := Lib.hid ⟨by unfold maxLen; clear hwx e2 e4; omega, by clear hwx e2 e4; omega, hkH, by rw [hkH]; exact Nat.le_succ_of_le hs1⟩
      have HWR : Hid (Below w.heap.size w wr) := Lib.hid (HBW.out.trans (HB.out.mono HBP.out))
      have HQ2 : Hid (16 + 4 * (k + 1) = q2 ∧ k + 1 = k1) := Lib.hid (by clear hwx e2 e4; omega)
      obtain ⟨hi, hz0, hz1, hz2⟩ := HI.out
      clear hkH hx hq hq2 hxl HTK0 hLL hk1
      go_upto_region 12 with fail
      go_region_law (first
        | (go_simp; go_at_call 33; ((with_reducible refine (HNQ.out _ ?_).mono ?_)); (· exact HWR.out.drew); (intro e y hr; obtain ⟨rfl, rfl⟩ := hr))
        | (refine step_append_lies _ (by rfl) _ _ _ (by rfl) (p + 1) 2 i0 _ 1 8 Tryz.underlying37 hi hz0 hz1 hz2 rfl (by decide) _ k _ (by rfl) hown ⟨wr.heap.size, 0, none⟩ 1 1 [.int .i64 (x : Int)] (by rfl) (by rfl) (World.news_of_block (cs := #[.int .i64 (x : Int)]) (t := 2) (fr := (0, 0)) (heap_alloc_new wr _)) (by simp [Value.oneCell']) Nat.one_pos HK.out.1 HK.out.2.1 HK.out.2.2.2 (wr.heap.size + 1) HK.out.2.2.1 ?_; intro g2 c2' w5 hown1 hgrow hat hlt3; have hb5 : Below (p + 1) wr w5 := ((Below.refl (p + 1) wr).alloc hs1 _).drew.trans ((Below.refl (p + 1) _).grown hgrow HK.out.2.2.2 (fun q hq => (hown.lt q hq).1)); have h5 : w5.heap[p]? = some (.cells #[.int .i64 (sq : Int), .int .i64 (ba : Int), .slice va vn vc, .slice none 0 0] 39 (0, 0)) := (hb5.block p (Nat.lt_succ_self p)).trans HH.out; have H5 := Lib.hid h5; have HB5 := Lib.hid hb5; have z1b := (pt_four h5).2.2.1; have zf := pt_free h5 2; clear h5 hgrow hat hb5))
      all_goals
        have hN : Hid (OwnJ (p + 1) (w5.setCell ⟨p, 2, none⟩ (.slice (some ⟨g2, 0, none⟩) (k + 1) c2')) (.slice (some ⟨g2, 0, none⟩) (k + 1) c2') (numsU bs 16 (k + 1)) ∧ (w5.setCell ⟨p, 2, none⟩ (.slice (some ⟨g2, 0, none⟩) (k + 1) c2')).heap[p]? = some (.cells #[.int .i64 (sq : Int), .int .i64 (ba : Int), .slice (some ⟨g2, 0, none⟩) (k + 1) c2', .slice none 0 0] 39 (0, 0)) ∧ Below p W (w5.setCell ⟨p, 2, none⟩ (.slice (some ⟨g2, 0, none⟩) (k + 1) c2'))) := Lib.hid ⟨by
          unfold OwnJ
          rw [HTK.out.1, HTK.out.2]
          exact ownsRow_setCell_below (a := ⟨p, 2, none⟩) hown1 (Nat.lt_succ_self p) _, by
          have := heap_setCell_same w5 p 2 _ _ (.slice (some ⟨g2, 0, none⟩) (k + 1) c2') H5.out
          simpa using this, (HB.out.trans (HB5.out.mono (Nat.le_succ p))).setCell (p := ⟨p, 2, none⟩) (Nat.le_refl p) _⟩
        clear hown hown1 hlt3 z1 z1a z1b zf hi hz0 hz1 hz2 hwx
        go_wp2_with fail
        go_roundw
        case rel => exact ⟨k + 1, _, by omega, by rw [HQ2.out.1], by rw [HQ2.out.2], hN.out.1, hN.out.2.1, hN.out.2.2⟩
        case measure => have := HQ2.out.2; simp [intOf]; omega
    · obtain rfl : mn = k := by omega
      have t1 : decide ((mn : Int) < (mn : Int)) = false := by simp
      have t1' : decide (mn < mn) = false := by simp
      have HMO := Lib.hid HO.out
      have HVS : Hid (∀ q, (Value.slice va vn vc).ownBlock = some q → q < wr.heap.size) := Lib.hid fun q hq => (HO.out.lt q hq).2
      obtain ⟨C, hC⟩ : ∃ x, x = wr.heap.size := ⟨_, rfl⟩
      rw [← hC] at HVS
      have HPC : Hid (p < C) := Lib.hid (by rw [hC]; exact (Array.getElem?_eq_some_iff.1 HH.out).1)
      have HCC : Hid (C ≤ wr.heap.size) := Lib.hid (by rw [hC]; exact Nat.le_refl _)
      clear hC HO
      go_wp2_with fail
      go_loopw [7, 9] (fun av iv wr => ∃ (k : Nat) (v : Value), k ≤ en ∧ av = .int .i64 ((16 + 4 * mn + 4 * k : Nat) : Int) ∧ iv = .int .u64 (k : Int) ∧ OwnJ C wr v (numsU bs (16 + 4 * mn) k) ∧ wr.heap[p]? = some (.cells #[.int .i64 (sq : Int), .int .i64 (ba : Int), .slice va vn vc, v] 39 (0, 0)) ∧ Below p W wr ∧ OwnJ (p + 1) wr (.slice va vn vc) (numsU bs 16 mn) ∧ C ≤ wr.heap.size) (fun _ iv _ => en - (intOf iv).toNat)
      case atStart => exact ⟨0, _, Nat.zero_le _, rfl, rfl, ownJ_nil _ _, HH.out, HB.out, HMO.out, HCC.out⟩
      case round =>
        clear hk hlt t1 t1' HH HB HCC HMO
        obtain ⟨k, v, hk, rfl, rfl, hO, hH, hB, hM, hC⟩ := hrel
        obtain ⟨fa, fn, fc, rfl⟩ := ownJ_slice hO
        have HO := Lib.hid hO
        have HH := Lib.hid hH
        have HB := Lib.hid hB
        have HM := Lib.hid hM
        have HC := Lib.hid hC
        clear hO hH hB hM hC
        by_cases hlt : k < en
        · skip
          have t1 : decide ((k : Int) < (en : Int)) = true := by simp; omega
          have t1' : decide (k < en) = true := by simpa using hlt
          have hLL := HLL.out
          obtain ⟨q, hq⟩ : ∃ y, (16 + 4 * mn) + 4 * k = y := ⟨_, rfl⟩
          obtain ⟨x, hx⟩ : ∃ y, leVal ((bs.drop q).take 4) = y := ⟨_, rfl⟩
          have HNQ := Lib.hid fun (y : World) (hy : Below w.heap.size w y) => HN.out y q hy (by omega)
          have hxl : x < 4294967296 := by
            rw [← hx]; exact HLT.out q
          have HTK0 : Hid (numsU bs (16 + 4 * mn) (k + 1) = numsU bs (16 + 4 * mn) k ++ [x]) := Lib.hid (by rw [numsU_step, hq, hx])
          rw [hx] at HNQ
          rw [hq]
          obtain ⟨q2, hq2⟩ : ∃ y, q + 4 = y := ⟨_, rfl⟩
          have e1 : (q : Int) + 4 = (q2 : Int) := by omega
          have e2 : IntKind.i64.wrap (q2 : Int) = (q2 : Int) := by rw [IntKind.wrap_i64]; omega
          obtain ⟨k1, hk1⟩ : ∃ y, k + 1 = y := ⟨_, rfl⟩
          have e3 : (k : Int) + 1 = (k1 : Int) := by omega
          have e4 : IntKind.u64.wrap (k1 : Int) = (k1 : Int) := by rw [IntKind.wrap_u64]; omega
          have hwx : IntKind.i64.wrap (x : Int) = (x : Int) := by rw [IntKind.wrap_i64]; omega
          have HTK : Hid (valj (numsU bs (16 + 4 * mn) (k + 1)) = valj (numsU bs (16 + 4 * mn) k) ++ [.int .i64 (x : Int)] ∧ (numsU bs (16 + 4 * mn) (k + 1)).length = k + 1) := Lib.hid ⟨by
            rw [HTK0.out]; simp [valj], numsU_len _ _ _⟩
          have HTL : Hid ((numsU bs (16 + 4 * mn) k).length = k) := Lib.hid (numsU_len _ _ _)
          have z1 : wr.cell? ⟨p, 3, none⟩ = some (.slice fa fn fc) := (pt_four HH.out).2.2.2
          have z1a := pt_step z1 (bel_alloc (Below.refl _ wr) (.cells #[.int .i64 (x : Int)] 2))
          have hps : p < wr.heap.size := (Array.getElem?_eq_some_iff.1 HH.out).1
          have hs1 : C ≤ wr.heap.size := HC.out
          have hown : (wr.alloc (.cells #[.int .i64 (x : Int)] 2)).drew.ownsRow (C) 2 1 (.slice fa fn fc) k (valj (numsU bs (16 + 4 * mn) k)) := by
            have := ownJ_below HO.out (bel_alloc (Below.refl _ wr) (.cells #[.int .i64 (x : Int)] 2)).drew
            unfold OwnJ at this
            rw [HTL.out] at this
            exact this
          have hkH : (wr.alloc (.cells #[.int .i64 (x : Int)] 2)).drew.heap.size = wr.heap.size + 1 := by simp
          have HK : Hid (k + 1 ≤ maxLen ∧ (k + 1) * 8 ≤ 140737488355328 ∧ (wr.alloc (.cells #[.int .i64 (x : Int)] 2)).drew.heap.size = wr.heap.size + 1 ∧ C ≤ (wr.alloc (.cells #[.int .i64 (x : Int)] 2)).drew.heap.size) := Lib.hid ⟨by unfold maxLen; clear hwx e2 e4; omega, by clear hwx e2 e4; omega, hkH, by rw [hkH]; exact Nat.le_succ_of_le hs1⟩
          have HMA : Hid (OwnJ (p + 1) (wr.alloc (.cells #[.int .i64 (x : Int)] 2)).drew (.slice va vn vc) (numsU bs 16 mn)) := Lib.hid (ownJ_below HM.out (bel_alloc (Below.refl _ wr) (.cells #[.int .i64 (x : Int)] 2)).drew)
          have HWR : Hid (Below w.heap.size w wr) := Lib.hid (HBW.out.trans (HB.out.mono HBP.out))
          have HQ2 : Hid ((16 + 4 * mn) + 4 * (k + 1) = q2 ∧ k + 1 = k1) := Lib.hid (by clear hwx e2 e4; omega)
          obtain ⟨hi, hz0, hz1, hz2⟩ := HI.out
          clear hkH hx hq hq2 hxl HTK0 hLL hk1
          go_upto_region 17 with fail
          go_region_law (first
            | (go_simp; go_at_call 33; ((with_reducible refine (HNQ.out _ ?_).mono ?_)); (· exact HWR.out.drew); (intro e y hr; obtain ⟨rfl, rfl⟩ := hr))
            | (refine step_append_lies _ (by rfl) _ _ _ (by rfl) (C) 2 i0 _ 1 8 Tryz.underlying37 hi hz0 hz1 hz2 rfl (by decide) _ k _ (by rfl) hown ⟨wr.heap.size, 0, none⟩ 1 1 [.int .i64 (x : Int)] (by rfl) (by rfl) (World.news_of_block (cs := #[.int .i64 (x : Int)]) (t := 2) (fr := (0, 0)) (heap_alloc_new wr _)) (by simp [Value.oneCell']) Nat.one_pos HK.out.1 HK.out.2.1 HK.out.2.2.2 (wr.heap.size + 1) HK.out.2.2.1 ?_; intro g2 c2' w5 hown1 hgrow hat hlt3; have HM5 : Hid (OwnJ (p + 1) w5 (.slice va vn vc) (numsU bs 16 mn)) := Lib.hid (HMA.out.kept hgrow (pt_apart HVS.out fun q hq => (hown.lt q hq).1)); have hb5 : Below (C) wr w5 := ((Below.refl (C) wr).alloc hs1 _).drew.trans ((Below.refl (C) _).grown hgrow HK.out.2.2.2 (fun q hq => (hown.lt q hq).1)); have h5 : w5.heap[p]? = some (.cells #[.int .i64 (sq : Int), .int .i64 (ba : Int), .slice va vn vc, .slice fa fn fc] 39 (0, 0)) := (hb5.block p (HPC.out)).trans HH.out; have H5 := Lib.hid h5; have HB5 := Lib.hid hb5; have z1b := (pt_four h5).2.2.2; have zf := pt_free h5 3; clear h5 hgrow hat hb5))
          all_goals
            have hN : Hid (OwnJ (C) (w5.setCell ⟨p, 3, none⟩ (.slice (some ⟨g2, 0, none⟩) (k + 1) c2')) (.slice (some ⟨g2, 0, none⟩) (k + 1) c2') (numsU bs (16 + 4 * mn) (k + 1)) ∧ (w5.setCell ⟨p, 3, none⟩ (.slice (some ⟨g2, 0, none⟩) (k + 1) c2')).heap[p]? = some (.cells #[.int .i64 (sq : Int), .int .i64 (ba : Int), .slice va vn vc, .slice (some ⟨g2, 0, none⟩) (k + 1) c2'] 39 (0, 0)) ∧ Below p W (w5.setCell ⟨p, 3, none⟩ (.slice (some ⟨g2, 0, none⟩) (k + 1) c2')) ∧ OwnJ (p + 1) (w5.setCell ⟨p, 3, none⟩ (.slice (some ⟨g2, 0, none⟩) (k + 1) c2')) (.slice va vn vc) (numsU bs 16 mn) ∧ C ≤ (w5.setCell ⟨p, 3, none⟩ (.slice (some ⟨g2, 0, none⟩) (k + 1) c2')).heap.size) := Lib.hid ⟨by
              unfold OwnJ
              rw [HTK.out.1, HTK.out.2]
              exact ownsRow_setCell_below (a := ⟨p, 3, none⟩) hown1 (HPC.out) _, by
              have := heap_setCell_same w5 p 3 _ _ (.slice (some ⟨g2, 0, none⟩) (k + 1) c2') H5.out
              simpa using this, (HB.out.trans (HB5.out.mono (Nat.le_of_lt HPC.out))).setCell (p := ⟨p, 3, none⟩) (Nat.le_refl p) _, ownsRow_setCell_below (a := ⟨p, 3, none⟩) HM5.out (Nat.lt_succ_self p) _, Nat.le_trans HC.out (by have := HB5.out.size; simpa [World.setCell] using this)⟩
            clear hown hown1 hlt3 z1 z1a z1b zf hi hz0 hz1 hz2 hwx
            go_wp2_with fail
            go_roundw
            case rel => exact ⟨k + 1, _, by omega, by rw [HQ2.out.1], by rw [HQ2.out.2], hN.out.1, hN.out.2.1, hN.out.2.2.1, hN.out.2.2.2.1, hN.out.2.2.2.2⟩
            case measure => have := HQ2.out.2; simp [intOf]; omega
        · obtain rfl : en = k := by omega
          have t1 : decide ((en : Int) < (en : Int)) = false := by simp
          have t1' : decide (en < en) = false := by simp
          have hLL := HLL.out
          obtain ⟨q, hq⟩ : ∃ y, 16 + 4 * mn + 4 * en = y := ⟨_, rfl⟩
          have g1 : (q : Int) ≤ (n : Int) := by omega
          have g2 : q ≤ n := by omega
          have hbw : Below w.heap.size w wr := HBW.out.trans (HB.out.mono HBP.out)
          have hrw := row_keep HR.out hbw (Nat.le_refl _)
          have hz2 : zeros (bs.drop q) = zz := by rw [← hq]; exact HZZ.out
          have HZ1 : Hid (c = q → Calls Tryz.prog 34 #[.slice (some ⟨b8, off, none⟩) (n - q) 0] wr fun e w' => e = .returned (.bool zz) ∧ Below wr.heap.size wr w') := Lib.hid fun hc0 => by
            rw [← hz2]
            have h1 : n - q = 0 := by omega
            have h2 : bs.drop q = [] := List.drop_of_length_le (by rw [hrw.1]; omega)
            rw [h2]
            have h3 := rowR_front hrw 0 (by omega)
            rw [List.take_zero] at h3
            rw [h1]
            exact refIsZero_any (c := 0) h3 (by omega)
          have HZ2 : Hid (Calls Tryz.prog 34 #[.slice (some ⟨b8, off + q, none⟩) (n - q) (c - q)] wr fun e w' => e = .returned (.bool zz) ∧ Below wr.heap.size wr w') := Lib.hid (by
            rw [← hz2]
            exact refIsZero_any (c := c - q) (rowR_suffix hrw q (by omega)) (by omega))
          have HW := Lib.hid hbw
          have HQB : Hid (wr.heap[b]? = some (.cells #[.int .i64 0, .int .i64 0, .slice none 0 0, .slice none 0 0] 39 (0, 0)) ∧ b < wr.heap.size ∧ p < wr.heap.size) := Lib.hid ⟨(HB.out.block b HBB.out.1).trans HQ1.out, by have := HBB.out; have := (Array.getElem?_eq_some_iff.1 HH.out).1; omega, (Array.getElem?_eq_some_iff.1 HH.out).1⟩
          rw [hq]
          have g3 : (q : Int) ≤ (c : Int) := by omega
          have g4 : q ≤ c := by omega
          clear hLL hq hbw hrw HR HN HI hz2
          by_cases hcq : c = q
          · skip
            go_wp2_with fail
            ((with_reducible refine (HZ1.out hcq).mono ?_))
            rintro e y ⟨rfl, hb⟩
            obtain ⟨d0, d1, d2, d3⟩ := pt_four ((hb.block p HQB.out.2.2).trans HH.out)
            have qb := (hb.block b HQB.out.2.1).trans HQB.out.1
            obtain ⟨y0, y1, y2, y3⟩ := pt_four qb
            have yf := pt_free qb
            have f0 := yf 0
            have f1 := yf 1
            have f2 := yf 2
            have f3 := yf 3
            have HQ := Lib.hid qb
            have hb0 : b < p + 1 := Nat.lt_succ_of_lt HBB.out.1
            have hbC : b < C := Nat.lt_trans HBB.out.1 HPC.out
            have hbw : w.heap.size ≤ b := HBB.out.2
            have HMY := Lib.hid (ownJ_below HM.out hb)
            have HEY := Lib.hid (ownJ_below HO.out hb)
            have HWY : Hid (Below w.heap.size w y) := Lib.hid (bel_trans HW.out hb)
            clear yf qb hb
            cases zz with
            | false =>
              go_wp2_with fail
              exact bodyPost_ret (v := ptNoneR) (by simp [ptNoneR, results, Tryz.results17, go_sem, y0, y1, y2, y3]) rfl (refGot_no (pt4_set HWY.out hbw _ _ _ _))
            | true =>
              go_wp2_with fail
              obtain ⟨r0, r1, r2, r3⟩ := pt_four (pt_put4 HQ.out (.int .i64 (sq : Int)) (.int .i64 (ba : Int)) (.slice va vn vc) (.slice fa fn fc))
              have hMZ : OwnJ (p + 1) ((((y.setCell ⟨b, 0, none⟩ (.int .i64 (sq : Int))).setCell ⟨b, 1, none⟩ (.int .i64 (ba : Int))).setCell ⟨b, 2, none⟩ (.slice va vn vc)).setCell ⟨b, 3, none⟩ (.slice fa fn fc)) (.slice va vn vc) (numsU bs 16 mn) := ownsRow_setCell_below (a := ⟨b, 3, none⟩) (ownsRow_setCell_below (a := ⟨b, 2, none⟩) (ownsRow_setCell_below (a := ⟨b, 1, none⟩) (ownsRow_setCell_below (a := ⟨b, 0, none⟩) HMY.out hb0 _) hb0 _) hb0 _) hb0 _
              have hEZ : OwnJ C ((((y.setCell ⟨b, 0, none⟩ (.int .i64 (sq : Int))).setCell ⟨b, 1, none⟩ (.int .i64 (ba : Int))).setCell ⟨b, 2, none⟩ (.slice va vn vc)).setCell ⟨b, 3, none⟩ (.slice fa fn fc)) (.slice fa fn fc) (numsU bs (16 + 4 * mn) en) := ownsRow_setCell_below (a := ⟨b, 3, none⟩) (ownsRow_setCell_below (a := ⟨b, 2, none⟩) (ownsRow_setCell_below (a := ⟨b, 1, none⟩) (ownsRow_setCell_below (a := ⟨b, 0, none⟩) HEY.out hbC _) hbC _) hbC _) hbC _
              refine bodyPost_ret (v := .tuple #[.agg #[.int .i64 (sq : Int), .int .i64 (ba : Int), .slice va vn vc, .slice fa fn fc], .int .i64 0]) ?_ rfl (refGot_yes (pt4_set HWY.out hbw _ _ _ _) hMZ (by have := HBB.out; omega) hEZ (by have := HBB.out; have := HPC.out; omega))
              simp [results, Tryz.results17, go_sem, r0, r1, r2, r3]
          · skip
            go_wp2_with fail
            ((with_reducible refine HZ2.out.mono ?_))
            rintro e y ⟨rfl, hb⟩
            obtain ⟨d0, d1, d2, d3⟩ := pt_four ((hb.block p HQB.out.2.2).trans HH.out)
            have qb := (hb.block b HQB.out.2.1).trans HQB.out.1
            obtain ⟨y0, y1, y2, y3⟩ := pt_four qb
            have yf := pt_free qb
            have f0 := yf 0
            have f1 := yf 1
            have f2 := yf 2
            have f3 := yf 3
            have HQ := Lib.hid qb
            have hb0 : b < p + 1 := Nat.lt_succ_of_lt HBB.out.1
            have hbC : b < C := Nat.lt_trans HBB.out.1 HPC.out
            have hbw : w.heap.size ≤ b := HBB.out.2
            have HMY := Lib.hid (ownJ_below HM.out hb)
            have HEY := Lib.hid (ownJ_below HO.out hb)
            have HWY : Hid (Below w.heap.size w y) := Lib.hid (bel_trans HW.out hb)
            clear yf qb hb
            cases zz with
            | false =>
              go_wp2_with fail
              exact bodyPost_ret (v := ptNoneR) (by simp [ptNoneR, results, Tryz.results17, go_sem, y0, y1, y2, y3]) rfl (refGot_no (pt4_set HWY.out hbw _ _ _ _))
            | true =>
              go_wp2_with fail
              obtain ⟨r0, r1, r2, r3⟩ := pt_four (pt_put4 HQ.out (.int .i64 (sq : Int)) (.int .i64 (ba : Int)) (.slice va vn vc) (.slice fa fn fc))
              have hMZ : OwnJ (p + 1) ((((y.setCell ⟨b, 0, none⟩ (.int .i64 (sq : Int))).setCell ⟨b, 1, none⟩ (.int .i64 (ba : Int))).setCell ⟨b, 2, none⟩ (.slice va vn vc)).setCell ⟨b, 3, none⟩ (.slice fa fn fc)) (.slice va vn vc) (numsU bs 16 mn) := ownsRow_setCell_below (a := ⟨b, 3, none⟩) (ownsRow_setCell_below (a := ⟨b, 2, none⟩) (ownsRow_setCell_below (a := ⟨b, 1, none⟩) (ownsRow_setCell_below (a := ⟨b, 0, none⟩) HMY.out hb0 _) hb0 _) hb0 _) hb0 _
              have hEZ : OwnJ C ((((y.setCell ⟨b, 0, none⟩ (.int .i64 (sq : Int))).setCell ⟨b, 1, none⟩ (.int .i64 (ba : Int))).setCell ⟨b, 2, none⟩ (.slice va vn vc)).setCell ⟨b, 3, none⟩ (.slice fa fn fc)) (.slice fa fn fc) (numsU bs (16 + 4 * mn) en) := ownsRow_setCell_below (a := ⟨b, 3, none⟩) (ownsRow_setCell_below (a := ⟨b, 2, none⟩) (ownsRow_setCell_below (a := ⟨b, 1, none⟩) (ownsRow_setCell_below (a := ⟨b, 0, none⟩) HEY.out hbC _) hbC _) hbC _) hbC _
              refine bodyPost_ret (v := .tuple #[.agg #[.int .i64 (sq : Int), .int .i64 (ba : Int), .slice va vn vc, .slice fa fn fc], .int .i64 0]) ?_ rfl (refGot_yes (pt4_set HWY.out hbw _ _ _ _) hMZ (by have := HBB.out; omega) hEZ (by have := HBB.out; have := HPC.out; omega))
              simp [results, Tryz.results17, go_sem, r0, r1, r2, r3]
end Go.Proofs.YthgcjiocelcblaaGreat
