/- wear: first, spread, Victim, Next, Count. -/
import Derived.Test.YtjimgbeockfpmaaWear
namespace Go.Proofs.Ytjimgbeockfpmaa
open Go.RowKit

/-- Which one of a kind is the first: r of the first n; none: -1. -/
def FirstIs (O : SegV → SegV → Int) (K : Int) (G : List SegV) (n : Nat) (r : Int) : Prop :=
  (r = -1 ∧ ∀ j, j < n → (G.getD j SegV.nil).k ≠ K) ∨ ∃ m : Nat, m < n ∧ r = (m : Int) ∧ (G.getD m SegV.nil).k = K ∧ ∀ j, j < n → (G.getD j SegV.nil).k = K → ¬ O (G.getD j SegV.nil) (G.getD m SegV.nil) < 0 ∧ (j < m → O (G.getD m SegV.nil) (G.getD j SegV.nil) < 0)
structure GoodOrd (O : SegV → SegV → Int) : Prop where
  irr : ∀ a, ¬ O a a < 0
  tr : ∀ a b c, O a b < 0 → ¬ O c b < 0 → O a c < 0 ∧ ¬ O c a < 0
theorem cmpI_lt (x y : Int) : cmpI x y < 0 ↔ x < y := by
  unfold cmpI
  split
  · simp; omega
  · split <;> simp <;> omega
theorem cmpI_zero (x y : Int) : cmpI x y = 0 ↔ x = y := by
  unfold cmpI
  split
  · simp; omega
  · split <;> simp <;> omega
theorem ordE_lt (a b : SegV) : ordE a b < 0 ↔ a.e < b.e ∨ (a.e = b.e ∧ a.l < b.l) := by
  unfold ordE or2
  by_cases h : cmpI (a.e : Int) (b.e : Int) = 0
  · rw [if_pos h, cmpI_lt]
    rw [cmpI_zero] at h
    omega
  · rw [if_neg h, cmpI_lt]
    rw [cmpI_zero] at h
    omega
theorem ordV_lt (a b : SegV) : ordV a b < 0 ↔ a.l < b.l ∨ (a.l = b.l ∧ a.e < b.e) := by
  unfold ordV or2
  by_cases h : cmpI a.l b.l = 0
  · rw [if_pos h, cmpI_lt]
    rw [cmpI_zero] at h
    omega
  · rw [if_neg h, cmpI_lt]
    rw [cmpI_zero] at h
    omega
theorem ordN_lt (a b : SegV) : ordN a b < 0 ↔ a.e < b.e := by
  unfold ordN
  rw [cmpI_lt]
  omega
theorem goodE : GoodOrd ordE := ⟨fun a => by rw [ordE_lt]; omega, fun a b c => by rw [ordE_lt, ordE_lt, ordE_lt, ordE_lt]; omega⟩
theorem goodV : GoodOrd ordV := ⟨fun a => by rw [ordV_lt]; omega, fun a b c => by rw [ordV_lt, ordV_lt, ordV_lt, ordV_lt]; omega⟩
theorem goodN : GoodOrd ordN := ⟨fun a => by rw [ordN_lt]; omega, fun a b c => by rw [ordN_lt, ordN_lt, ordN_lt, ordN_lt]; omega⟩
section
variable {O : SegV → SegV → Int} {K : Int} {G : List SegV} {k : Nat} {r : Int}
theorem first_zero : FirstIs O K G 0 (-1) := .inl ⟨rfl, fun _ h => by omega⟩
theorem first_skip (h : FirstIs O K G k r) (hk : (G.getD k SegV.nil).k ≠ K) : FirstIs O K G (k + 1) r := by
  rcases h with ⟨h1, h2⟩ | ⟨m, h1, h2, h3, h4⟩
  · refine .inl ⟨h1, fun j hj => ?_⟩
    rcases Nat.lt_or_ge j k with q | q
    · exact h2 j q
    · obtain rfl : j = k := by omega
      exact hk
  · refine .inr ⟨m, by omega, h2, h3, fun j hj hjk => ?_⟩
    rcases Nat.lt_or_ge j k with q | q
    · exact h4 j q hjk
    · obtain rfl : j = k := by omega
      exact absurd hjk hk
theorem first_one (ho : GoodOrd O) (h : FirstIs O K G k (-1)) (hk : (G.getD k SegV.nil).k = K) : FirstIs O K G (k + 1) (k : Int) := by
  rcases h with ⟨_, h2⟩ | ⟨m, _, h2, _, _⟩
  · refine .inr ⟨k, by omega, rfl, hk, fun j hj hjk => ?_⟩
    rcases Nat.lt_or_ge j k with q | q
    · exact absurd hjk (h2 j q)
    · obtain rfl : j = k := by omega
      exact ⟨ho.irr _, fun q => by omega⟩
  · omega
theorem first_new (ho : GoodOrd O) {m : Nat} (h : FirstIs O K G k (m : Int)) (hk : (G.getD k SegV.nil).k = K) (hl : O (G.getD k SegV.nil) (G.getD m SegV.nil) < 0) : FirstIs O K G (k + 1) (k : Int) := by
  rcases h with ⟨h1, _⟩ | ⟨m', h1, h2, h3, h4⟩
  · omega
  · obtain rfl : m = m' := by omega
    refine .inr ⟨k, by omega, rfl, hk, fun j hj hjk => ?_⟩
    rcases Nat.lt_or_ge j k with q | q
    · have h5 := ho.tr _ _ _ hl (h4 j q hjk).1
      exact ⟨h5.2, fun _ => h5.1⟩
    · obtain rfl : j = k := by omega
      exact ⟨ho.irr _, fun q => by omega⟩
theorem first_old {m : Nat} (h : FirstIs O K G k (m : Int)) (hl : ¬ O (G.getD k SegV.nil) (G.getD m SegV.nil) < 0) : FirstIs O K G (k + 1) (m : Int) := by
  rcases h with ⟨h1, _⟩ | ⟨m', h1, h2, h3, h4⟩
  · omega
  · obtain rfl : m = m' := by omega
    refine .inr ⟨m, by omega, rfl, h3, fun j hj hjk => ?_⟩
    rcases Nat.lt_or_ge j k with q | q
    · exact h4 j q hjk
    · obtain rfl : j = k := by omega
      exact ⟨hl, fun q => by omega⟩
theorem first_lt (h : FirstIs O K G k r) (hr : r ≠ -1) : ∃ m : Nat, r = (m : Int) ∧ m < k := by
  rcases h with ⟨h1, _⟩ | ⟨m, h1, h2, _, _⟩
  · exact absurd h1 hr
  · exact ⟨m, h2, h1⟩
theorem first_same {r' : Int} (h : FirstIs O K G k r) (h' : FirstIs O K G k r') : r = r' := by
  rcases h with ⟨h1, h2⟩ | ⟨m, h1, h2, h3, h4⟩
  · rcases h' with ⟨g1, _⟩ | ⟨m', g1, _, g3, _⟩
    · omega
    · exact absurd g3 (h2 m' g1)
  · rcases h' with ⟨_, g2⟩ | ⟨m', g1, g2, g3, g4⟩
    · exact absurd h3 (g2 m h1)
    · rcases Nat.lt_trichotomy m m' with q | q | q
      · exact absurd ((g4 m h1 h3).2 q) (h4 m' g1 g3).1
      · omega
      · exact absurd ((h4 m' g1 g3).2 q) (g4 m h1 h3).1
end
theorem rowG_at {w : World} {a : Option Addr} {len k : Nat} {G : List SegV} (h : RowG w a len G) (hk : k < len) :
    ∃ b off, a = some ⟨b, off, none⟩ ∧ b < w.heap.size ∧ (∀ i, i < len → w.cell? ⟨b, off + i * 3, none⟩ = some (.int .i64 (G.getD i SegV.nil).k) ∧ w.cell? ⟨b, off + i * 3 + 1, none⟩ = some (.int .i64 (G.getD i SegV.nil).l) ∧ w.cell? ⟨b, off + i * 3 + 2, none⟩ = some (.int .u32 ((G.getD i SegV.nil).e : Int))) := by
  obtain ⟨b, off, e, hc⟩ := h.2.2 (by omega)
  exact ⟨b, off, e, World.block_lt_of_cell? w _ (hc 0 (by omega)).1, hc⟩
theorem heap_new_w (w : World) (cs : Array Value) (t : TypeId) (o : Nat) : (w.alloc (.cells cs t)).cell? ⟨w.heap.size, o, none⟩ = cs[o]? := World.cell?_alloc_mark w cs t (0, 0) o
set_option maxHeartbeats 1000000 in
theorem firstE_any (a : Option Addr) (len cap : Nat) (G : List SegV) (K : Int) (w : World) (hr : RowG w a len G) (hlc : len ≤ cap) (hcm : cap ≤ maxLen) :
    Calls Try.prog 17 #[.slice a len cap, .int .i64 K, .func (.func 18) #[] #[]] w fun e w' => ∃ r, e = .returned (.int .i64 r) ∧ FirstIs ordE K G len r ∧ Below w.heap.size w w' := by
  have HR := Lib.hid hr
  clear hr
  unfold maxLen at hcm
  go_enter Try.func17, Try.ntmps17
  go_wp2_with fail
  go_loopw [12, 7] (fun i t wr => ∃ (k : Nat) (r : Int), k ≤ len ∧ i = .int .i64 (k : Int) ∧ t = .int .i64 r ∧ FirstIs ordE K G k r ∧ Below w.heap.size w wr) (fun i _ _ => len - (intOf i).toNat)
  case atStart => exact ⟨0, -1, Nat.zero_le _, rfl, rfl, first_zero, Below.refl _ _⟩
  case round =>
    obtain ⟨k, r, hk, rfl, rfl, hf, hB⟩ := hrel
    have HF := Lib.hid hf
    have HB := Lib.hid hB
    clear hf hB
    by_cases hlt : k < len
    · have t1 : decide (k < len) = true := by simpa using hlt
      have hr1 := HR.out.step HB.out
      obtain ⟨b, off, rfl, hbs, hc⟩ := rowG_at hr1 hlt
      have HC := Lib.hid hc
      obtain ⟨c0, c1, c2⟩ := hc k hlt
      clear hr1 hc
      obtain ⟨g, hg⟩ : ∃ g, g = G.getD k SegV.nil := ⟨_, rfl⟩
      rw [← hg] at c0 c1 c2
      have HG := Lib.hid hg
      clear hg
      have hk0 : (0 : Int) ≤ (k : Int) := by omega
      go_upto_region 5 with fail
      obtain ⟨w2, hw2⟩ : ∃ x, x = wr.alloc (.cells #[.int .i64 g.k, .int .i64 g.l, .int .u32 (g.e : Int)] 33) := ⟨_, rfl⟩
      have HB2 : Hid (Below wr.heap.size wr w2) := Lib.hid (by rw [hw2]; exact wbel_alloc (Below.refl _ _) _)
      have hs2 : wr.heap.size < w2.heap.size := by rw [hw2]; simp
      have d0 : w2.cell? ⟨wr.heap.size, 0, none⟩ = some (.int .i64 g.k) := by rw [hw2, heap_new_w]; rfl
      have d1 : w2.cell? ⟨wr.heap.size, 1, none⟩ = some (.int .i64 g.l) := by rw [hw2, heap_new_w]; rfl
      have d2 : w2.cell? ⟨wr.heap.size, 2, none⟩ = some (.int .u32 (g.e : Int)) := by rw [hw2, heap_new_w]; rfl
      rw [← hw2]
      clear hw2 c0 c1 c2
      obtain ⟨fb, hfb⟩ : ∃ x, x = wr.heap.size := ⟨_, rfl⟩
      rw [← hfb] at d0 d1 d2 hs2
      rw [← hfb]
      have HFB := Lib.hid hfb
      clear hfb
      obtain ⟨S, hSd⟩ : ∃ S : World → Prop, (∀ x, S x → Below w2.heap.size w2 x) ∧ (∀ x, Below w2.heap.size w2 x → S x) := ⟨_, fun _ h => h, fun _ h => h⟩
      have hS0 : S w2.drew := hSd.2 _ (Below.refl _ _).drew
      haveI hne : Nonempty (Wd S) := ⟨⟨_, hS0⟩⟩
      have HS := Lib.hid hSd
      clear hSd
      have f0 : ∀ y : Wd S, y.w.cell? ⟨fb, 0, none⟩ = some (.int .i64 g.k) := fun y => wcell_step d0 (HS.out.1 _ y.ok)
      have f1 : ∀ y : Wd S, y.w.cell? ⟨fb, 1, none⟩ = some (.int .i64 g.l) := fun y => wcell_step d1 (HS.out.1 _ y.ok)
      have f2 : ∀ y : Wd S, y.w.cell? ⟨fb, 2, none⟩ = some (.int .u32 (g.e : Int)) := fun y => wcell_step d2 (HS.out.1 _ y.ok)
      have HW : Hid (∀ y : Wd S, Below w.heap.size w y.w) := Lib.hid fun y => wbel_trans (wbel_trans HB.out HB2.out) (HS.out.1 _ y.ok)
      clear d0 d1 d2
      by_cases hK : g.k = K
      · have t2 : (g.k == K) = true := by simpa using hK
        by_cases hr1 : r = -1
        · subst hr1
          have hR := Lib.hid (first_one goodE HF.out (by rw [← HG.out]; exact hK))
          refine wp_region_wd S (by kernel_rfl) (by kernel_rfl) hS0 ?_
          repeat (go_big_quiet_step (fail))
          refine wpQuiet_nil ?_
          intro _ hw'
          obtain ⟨y, rfl⟩ := hw'
          go_wp2_with fail
          go_roundw
          case rel => exact ⟨k + 1, (k : Int), by omega, by go_num, rfl, hR.out, HW.out y⟩
          case measure => simp [intOf]; omega
        · obtain ⟨m, rfl, hm⟩ := first_lt HF.out hr1
          have t3 : ((m : Int) == -1) = false := by simp
          obtain ⟨h, hh⟩ : ∃ h, h = G.getD m SegV.nil := ⟨_, rfl⟩
          have HH := Lib.hid hh
          have e0 : ∀ y : Wd S, y.w.cell? ⟨b, off + m * 3, none⟩ = some (.int .i64 h.k) := fun y => by rw [HH.out]; exact wcell_step (wcell_step (HC.out m (by omega)).1 HB2.out) (HS.out.1 _ y.ok)
          have e1 : ∀ y : Wd S, y.w.cell? ⟨b, off + m * 3 + 1, none⟩ = some (.int .i64 h.l) := fun y => by rw [HH.out]; exact wcell_step (wcell_step (HC.out m (by omega)).2.1 HB2.out) (HS.out.1 _ y.ok)
          have e2 : ∀ y : Wd S, y.w.cell? ⟨b, off + m * 3 + 2, none⟩ = some (.int .u32 (h.e : Int)) := fun y => by rw [HH.out]; exact wcell_step (wcell_step (HC.out m (by omega)).2.2 HB2.out) (HS.out.1 _ y.ok)
          have HCA : Hid (∀ y : Wd S, Calls Try.prog 18 #[.agg #[.int .i64 g.k, .int .i64 g.l, .int .u32 (g.e : Int)], .agg #[.int .i64 h.k, .int .i64 h.l, .int .u32 (h.e : Int)]] y.w fun e w' => e = .returned (.int .i64 (ordE g h)) ∧ Below y.w.heap.size y.w w') := Lib.hid fun y => ordE_any g h y.w
          have HST : Hid (∀ (y : Wd S) (z : World), Below y.w.heap.size y.w z → S z) := Lib.hid fun y z hb => HS.out.2 _ (wbel_trans (HS.out.1 _ y.ok) hb)
          have hm0 : (0 : Int) ≤ (m : Int) := by omega
          have hml : (m : Int) < (len : Int) := by omega
          clear hh hr1 hK
          by_cases hO : ordE g h < 0
          · have hR := Lib.hid (first_new goodE HF.out (by rw [← HG.out]; simpa using t2) (by rw [← HG.out, ← HH.out]; exact hO))
            have t4 : decide (ordE g h < 0) = true := by simpa using hO
            clear hO
            refine wp_region_wd S (by kernel_rfl) (by kernel_rfl) hS0 ?_
            repeat (go_big_quiet_step (first
              | (go_at_call 18; with_reducible exact Calls.wd (HST.out _) (HCA.out _))))
            refine wpQuiet_nil ?_
            intro _ hw'
            obtain ⟨y, rfl⟩ := hw'
            go_wp2_with fail
            go_roundw
            case rel => exact ⟨k + 1, (k : Int), by omega, by go_num, rfl, hR.out, HW.out y⟩
            case measure => simp [intOf]; omega
          · have hR := Lib.hid (first_old HF.out (by rw [← HG.out, ← HH.out]; exact hO))
            have t4 : decide (ordE g h < 0) = false := by simpa using hO
            clear hO
            refine wp_region_wd S (by kernel_rfl) (by kernel_rfl) hS0 ?_
            repeat (go_big_quiet_step (first
              | (go_at_call 18; with_reducible exact Calls.wd (HST.out _) (HCA.out _))))
            refine wpQuiet_nil ?_
            intro _ hw'
            obtain ⟨y, rfl⟩ := hw'
            go_wp2_with fail
            go_roundw
            case rel => exact ⟨k + 1, (m : Int), by omega, by go_num, rfl, hR.out, HW.out y⟩
            case measure => simp [intOf]; omega
      · have t2 : (g.k == K) = false := by simpa using hK
        have hR := Lib.hid (first_skip (k := k) HF.out (by rw [← HG.out]; exact hK))
        refine wp_region_wd S (by kernel_rfl) (by kernel_rfl) hS0 ?_
        repeat (go_big_quiet_step (fail))
        refine wpQuiet_nil ?_
        intro _ hw'
        obtain ⟨y, rfl⟩ := hw'
        go_wp2_with fail
        go_roundw
        case rel => exact ⟨k + 1, r, by omega, by go_num, rfl, hR.out, HW.out y⟩
        case measure => simp [intOf]; omega
    · obtain rfl : k = len := by omega
      have t1 : decide (k < k) = false := by simp
      go_wp2
      go_ret
      exact ⟨r, rfl, HF.out, HB.out⟩
set_option maxHeartbeats 1000000 in
theorem firstV_any (a : Option Addr) (len cap : Nat) (G : List SegV) (K : Int) (w : World) (hr : RowG w a len G) (hlc : len ≤ cap) (hcm : cap ≤ maxLen) :
    Calls Try.prog 17 #[.slice a len cap, .int .i64 K, .func (.func 19) #[] #[]] w fun e w' => ∃ r, e = .returned (.int .i64 r) ∧ FirstIs ordV K G len r ∧ Below w.heap.size w w' := by
  have HR := Lib.hid hr
  clear hr
  unfold maxLen at hcm
  go_enter Try.func17, Try.ntmps17
  go_wp2_with fail
  go_loopw [12, 7] (fun i t wr => ∃ (k : Nat) (r : Int), k ≤ len ∧ i = .int .i64 (k : Int) ∧ t = .int .i64 r ∧ FirstIs ordV K G k r ∧ Below w.heap.size w wr) (fun i _ _ => len - (intOf i).toNat)
  case atStart => exact ⟨0, -1, Nat.zero_le _, rfl, rfl, first_zero, Below.refl _ _⟩
  case round =>
    obtain ⟨k, r, hk, rfl, rfl, hf, hB⟩ := hrel
    have HF := Lib.hid hf
    have HB := Lib.hid hB
    clear hf hB
    by_cases hlt : k < len
    · have t1 : decide (k < len) = true := by simpa using hlt
      have hr1 := HR.out.step HB.out
      obtain ⟨b, off, rfl, hbs, hc⟩ := rowG_at hr1 hlt
      have HC := Lib.hid hc
      obtain ⟨c0, c1, c2⟩ := hc k hlt
      clear hr1 hc
      obtain ⟨g, hg⟩ : ∃ g, g = G.getD k SegV.nil := ⟨_, rfl⟩
      rw [← hg] at c0 c1 c2
      have HG := Lib.hid hg
      clear hg
      have hk0 : (0 : Int) ≤ (k : Int) := by omega
      go_upto_region 5 with fail
      obtain ⟨w2, hw2⟩ : ∃ x, x = wr.alloc (.cells #[.int .i64 g.k, .int .i64 g.l, .int .u32 (g.e : Int)] 33) := ⟨_, rfl⟩
      have HB2 : Hid (Below wr.heap.size wr w2) := Lib.hid (by rw [hw2]; exact wbel_alloc (Below.refl _ _) _)
      have hs2 : wr.heap.size < w2.heap.size := by rw [hw2]; simp
      have d0 : w2.cell? ⟨wr.heap.size, 0, none⟩ = some (.int .i64 g.k) := by rw [hw2, heap_new_w]; rfl
      have d1 : w2.cell? ⟨wr.heap.size, 1, none⟩ = some (.int .i64 g.l) := by rw [hw2, heap_new_w]; rfl
      have d2 : w2.cell? ⟨wr.heap.size, 2, none⟩ = some (.int .u32 (g.e : Int)) := by rw [hw2, heap_new_w]; rfl
      rw [← hw2]
      clear hw2 c0 c1 c2
      obtain ⟨fb, hfb⟩ : ∃ x, x = wr.heap.size := ⟨_, rfl⟩
      rw [← hfb] at d0 d1 d2 hs2
      rw [← hfb]
      have HFB := Lib.hid hfb
      clear hfb
      obtain ⟨S, hSd⟩ : ∃ S : World → Prop, (∀ x, S x → Below w2.heap.size w2 x) ∧ (∀ x, Below w2.heap.size w2 x → S x) := ⟨_, fun _ h => h, fun _ h => h⟩
      have hS0 : S w2.drew := hSd.2 _ (Below.refl _ _).drew
      haveI hne : Nonempty (Wd S) := ⟨⟨_, hS0⟩⟩
      have HS := Lib.hid hSd
      clear hSd
      have f0 : ∀ y : Wd S, y.w.cell? ⟨fb, 0, none⟩ = some (.int .i64 g.k) := fun y => wcell_step d0 (HS.out.1 _ y.ok)
      have f1 : ∀ y : Wd S, y.w.cell? ⟨fb, 1, none⟩ = some (.int .i64 g.l) := fun y => wcell_step d1 (HS.out.1 _ y.ok)
      have f2 : ∀ y : Wd S, y.w.cell? ⟨fb, 2, none⟩ = some (.int .u32 (g.e : Int)) := fun y => wcell_step d2 (HS.out.1 _ y.ok)
      have HW : Hid (∀ y : Wd S, Below w.heap.size w y.w) := Lib.hid fun y => wbel_trans (wbel_trans HB.out HB2.out) (HS.out.1 _ y.ok)
      clear d0 d1 d2
      by_cases hK : g.k = K
      · have t2 : (g.k == K) = true := by simpa using hK
        by_cases hr1 : r = -1
        · subst hr1
          have hR := Lib.hid (first_one goodV HF.out (by rw [← HG.out]; exact hK))
          refine wp_region_wd S (by kernel_rfl) (by kernel_rfl) hS0 ?_
          repeat (go_big_quiet_step (fail))
          refine wpQuiet_nil ?_
          intro _ hw'
          obtain ⟨y, rfl⟩ := hw'
          go_wp2_with fail
          go_roundw
          case rel => exact ⟨k + 1, (k : Int), by omega, by go_num, rfl, hR.out, HW.out y⟩
          case measure => simp [intOf]; omega
        · obtain ⟨m, rfl, hm⟩ := first_lt HF.out hr1
          have t3 : ((m : Int) == -1) = false := by simp
          obtain ⟨h, hh⟩ : ∃ h, h = G.getD m SegV.nil := ⟨_, rfl⟩
          have HH := Lib.hid hh
          have e0 : ∀ y : Wd S, y.w.cell? ⟨b, off + m * 3, none⟩ = some (.int .i64 h.k) := fun y => by rw [HH.out]; exact wcell_step (wcell_step (HC.out m (by omega)).1 HB2.out) (HS.out.1 _ y.ok)
          have e1 : ∀ y : Wd S, y.w.cell? ⟨b, off + m * 3 + 1, none⟩ = some (.int .i64 h.l) := fun y => by rw [HH.out]; exact wcell_step (wcell_step (HC.out m (by omega)).2.1 HB2.out) (HS.out.1 _ y.ok)
          have e2 : ∀ y : Wd S, y.w.cell? ⟨b, off + m * 3 + 2, none⟩ = some (.int .u32 (h.e : Int)) := fun y => by rw [HH.out]; exact wcell_step (wcell_step (HC.out m (by omega)).2.2 HB2.out) (HS.out.1 _ y.ok)
          have HCA : Hid (∀ y : Wd S, Calls Try.prog 19 #[.agg #[.int .i64 g.k, .int .i64 g.l, .int .u32 (g.e : Int)], .agg #[.int .i64 h.k, .int .i64 h.l, .int .u32 (h.e : Int)]] y.w fun e w' => e = .returned (.int .i64 (ordV g h)) ∧ Below y.w.heap.size y.w w') := Lib.hid fun y => ordV_any g h y.w
          have HST : Hid (∀ (y : Wd S) (z : World), Below y.w.heap.size y.w z → S z) := Lib.hid fun y z hb => HS.out.2 _ (wbel_trans (HS.out.1 _ y.ok) hb)
          have hm0 : (0 : Int) ≤ (m : Int) := by omega
          have hml : (m : Int) < (len : Int) := by omega
          clear hh hr1 hK
          by_cases hO : ordV g h < 0
          · have hR := Lib.hid (first_new goodV HF.out (by rw [← HG.out]; simpa using t2) (by rw [← HG.out, ← HH.out]; exact hO))
            have t4 : decide (ordV g h < 0) = true := by simpa using hO
            clear hO
            refine wp_region_wd S (by kernel_rfl) (by kernel_rfl) hS0 ?_
            repeat (go_big_quiet_step (first
              | (go_at_call 19; with_reducible exact Calls.wd (HST.out _) (HCA.out _))))
            refine wpQuiet_nil ?_
            intro _ hw'
            obtain ⟨y, rfl⟩ := hw'
            go_wp2_with fail
            go_roundw
            case rel => exact ⟨k + 1, (k : Int), by omega, by go_num, rfl, hR.out, HW.out y⟩
            case measure => simp [intOf]; omega
          · have hR := Lib.hid (first_old HF.out (by rw [← HG.out, ← HH.out]; exact hO))
            have t4 : decide (ordV g h < 0) = false := by simpa using hO
            clear hO
            refine wp_region_wd S (by kernel_rfl) (by kernel_rfl) hS0 ?_
            repeat (go_big_quiet_step (first
              | (go_at_call 19; with_reducible exact Calls.wd (HST.out _) (HCA.out _))))
            refine wpQuiet_nil ?_
            intro _ hw'
            obtain ⟨y, rfl⟩ := hw'
            go_wp2_with fail
            go_roundw
            case rel => exact ⟨k + 1, (m : Int), by omega, by go_num, rfl, hR.out, HW.out y⟩
            case measure => simp [intOf]; omega
      · have t2 : (g.k == K) = false := by simpa using hK
        have hR := Lib.hid (first_skip (k := k) HF.out (by rw [← HG.out]; exact hK))
        refine wp_region_wd S (by kernel_rfl) (by kernel_rfl) hS0 ?_
        repeat (go_big_quiet_step (fail))
        refine wpQuiet_nil ?_
        intro _ hw'
        obtain ⟨y, rfl⟩ := hw'
        go_wp2_with fail
        go_roundw
        case rel => exact ⟨k + 1, r, by omega, by go_num, rfl, hR.out, HW.out y⟩
        case measure => simp [intOf]; omega
    · obtain rfl : k = len := by omega
      have t1 : decide (k < k) = false := by simp
      go_wp2
      go_ret
      exact ⟨r, rfl, HF.out, HB.out⟩
set_option maxHeartbeats 1000000 in
theorem firstN_any (a : Option Addr) (len cap : Nat) (G : List SegV) (K : Int) (w : World) (hr : RowG w a len G) (hlc : len ≤ cap) (hcm : cap ≤ maxLen) :
    Calls Try.prog 17 #[.slice a len cap, .int .i64 K, .func (.func 20) #[] #[]] w fun e w' => ∃ r, e = .returned (.int .i64 r) ∧ FirstIs ordN K G len r ∧ Below w.heap.size w w' := by
  have HR := Lib.hid hr
  clear hr
  unfold maxLen at hcm
  go_enter Try.func17, Try.ntmps17
  go_wp2_with fail
  go_loopw [12, 7] (fun i t wr => ∃ (k : Nat) (r : Int), k ≤ len ∧ i = .int .i64 (k : Int) ∧ t = .int .i64 r ∧ FirstIs ordN K G k r ∧ Below w.heap.size w wr) (fun i _ _ => len - (intOf i).toNat)
  case atStart => exact ⟨0, -1, Nat.zero_le _, rfl, rfl, first_zero, Below.refl _ _⟩
  case round =>
    obtain ⟨k, r, hk, rfl, rfl, hf, hB⟩ := hrel
    have HF := Lib.hid hf
    have HB := Lib.hid hB
    clear hf hB
    by_cases hlt : k < len
    · have t1 : decide (k < len) = true := by simpa using hlt
      have hr1 := HR.out.step HB.out
      obtain ⟨b, off, rfl, hbs, hc⟩ := rowG_at hr1 hlt
      have HC := Lib.hid hc
      obtain ⟨c0, c1, c2⟩ := hc k hlt
      clear hr1 hc
      obtain ⟨g, hg⟩ : ∃ g, g = G.getD k SegV.nil := ⟨_, rfl⟩
      rw [← hg] at c0 c1 c2
      have HG := Lib.hid hg
      clear hg
      have hk0 : (0 : Int) ≤ (k : Int) := by omega
      go_upto_region 5 with fail
      obtain ⟨w2, hw2⟩ : ∃ x, x = wr.alloc (.cells #[.int .i64 g.k, .int .i64 g.l, .int .u32 (g.e : Int)] 33) := ⟨_, rfl⟩
      have HB2 : Hid (Below wr.heap.size wr w2) := Lib.hid (by rw [hw2]; exact wbel_alloc (Below.refl _ _) _)
      have hs2 : wr.heap.size < w2.heap.size := by rw [hw2]; simp
      have d0 : w2.cell? ⟨wr.heap.size, 0, none⟩ = some (.int .i64 g.k) := by rw [hw2, heap_new_w]; rfl
      have d1 : w2.cell? ⟨wr.heap.size, 1, none⟩ = some (.int .i64 g.l) := by rw [hw2, heap_new_w]; rfl
      have d2 : w2.cell? ⟨wr.heap.size, 2, none⟩ = some (.int .u32 (g.e : Int)) := by rw [hw2, heap_new_w]; rfl
      rw [← hw2]
      clear hw2 c0 c1 c2
      obtain ⟨fb, hfb⟩ : ∃ x, x = wr.heap.size := ⟨_, rfl⟩
      rw [← hfb] at d0 d1 d2 hs2
      rw [← hfb]
      have HFB := Lib.hid hfb
      clear hfb
      obtain ⟨S, hSd⟩ : ∃ S : World → Prop, (∀ x, S x → Below w2.heap.size w2 x) ∧ (∀ x, Below w2.heap.size w2 x → S x) := ⟨_, fun _ h => h, fun _ h => h⟩
      have hS0 : S w2.drew := hSd.2 _ (Below.refl _ _).drew
      haveI hne : Nonempty (Wd S) := ⟨⟨_, hS0⟩⟩
      have HS := Lib.hid hSd
      clear hSd
      have f0 : ∀ y : Wd S, y.w.cell? ⟨fb, 0, none⟩ = some (.int .i64 g.k) := fun y => wcell_step d0 (HS.out.1 _ y.ok)
      have f1 : ∀ y : Wd S, y.w.cell? ⟨fb, 1, none⟩ = some (.int .i64 g.l) := fun y => wcell_step d1 (HS.out.1 _ y.ok)
      have f2 : ∀ y : Wd S, y.w.cell? ⟨fb, 2, none⟩ = some (.int .u32 (g.e : Int)) := fun y => wcell_step d2 (HS.out.1 _ y.ok)
      have HW : Hid (∀ y : Wd S, Below w.heap.size w y.w) := Lib.hid fun y => wbel_trans (wbel_trans HB.out HB2.out) (HS.out.1 _ y.ok)
      clear d0 d1 d2
      by_cases hK : g.k = K
      · have t2 : (g.k == K) = true := by simpa using hK
        by_cases hr1 : r = -1
        · subst hr1
          have hR := Lib.hid (first_one goodN HF.out (by rw [← HG.out]; exact hK))
          refine wp_region_wd S (by kernel_rfl) (by kernel_rfl) hS0 ?_
          repeat (go_big_quiet_step (fail))
          refine wpQuiet_nil ?_
          intro _ hw'
          obtain ⟨y, rfl⟩ := hw'
          go_wp2_with fail
          go_roundw
          case rel => exact ⟨k + 1, (k : Int), by omega, by go_num, rfl, hR.out, HW.out y⟩
          case measure => simp [intOf]; omega
        · obtain ⟨m, rfl, hm⟩ := first_lt HF.out hr1
          have t3 : ((m : Int) == -1) = false := by simp
          obtain ⟨h, hh⟩ : ∃ h, h = G.getD m SegV.nil := ⟨_, rfl⟩
          have HH := Lib.hid hh
          have e0 : ∀ y : Wd S, y.w.cell? ⟨b, off + m * 3, none⟩ = some (.int .i64 h.k) := fun y => by rw [HH.out]; exact wcell_step (wcell_step (HC.out m (by omega)).1 HB2.out) (HS.out.1 _ y.ok)
          have e1 : ∀ y : Wd S, y.w.cell? ⟨b, off + m * 3 + 1, none⟩ = some (.int .i64 h.l) := fun y => by rw [HH.out]; exact wcell_step (wcell_step (HC.out m (by omega)).2.1 HB2.out) (HS.out.1 _ y.ok)
          have e2 : ∀ y : Wd S, y.w.cell? ⟨b, off + m * 3 + 2, none⟩ = some (.int .u32 (h.e : Int)) := fun y => by rw [HH.out]; exact wcell_step (wcell_step (HC.out m (by omega)).2.2 HB2.out) (HS.out.1 _ y.ok)
          have HCA : Hid (∀ y : Wd S, Calls Try.prog 20 #[.agg #[.int .i64 g.k, .int .i64 g.l, .int .u32 (g.e : Int)], .agg #[.int .i64 h.k, .int .i64 h.l, .int .u32 (h.e : Int)]] y.w fun e w' => e = .returned (.int .i64 (ordN g h)) ∧ Below y.w.heap.size y.w w') := Lib.hid fun y => ordN_any g h y.w
          have HST : Hid (∀ (y : Wd S) (z : World), Below y.w.heap.size y.w z → S z) := Lib.hid fun y z hb => HS.out.2 _ (wbel_trans (HS.out.1 _ y.ok) hb)
          have hm0 : (0 : Int) ≤ (m : Int) := by omega
          have hml : (m : Int) < (len : Int) := by omega
          clear hh hr1 hK
          by_cases hO : ordN g h < 0
          · have hR := Lib.hid (first_new goodN HF.out (by rw [← HG.out]; simpa using t2) (by rw [← HG.out, ← HH.out]; exact hO))
            have t4 : decide (ordN g h < 0) = true := by simpa using hO
            clear hO
            refine wp_region_wd S (by kernel_rfl) (by kernel_rfl) hS0 ?_
            repeat (go_big_quiet_step (first
              | (go_at_call 20; with_reducible exact Calls.wd (HST.out _) (HCA.out _))))
            refine wpQuiet_nil ?_
            intro _ hw'
            obtain ⟨y, rfl⟩ := hw'
            go_wp2_with fail
            go_roundw
            case rel => exact ⟨k + 1, (k : Int), by omega, by go_num, rfl, hR.out, HW.out y⟩
            case measure => simp [intOf]; omega
          · have hR := Lib.hid (first_old HF.out (by rw [← HG.out, ← HH.out]; exact hO))
            have t4 : decide (ordN g h < 0) = false := by simpa using hO
            clear hO
            refine wp_region_wd S (by kernel_rfl) (by kernel_rfl) hS0 ?_
            repeat (go_big_quiet_step (first
              | (go_at_call 20; with_reducible exact Calls.wd (HST.out _) (HCA.out _))))
            refine wpQuiet_nil ?_
            intro _ hw'
            obtain ⟨y, rfl⟩ := hw'
            go_wp2_with fail
            go_roundw
            case rel => exact ⟨k + 1, (m : Int), by omega, by go_num, rfl, hR.out, HW.out y⟩
            case measure => simp [intOf]; omega
      · have t2 : (g.k == K) = false := by simpa using hK
        have hR := Lib.hid (first_skip (k := k) HF.out (by rw [← HG.out]; exact hK))
        refine wp_region_wd S (by kernel_rfl) (by kernel_rfl) hS0 ?_
        repeat (go_big_quiet_step (fail))
        refine wpQuiet_nil ?_
        intro _ hw'
        obtain ⟨y, rfl⟩ := hw'
        go_wp2_with fail
        go_roundw
        case rel => exact ⟨k + 1, r, by omega, by go_num, rfl, hR.out, HW.out y⟩
        case measure => simp [intOf]; omega
    · obtain rfl : k = len := by omega
      have t1 : decide (k < k) = false := by simp
      go_wp2
      go_ret
      exact ⟨r, rfl, HF.out, HB.out⟩
end Go.Proofs.Ytjimgbeockfpmaa
