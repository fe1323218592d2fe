/- gabionref03.Step, walked. -/
import Derived.Test.YtdpkinppkhnjkaaDoorNStep
namespace Go.Proofs.YtdpkinppkhnjkaaDoor
open Go.RowKit

set_option maxRecDepth 100000 in
set_option maxHeartbeats 600000 in
theorem step_low (s : ByteArray) (p : Nat) (w : World) (hp : p < s.size) (_hs : s.size ≤ 70368744177664) (h : (s.get! p).toNat < 128) :
    Calls Tryd.prog 33 #[.string s, .int .i64 p] w fun e w' => e = .returned (.tuple #[.int .i64 ((s.get! p).toNat : Int), .int .i64 1, .bool true]) ∧ Below w.heap.size w w' := by
  have hix := idx_str s p hp
  generalize (s.get! p).toNat = c at *
  have hci : (c : Int) < 128 := by omega
  go_enter Tryd.func33, Tryd.ntmps33
  go_wp2_with fail
  go_ret3
  exact ⟨rfl, Below.refl _ _⟩
set_option maxRecDepth 100000 in
set_option maxHeartbeats 600000 in
theorem step_none (s : ByteArray) (p : Nat) (w : World) (hp : p < s.size) (_hs : s.size ≤ 70368744177664) (h0 : 128 ≤ (s.get! p).toNat) (h : (s.get! p).toNat < 194 ∨ 245 ≤ (s.get! p).toNat) :
    Calls Tryd.prog 33 #[.string s, .int .i64 p] w fun e w' => e = .returned (.tuple #[.int .i64 65533, .int .i64 1, .bool false]) ∧ Below w.heap.size w w' := by
  have hix := idx_str s p hp
  have hc256 := (s.get! p).toNat_lt
  generalize (s.get! p).toNat = c at *
  have h1 : (128 : Int) ≤ (c : Int) := by omega
  rcases h with h | h
  · have hci : (c : Int) < 194 := by omega
    go_enter Tryd.func33, Tryd.ntmps33
    go_wp2_with fail
    go_ret3
    exact ⟨rfl, Below.refl _ _⟩
  · have hci : (245 : Int) ≤ (c : Int) := by omega
    have h2 : (194 : Int) ≤ (c : Int) := by omega
    have h3 : (224 : Int) ≤ (c : Int) := by omega
    have h4 : (240 : Int) ≤ (c : Int) := by omega
    go_enter Tryd.func33, Tryd.ntmps33
    go_wp2_with fail
    go_ret3
    exact ⟨rfl, Below.refl _ _⟩
theorem idx_add (s : ByteArray) (p j : Nat) (hp : p + j < s.size) (w : World) : (Instr.index 9 (.string s) (.int .i64 ((p : Int) + (j : Int)))).run Tryd.prog w = .ok (.int .u8 ((s.get! (p + j)).toNat : Int)) w := by
  have h := idx_str s (p + j) hp w
  rw [Int.natCast_add] at h
  exact h
theorem contF_succ (s : ByteArray) (f i v : Nat) : contF s (f + 1) i v = if (s.get! i).toNat < 128 ∨ 191 < (s.get! i).toNat then none else contF s f (i + 1) (v * 64 + (s.get! i).toNat - 128) := rfl

set_option maxRecDepth 100000 in
set_option maxHeartbeats 1000000 in
theorem step_two (s : ByteArray) (p : Nat) (w : World) (hp : p < s.size) (hs : s.size ≤ 70368744177664) (h0 : 194 ≤ (s.get! p).toNat) (h : (s.get! p).toNat < 224) :
    Calls Tryd.prog 33 #[.string s, .int .i64 p] w fun e w' => e = .returned (.tuple #[.int .i64 ((tailF s p 2 128 ((s.get! p).toNat - 192)).1 : Int), .int .i64 ((tailF s p 2 128 ((s.get! p).toNat - 192)).2.1 : Int), .bool (tailF s p 2 128 ((s.get! p).toNat - 192)).2.2]) ∧ Below w.heap.size w w' := by
  have hix := idx_str s p hp
  have hcf := contF_succ s
  obtain ⟨c, hc⟩ : ∃ c, (s.get! p).toNat = c := ⟨_, rfl⟩
  rw [hc] at hix h0 h ⊢
  clear hc
  obtain ⟨v0, hv0⟩ : ∃ v0, c - 192 = v0 := ⟨_, rfl⟩
  have hsub : (c : Int) - 192 = (v0 : Int) := by omega
  have hv64 : v0 < 64 := by omega
  rw [hv0]
  clear hv0
  have c1 : (128 : Int) ≤ (c : Int) := by omega
  have c2 : (194 : Int) ≤ (c : Int) := by omega
  have c3 : (c : Int) < 224 := by omega
  clear h0 h
  obtain ⟨ans, hans⟩ : ∃ ans, tailF s p 2 128 v0 = ans := ⟨_, rfl⟩
  rw [hans]
  unfold tailF at hans
  by_cases hroom : s.size < p + 2
  · rw [if_pos hroom] at hans
    have HA := Lib.hid hans
    have hri : (s.size : Int) < (p : Int) + 2 := by omega
    clear hans hcf
    go_enter Tryd.func33, Tryd.ntmps33
    go_wp2_with fail
    go_ret3
    exact ⟨by rw [← HA.out]; rfl, Below.refl _ _⟩
  · rw [if_neg hroom] at hans
    have HA := Lib.hid hans
    have hri : (p : Int) + 2 ≤ (s.size : Int) := by omega
    clear hans
    go_enter Tryd.func33, Tryd.ntmps33
    go_wp2_with fail
    go_loopw [10, 11] (fun v i wr => ∃ (j x : Nat) (X : Int), 1 ≤ j ∧ j ≤ 2 ∧ i = .int .i64 (j : Int) ∧ v = .int .i64 X ∧ Hid (X = (x : Int)) ∧ wr = w ∧ Hid (x < 64 ^ j) ∧ Hid (endF 128 2 (contF s (2 - j) (p + j) x) = ans)) (fun _ i _ => 2 + 1 - (intOf i).toNat)
    case atStart => exact ⟨1, v0, v0, by omega, by omega, rfl, rfl, Lib.hid rfl, rfl, Lib.hid hv64, HA⟩
    case round =>
      obtain ⟨j, x, X, hj, hk, rfl, rfl, HX, rfl, hx, HA⟩ := hrel
      have hX := HX.out
      have hX0 : (0 : Int) ≤ X := by omega
      have hx9 : x < 16777216 := Nat.lt_of_lt_of_le hx.out (Nat.le_trans (Nat.pow_le_pow_right (by omega) hk) (by decide))
      by_cases hlt : j < 2
      · have hli : (j : Int) < 2 := by omega
        have hpk : p + j < s.size := by omega
        have hix2 := idx_add s p j hpk
        have hst := HA.out
        obtain ⟨f, hf⟩ : ∃ f, 2 - j = f + 1 := ⟨2 - j - 1, by omega⟩
        rw [hf, hcf] at hst
        have hfe : f = 2 - (j + 1) := by omega
        clear hf hcf
        subst hfe
        obtain ⟨d, hd⟩ : ∃ d, (s.get! (p + j)).toNat = d := ⟨_, rfl⟩
        have hd256 : d < 256 := by rw [← hd]; exact (s.get! (p + j)).toNat_lt
        rw [hd] at hix2 hst
        clear hd
        rw [endF_if] at hst
        by_cases hbad : d < 128 ∨ 191 < d
        · rw [if_pos hbad] at hst
          have HST := Lib.hid hst
          clear hst
          rcases hbad with hb | hb
          · have hbi : (d : Int) < 128 := by omega
            go_wp2_with fail
            go_ret3
            exact ⟨by rw [← HST.out]; first | rfl | (rw [HX.out]; rfl), Below.refl _ _⟩
          · have hbi : (191 : Int) < (d : Int) := by omega
            have hbi2 : (128 : Int) ≤ (d : Int) := by omega
            go_wp2_with fail
            go_ret3
            exact ⟨by rw [← HST.out]; first | rfl | (rw [HX.out]; rfl), Below.refl _ _⟩
        · rw [if_neg hbad] at hst
          have HST := Lib.hid hst
          have hbi : (d : Int) ≤ 191 := by omega
          have hbi2 : (128 : Int) ≤ (d : Int) := by omega
          obtain ⟨y, hy⟩ : ∃ y, x * 64 + d - 128 = y := ⟨_, rfl⟩
          have hX9 : X < 16777216 := by omega
          have hyl : y < 64 ^ (j + 1) := by
            have := hx.out
            rw [Nat.pow_succ]
            omega
          have HYL := Lib.hid hyl
          have HY := Lib.hid hy
          clear hst hbad hyl hy hX
          go_wp2_with fail
          go_roundw
          case rel => exact ⟨j + 1, y, X * 64 + d - 128, by omega, by omega, by go_num, rfl, Lib.hid (by have := HX.out; have := HY.out; omega), trivial, HYL, by have := HST.out; rw [HY.out] at this; exact Lib.hid this⟩
          case measure => simp [intOf]; omega
      · have hli : (2 : Int) ≤ (j : Int) := by omega
        have hst := HA.out
        rw [show 2 - j = 0 by omega] at hst
        rw [show contF s 0 (p + j) x = some x from rfl, endF_some] at hst
        clear hcf
        by_cases hbad : x < 128 ∨ 1114111 < x ∨ (55296 ≤ x ∧ x ≤ 57343)
        · rw [if_pos hbad] at hst
          have HST := Lib.hid hst
          clear hst
          have hb3 : x < 128 ∨ (128 ≤ x ∧ 1114111 < x) ∨ (128 ≤ x ∧ x ≤ 1114111 ∧ 55296 ≤ x ∧ x ≤ 57343) := by omega
          clear hbad
          rcases hb3 with hb | ⟨hb2, hb⟩ | ⟨hb2, hb1, hb3, hb4⟩
          · have hbi : X < 128 := by omega
            clear hb hx hx9 hk hj hlt hX
            go_wp2_with fail
            go_ret3
            exact ⟨by rw [← HST.out]; first | rfl | (rw [HX.out]; rfl), Below.refl _ _⟩
          · have hbi : (1114111 : Int) < X := by omega
            have hbi2 : (128 : Int) ≤ X := by omega
            clear hb hb2 hx hx9 hk hj hlt hX
            go_wp2_with fail
            go_ret3
            exact ⟨by rw [← HST.out]; first | rfl | (rw [HX.out]; rfl), Below.refl _ _⟩
          · have hbi : X ≤ 1114111 := by omega
            have hbi1 : (55296 : Int) ≤ X := by omega
            have hbi2 : (128 : Int) ≤ X := by omega
            have hbi3 : X ≤ 57343 := by omega
            go_wp2_with fail
            go_ret3
            exact ⟨by rw [← HST.out]; first | rfl | (rw [HX.out]; rfl), Below.refl _ _⟩
        · rw [if_neg hbad] at hst
          have HST := Lib.hid hst
          have hbi : X ≤ 1114111 := by omega
          have hbi2 : (128 : Int) ≤ X := by omega
          have hbi3 : X < 55296 ∨ ((55296 : Int) ≤ X ∧ (57343 : Int) < X) := by omega
          clear hst hbad
          rcases hbi3 with hbi3 | ⟨hbi3, hbi4⟩
          · have hb9 : decide (X ≥ 55296) = false := decide_eq_false (by omega)
            have hb8 : ¬ (55296 : Int) ≤ X := by omega
            clear hbi3 hx hx9 hk hj hlt hX
            go_wp2
            go_ret3
            exact ⟨by rw [← HST.out]; first | rfl | (rw [HX.out]; rfl), Below.refl _ _⟩
          · go_wp2_with fail
            go_ret3
            exact ⟨by rw [← HST.out]; first | rfl | (rw [HX.out]; rfl), Below.refl _ _⟩
set_option maxRecDepth 100000 in
set_option maxHeartbeats 1000000 in
theorem step_three (s : ByteArray) (p : Nat) (w : World) (hp : p < s.size) (hs : s.size ≤ 70368744177664) (h0 : 224 ≤ (s.get! p).toNat) (h : (s.get! p).toNat < 240) :
    Calls Tryd.prog 33 #[.string s, .int .i64 p] w fun e w' => e = .returned (.tuple #[.int .i64 ((tailF s p 3 2048 ((s.get! p).toNat - 224)).1 : Int), .int .i64 ((tailF s p 3 2048 ((s.get! p).toNat - 224)).2.1 : Int), .bool (tailF s p 3 2048 ((s.get! p).toNat - 224)).2.2]) ∧ Below w.heap.size w w' := by
  have hix := idx_str s p hp
  have hcf := contF_succ s
  obtain ⟨c, hc⟩ : ∃ c, (s.get! p).toNat = c := ⟨_, rfl⟩
  rw [hc] at hix h0 h ⊢
  clear hc
  obtain ⟨v0, hv0⟩ : ∃ v0, c - 224 = v0 := ⟨_, rfl⟩
  have hsub : (c : Int) - 224 = (v0 : Int) := by omega
  have hv64 : v0 < 64 := by omega
  rw [hv0]
  clear hv0
  have c1 : (128 : Int) ≤ (c : Int) := by omega
  have c4 : (194 : Int) ≤ (c : Int) := by omega
  have c2 : (224 : Int) ≤ (c : Int) := by omega
  have c3 : (c : Int) < 240 := by omega
  clear h0 h
  obtain ⟨ans, hans⟩ : ∃ ans, tailF s p 3 2048 v0 = ans := ⟨_, rfl⟩
  rw [hans]
  unfold tailF at hans
  by_cases hroom : s.size < p + 3
  · rw [if_pos hroom] at hans
    have HA := Lib.hid hans
    have hri : (s.size : Int) < (p : Int) + 3 := by omega
    clear hans hcf
    go_enter Tryd.func33, Tryd.ntmps33
    go_wp2_with fail
    go_ret3
    exact ⟨by rw [← HA.out]; rfl, Below.refl _ _⟩
  · rw [if_neg hroom] at hans
    have HA := Lib.hid hans
    have hri : (p : Int) + 3 ≤ (s.size : Int) := by omega
    clear hans
    go_enter Tryd.func33, Tryd.ntmps33
    go_wp2_with fail
    go_loopw [10, 11] (fun v i wr => ∃ (j x : Nat) (X : Int), 1 ≤ j ∧ j ≤ 3 ∧ i = .int .i64 (j : Int) ∧ v = .int .i64 X ∧ Hid (X = (x : Int)) ∧ wr = w ∧ Hid (x < 64 ^ j) ∧ Hid (endF 2048 3 (contF s (3 - j) (p + j) x) = ans)) (fun _ i _ => 3 + 1 - (intOf i).toNat)
    case atStart => exact ⟨1, v0, v0, by omega, by omega, rfl, rfl, Lib.hid rfl, rfl, Lib.hid hv64, HA⟩
    case round =>
      obtain ⟨j, x, X, hj, hk, rfl, rfl, HX, rfl, hx, HA⟩ := hrel
      have hX := HX.out
      have hX0 : (0 : Int) ≤ X := by omega
      have hx9 : x < 16777216 := Nat.lt_of_lt_of_le hx.out (Nat.le_trans (Nat.pow_le_pow_right (by omega) hk) (by decide))
      by_cases hlt : j < 3
      · have hli : (j : Int) < 3 := by omega
        have hpk : p + j < s.size := by omega
        have hix2 := idx_add s p j hpk
        have hst := HA.out
        obtain ⟨f, hf⟩ : ∃ f, 3 - j = f + 1 := ⟨3 - j - 1, by omega⟩
        rw [hf, hcf] at hst
        have hfe : f = 3 - (j + 1) := by omega
        clear hf hcf
        subst hfe
        obtain ⟨d, hd⟩ : ∃ d, (s.get! (p + j)).toNat = d := ⟨_, rfl⟩
        have hd256 : d < 256 := by rw [← hd]; exact (s.get! (p + j)).toNat_lt
        rw [hd] at hix2 hst
        clear hd
        rw [endF_if] at hst
        by_cases hbad : d < 128 ∨ 191 < d
        · rw [if_pos hbad] at hst
          have HST := Lib.hid hst
          clear hst
          rcases hbad with hb | hb
          · have hbi : (d : Int) < 128 := by omega
            go_wp2_with fail
            go_ret3
            exact ⟨by rw [← HST.out]; first | rfl | (rw [HX.out]; rfl), Below.refl _ _⟩
          · have hbi : (191 : Int) < (d : Int) := by omega
            have hbi2 : (128 : Int) ≤ (d : Int) := by omega
            go_wp2_with fail
            go_ret3
            exact ⟨by rw [← HST.out]; first | rfl | (rw [HX.out]; rfl), Below.refl _ _⟩
        · rw [if_neg hbad] at hst
          have HST := Lib.hid hst
          have hbi : (d : Int) ≤ 191 := by omega
          have hbi2 : (128 : Int) ≤ (d : Int) := by omega
          obtain ⟨y, hy⟩ : ∃ y, x * 64 + d - 128 = y := ⟨_, rfl⟩
          have hX9 : X < 16777216 := by omega
          have hyl : y < 64 ^ (j + 1) := by
            have := hx.out
            rw [Nat.pow_succ]
            omega
          have HYL := Lib.hid hyl
          have HY := Lib.hid hy
          clear hst hbad hyl hy hX
          go_wp2_with fail
          go_roundw
          case rel => exact ⟨j + 1, y, X * 64 + d - 128, by omega, by omega, by go_num, rfl, Lib.hid (by have := HX.out; have := HY.out; omega), trivial, HYL, by have := HST.out; rw [HY.out] at this; exact Lib.hid this⟩
          case measure => simp [intOf]; omega
      · have hli : (3 : Int) ≤ (j : Int) := by omega
        have hst := HA.out
        rw [show 3 - j = 0 by omega] at hst
        rw [show contF s 0 (p + j) x = some x from rfl, endF_some] at hst
        clear hcf
        by_cases hbad : x < 2048 ∨ 1114111 < x ∨ (55296 ≤ x ∧ x ≤ 57343)
        · rw [if_pos hbad] at hst
          have HST := Lib.hid hst
          clear hst
          have hb3 : x < 2048 ∨ (2048 ≤ x ∧ 1114111 < x) ∨ (2048 ≤ x ∧ x ≤ 1114111 ∧ 55296 ≤ x ∧ x ≤ 57343) := by omega
          clear hbad
          rcases hb3 with hb | ⟨hb2, hb⟩ | ⟨hb2, hb1, hb3, hb4⟩
          · have hbi : X < 2048 := by omega
            clear hb hx hx9 hk hj hlt hX
            go_wp2_with fail
            go_ret3
            exact ⟨by rw [← HST.out]; first | rfl | (rw [HX.out]; rfl), Below.refl _ _⟩
          · have hbi : (1114111 : Int) < X := by omega
            have hbi2 : (2048 : Int) ≤ X := by omega
            clear hb hb2 hx hx9 hk hj hlt hX
            go_wp2_with fail
            go_ret3
            exact ⟨by rw [← HST.out]; first | rfl | (rw [HX.out]; rfl), Below.refl _ _⟩
          · have hbi : X ≤ 1114111 := by omega
            have hbi1 : (55296 : Int) ≤ X := by omega
            have hbi2 : (2048 : Int) ≤ X := by omega
            have hbi3 : X ≤ 57343 := by omega
            go_wp2_with fail
            go_ret3
            exact ⟨by rw [← HST.out]; first | rfl | (rw [HX.out]; rfl), Below.refl _ _⟩
        · rw [if_neg hbad] at hst
          have HST := Lib.hid hst
          have hbi : X ≤ 1114111 := by omega
          have hbi2 : (2048 : Int) ≤ X := by omega
          have hbi3 : X < 55296 ∨ ((55296 : Int) ≤ X ∧ (57343 : Int) < X) := by omega
          clear hst hbad
          rcases hbi3 with hbi3 | ⟨hbi3, hbi4⟩
          · have hb9 : decide (X ≥ 55296) = false := decide_eq_false (by omega)
            have hb8 : ¬ (55296 : Int) ≤ X := by omega
            clear hbi3 hx hx9 hk hj hlt hX
            go_wp2
            go_ret3
            exact ⟨by rw [← HST.out]; first | rfl | (rw [HX.out]; rfl), Below.refl _ _⟩
          · go_wp2_with fail
            go_ret3
            exact ⟨by rw [← HST.out]; first | rfl | (rw [HX.out]; rfl), Below.refl _ _⟩
set_option maxRecDepth 100000 in
set_option maxHeartbeats 1000000 in
theorem step_four (s : ByteArray) (p : Nat) (w : World) (hp : p < s.size) (hs : s.size ≤ 70368744177664) (h0 : 240 ≤ (s.get! p).toNat) (h : (s.get! p).toNat < 245) :
    Calls Tryd.prog 33 #[.string s, .int .i64 p] w fun e w' => e = .returned (.tuple #[.int .i64 ((tailF s p 4 65536 ((s.get! p).toNat - 240)).1 : Int), .int .i64 ((tailF s p 4 65536 ((s.get! p).toNat - 240)).2.1 : Int), .bool (tailF s p 4 65536 ((s.get! p).toNat - 240)).2.2]) ∧ Below w.heap.size w w' := by
  have hix := idx_str s p hp
  have hcf := contF_succ s
  obtain ⟨c, hc⟩ : ∃ c, (s.get! p).toNat = c := ⟨_, rfl⟩
  rw [hc] at hix h0 h ⊢
  clear hc
  obtain ⟨v0, hv0⟩ : ∃ v0, c - 240 = v0 := ⟨_, rfl⟩
  have hsub : (c : Int) - 240 = (v0 : Int) := by omega
  have hv64 : v0 < 64 := by omega
  rw [hv0]
  clear hv0
  have c1 : (128 : Int) ≤ (c : Int) := by omega
  have c4 : (194 : Int) ≤ (c : Int) := by omega
  have c5 : (224 : Int) ≤ (c : Int) := by omega
  have c2 : (240 : Int) ≤ (c : Int) := by omega
  have c3 : (c : Int) < 245 := by omega
  clear h0 h
  obtain ⟨ans, hans⟩ : ∃ ans, tailF s p 4 65536 v0 = ans := ⟨_, rfl⟩
  rw [hans]
  unfold tailF at hans
  by_cases hroom : s.size < p + 4
  · rw [if_pos hroom] at hans
    have HA := Lib.hid hans
    have hri : (s.size : Int) < (p : Int) + 4 := by omega
    clear hans hcf
    go_enter Tryd.func33, Tryd.ntmps33
    go_wp2_with fail
    go_ret3
    exact ⟨by rw [← HA.out]; rfl, Below.refl _ _⟩
  · rw [if_neg hroom] at hans
    have HA := Lib.hid hans
    have hri : (p : Int) + 4 ≤ (s.size : Int) := by omega
    clear hans
    go_enter Tryd.func33, Tryd.ntmps33
    go_wp2_with fail
    go_loopw [10, 11] (fun v i wr => ∃ (j x : Nat) (X : Int), 1 ≤ j ∧ j ≤ 4 ∧ i = .int .i64 (j : Int) ∧ v = .int .i64 X ∧ Hid (X = (x : Int)) ∧ wr = w ∧ Hid (x < 64 ^ j) ∧ Hid (endF 65536 4 (contF s (4 - j) (p + j) x) = ans)) (fun _ i _ => 4 + 1 - (intOf i).toNat)
    case atStart => exact ⟨1, v0, v0, by omega, by omega, rfl, rfl, Lib.hid rfl, rfl, Lib.hid hv64, HA⟩
    case round =>
      obtain ⟨j, x, X, hj, hk, rfl, rfl, HX, rfl, hx, HA⟩ := hrel
      have hX := HX.out
      have hX0 : (0 : Int) ≤ X := by omega
      have hx9 : x < 16777216 := Nat.lt_of_lt_of_le hx.out (Nat.le_trans (Nat.pow_le_pow_right (by omega) hk) (by decide))
      by_cases hlt : j < 4
      · have hli : (j : Int) < 4 := by omega
        have hpk : p + j < s.size := by omega
        have hix2 := idx_add s p j hpk
        have hst := HA.out
        obtain ⟨f, hf⟩ : ∃ f, 4 - j = f + 1 := ⟨4 - j - 1, by omega⟩
        rw [hf, hcf] at hst
        have hfe : f = 4 - (j + 1) := by omega
        clear hf hcf
        subst hfe
        obtain ⟨d, hd⟩ : ∃ d, (s.get! (p + j)).toNat = d := ⟨_, rfl⟩
        have hd256 : d < 256 := by rw [← hd]; exact (s.get! (p + j)).toNat_lt
        rw [hd] at hix2 hst
        clear hd
        rw [endF_if] at hst
        by_cases hbad : d < 128 ∨ 191 < d
        · rw [if_pos hbad] at hst
          have HST := Lib.hid hst
          clear hst
          rcases hbad with hb | hb
          · have hbi : (d : Int) < 128 := by omega
            go_wp2_with fail
            go_ret3
            exact ⟨by rw [← HST.out]; first | rfl | (rw [HX.out]; rfl), Below.refl _ _⟩
          · have hbi : (191 : Int) < (d : Int) := by omega
            have hbi2 : (128 : Int) ≤ (d : Int) := by omega
            go_wp2_with fail
            go_ret3
            exact ⟨by rw [← HST.out]; first | rfl | (rw [HX.out]; rfl), Below.refl _ _⟩
        · rw [if_neg hbad] at hst
          have HST := Lib.hid hst
          have hbi : (d : Int) ≤ 191 := by omega
          have hbi2 : (128 : Int) ≤ (d : Int) := by omega
          obtain ⟨y, hy⟩ : ∃ y, x * 64 + d - 128 = y := ⟨_, rfl⟩
          have hX9 : X < 16777216 := by omega
          have hyl : y < 64 ^ (j + 1) := by
            have := hx.out
            rw [Nat.pow_succ]
            omega
          have HYL := Lib.hid hyl
          have HY := Lib.hid hy
          clear hst hbad hyl hy hX
          go_wp2_with fail
          go_roundw
          case rel => exact ⟨j + 1, y, X * 64 + d - 128, by omega, by omega, by go_num, rfl, Lib.hid (by have := HX.out; have := HY.out; omega), trivial, HYL, by have := HST.out; rw [HY.out] at this; exact Lib.hid this⟩
          case measure => simp [intOf]; omega
      · have hli : (4 : Int) ≤ (j : Int) := by omega
        have hst := HA.out
        rw [show 4 - j = 0 by omega] at hst
        rw [show contF s 0 (p + j) x = some x from rfl, endF_some] at hst
        clear hcf
        by_cases hbad : x < 65536 ∨ 1114111 < x ∨ (55296 ≤ x ∧ x ≤ 57343)
        · rw [if_pos hbad] at hst
          have HST := Lib.hid hst
          clear hst
          have hb3 : x < 65536 ∨ (65536 ≤ x ∧ 1114111 < x) ∨ (65536 ≤ x ∧ x ≤ 1114111 ∧ 55296 ≤ x ∧ x ≤ 57343) := by omega
          clear hbad
          rcases hb3 with hb | ⟨hb2, hb⟩ | ⟨hb2, hb1, hb3, hb4⟩
          · have hbi : X < 65536 := by omega
            clear hb hx hx9 hk hj hlt hX
            go_wp2
            go_ret3
            exact ⟨by rw [← HST.out]; first | rfl | (rw [HX.out]; rfl), Below.refl _ _⟩
          · have hbi : (1114111 : Int) < X := by omega
            have hbi2 : (65536 : Int) ≤ X := by omega
            clear hb hb2 hx hx9 hk hj hlt hX
            go_wp2_with fail
            go_ret3
            exact ⟨by rw [← HST.out]; first | rfl | (rw [HX.out]; rfl), Below.refl _ _⟩
          · have hbi : X ≤ 1114111 := by omega
            have hbi1 : (55296 : Int) ≤ X := by omega
            have hbi2 : (65536 : Int) ≤ X := by omega
            have hbi3 : X ≤ 57343 := by omega
            exfalso; omega
        · rw [if_neg hbad] at hst
          have HST := Lib.hid hst
          have hbi : X ≤ 1114111 := by omega
          have hbi2 : (65536 : Int) ≤ X := by omega
          have hbi3 : X < 55296 ∨ ((55296 : Int) ≤ X ∧ (57343 : Int) < X) := by omega
          clear hst hbad
          rcases hbi3 with hbi3 | ⟨hbi3, hbi4⟩
          · exfalso; omega
          · go_wp2_with fail
            go_ret3
            exact ⟨by rw [← HST.out]; first | rfl | (rw [HX.out]; rfl), Below.refl _ _⟩

theorem step_any (s : ByteArray) (p : Nat) (w : World) (hp : p < s.size) (hs : s.size ≤ 70368744177664) :
    Calls Tryd.prog 33 #[.string s, .int .i64 p] w fun e w' => e = .returned (.tuple #[.int .i64 ((stepOf s p).1 : Int), .int .i64 ((stepOf s p).2.1 : Int), .bool (stepOf s p).2.2]) ∧ Below w.heap.size w w' := by
  by_cases h1 : (s.get! p).toNat < 128
  · rw [stepOf_low h1]; exact step_low s p w hp hs h1
  · by_cases h2 : (s.get! p).toNat < 194 ∨ 245 ≤ (s.get! p).toNat
    · rw [stepOf_none (by omega) h2 hp]; exact step_none s p w hp hs (by omega) h2
    · by_cases h3 : (s.get! p).toNat < 224
      · rw [stepOf_two (by omega) h3 hp]; exact step_two s p w hp hs (by omega) h3
      · by_cases h4 : (s.get! p).toNat < 240
        · rw [stepOf_three (by omega) h4 hp]; exact step_three s p w hp hs (by omega) h4
        · rw [stepOf_four (by omega) (by omega) hp]; exact step_four s p w hp hs (by omega) (by omega)

end Go.Proofs.YtdpkinppkhnjkaaDoor
