/- DirentFinds: the walk. -/
import Derived.Test.YtdpkinppkhnjkaaDnRef
namespace Go.Proofs.Ytdpkinppkhnjkaa
open Go.RowKit

/-- The first place from lo on, below n, at which P holds; d where there is none. -/
def From (P : Nat → Bool) (lo n : Nat) (d r : Int) : Prop := (r = d ∧ ∀ j, lo ≤ j → j < n → P j = false) ∨ (∃ q : Nat, r = (q : Int) ∧ lo ≤ q ∧ q < n ∧ P q = true ∧ ∀ j, lo ≤ j → j < q → P j = false)
theorem From.none {P : Nat → Bool} {n : Nat} {d : Int} : From P n n d d := .inl ⟨rfl, fun j h1 h2 => by omega⟩
theorem From.yes {P : Nat → Bool} {c n : Nat} {d : Int} (hc : c < n) (h : P c = true) : From P c n d (c : Int) := .inr ⟨c, rfl, Nat.le_refl _, hc, h, fun j h1 h2 => by omega⟩
theorem From.no {P : Nat → Bool} {c n : Nat} {d r : Int} (h : From P (c + 1) n d r) (hp : P c = false) : From P c n d r := by
  rcases h with ⟨h1, h2⟩ | ⟨q, h1, h2, h3, h4, h5⟩
  · refine .inl ⟨h1, fun j q1 q2 => ?_⟩
    by_cases e : j = c
    · rw [e]; exact hp
    · exact h2 j (by omega) q2
  · refine .inr ⟨q, h1, by omega, h3, h4, fun j q1 q2 => ?_⟩
    by_cases e : j = c
    · rw [e]; exact hp
    · exact h5 j (by omega) q2
theorem From.first {P : Nat → Bool} {n : Nat} {d r : Int} (h : From P 0 n d r) : FirstAt P n d r := by
  rcases h with ⟨h1, h2⟩ | ⟨q, h1, h2, h3, h4, h5⟩
  · exact .inl ⟨h1, fun j hj => h2 j (Nat.zero_le _) hj⟩
  · exact .inr ⟨q, h1, h3, h4, fun j hj => h5 j (Nat.zero_le _) hj⟩
set_option maxRecDepth 100000 in
set_option maxHeartbeats 4000000 in
theorem direntFinds_any (a : Option Addr) (n cap : Nat) (L : EntL) (nm : ByteArray) (w : World) (hr : RowD w a n L) :
    Calls Try.prog 3 #[.slice a n cap, .string nm] w fun e w' => e = .returned (.bool true) ∧ Below w.heap.size w w' := by
  have HR := Lib.hid hr
  have HL : Hid (L.length = n) := Lib.hid hr.1
  have HORD := Lib.hid ordered_any
  by_cases c0 : 60 < n
  · have t0 : decide ((60 : Int) < (n : Int)) = true := by simp; omega
    have t0' : decide (60 < n) = true := by simpa using c0
    clear hr c0
    go_enter Try.func3, Try.ntmps3
    go_wp2_with fail
    ((with_reducible refine (HORD.out _).mono ?_))
    rintro e w1 ⟨rfl, hb⟩
    have HB := Lib.hid hb
    clear hb
    go_wp2_with fail
    go_ret
    exact ⟨rfl, HB.out⟩
  have t0 : decide ((60 : Int) < (n : Int)) = false := by simp; omega
  have t0' : decide (60 < n) = false := by simpa using c0
  have u0 : IntKind.i64.wrap ((n : Int) - 1) = (n : Int) - 1 := by rw [IntKind.wrap_i64]; omega
  have HN : Hid (n ≤ 60) := Lib.hid (by omega)
  clear hr c0
  go_enter Try.func3, Try.ntmps3
  go_wp2_with fail
  clear t0 t0' u0
  go_loopw [5, 6, 7] (fun av rv iv wr => ∃ (c : Nat) (at_ room : Int), iv = .int .i64 ((c : Int) - 1) ∧ av = .int .i64 at_ ∧ rv = .int .i64 room ∧ c ≤ n ∧ From (someP L nm) c n (-1) at_ ∧ From (noneP L) c n (n : Int) room ∧ (∀ j, c ≤ j → j < n → (L.getD j ent0).2.size ≤ 100) ∧ Below w.heap.size w wr) (fun _ _ iv _ => (intOf iv + 1).toNat)
  case atStart => exact ⟨n, -1, n, rfl, rfl, rfl, Nat.le_refl _, From.none, From.none, fun j h1 h2 => by omega, Below.refl _ _⟩
  case round =>
    obtain ⟨c, at_, room, hiv, rfl, rfl, hc, hat, hroom, hsz, hb⟩ := hrel
    have HB := Lib.hid hb
    clear hb
    cases c with
    | zero =>
      obtain rfl := hiv
      have hz : ∀ x ∈ L, x.2.size ≤ 100 := fun x hx => by
        obtain ⟨j, hj, rfl⟩ := List.getElem_of_mem hx
        have := hsz j (Nat.zero_le _) (by rw [← HL.out]; exact hj)
        simpa [List.getD, hj] using this
      have HAT := Lib.hid hat.first
      have HROOM := Lib.hid hroom.first
      have HZ := Lib.hid hz
      have HC1 := Lib.hid (names_any a n cap L wr (HR.out.below HB.out) (by have := HN.out; omega) (fun x hx => by have := hz x hx; omega))
      clear hat hroom hsz hz hc
      go_wp2_with fail
      ((with_reducible refine HC1.out.mono ?_))
      rintro e w1 ⟨sa, sc, S, rfl, hrs, hp, ho, hb1⟩
      have HS1 := Lib.hid hrs
      have HP1 := Lib.hid hp
      have HO1 := Lib.hid ho
      have HB1 := Lib.hid (bel_trans HB.out hb1)
      have HC2 := Lib.hid (of_any a n cap L w1 (HR.out.below HB1.out) (by have := HN.out; omega))
      clear hrs hp ho hb1
      go_wp2_with fail
      ((with_reducible refine HC2.out.mono ?_))
      rintro e w2 ⟨⟨ra, rc, rfl, hrr⟩, hb2⟩
      have HS2 := Lib.hid (rowS_below HS1.out hb2)
      have HB2 := Lib.hid (bel_trans HB1.out hb2)
      have HC3 := Lib.hid (refNames_any ra n rc L w2 hrr (by have := HN.out; omega) (fun x hx => by have := HZ.out x hx; omega))
      clear hrr hb2
      go_wp2_with fail
      ((with_reducible refine HC3.out.mono ?_))
      rintro e w3 ⟨qa, qc, S2, rfl, hrs, hp, ho, hb3⟩
      obtain rfl : S2 = S := srt_one (hp.trans HP1.out.symm) ho HO1.out
      have HS3 := Lib.hid (rowS_below HS2.out hb3)
      have HQ3 := Lib.hid hrs
      have HB3 := Lib.hid (bel_trans HB2.out hb3)
      clear hrs ho hb3 HC1 HC2 HC3 HP1 HO1 HS1 HS2
      obtain ⟨M, hM⟩ : ∃ x, S2.length = x := ⟨_, rfl⟩
      rw [hM] at HS3 HQ3 ⊢
      have HM : Hid (M ≤ 60) := Lib.hid (by
        have h1 := hp.length_eq
        have h2 := nmL_le L
        have h3 := HL.out
        have h4 := HN.out
        omega)
      clear hM hp
      go_wp2_with fail
      ((with_reducible refine (HORD.out _).mono ?_))
      rintro e w4 ⟨rfl, hb4⟩
      have HB4 := Lib.hid (bel_trans HB3.out hb4)
      have HS4 := Lib.hid (rowS_below HS3.out hb4)
      have HQ4 := Lib.hid (rowS_below HQ3.out hb4)
      have HC4 := Lib.hid (find_any a n cap L nm w4 (HR.out.below HB4.out) (by have := HN.out; omega))
      clear hb4
      go_wp2_with fail
      ((with_reducible refine HC4.out.mono ?_))
      rintro e w5 ⟨⟨r, rfl, hf⟩, hb5⟩
      obtain rfl := hf.one HAT.out
      have HB5 := Lib.hid (bel_trans HB4.out hb5)
      have HS5 := Lib.hid (rowS_below HS4.out hb5)
      have HQ5 := Lib.hid (rowS_below HQ4.out hb5)
      have HC5 := Lib.hid (room_any a n cap L w5 (HR.out.below HB5.out) (by have := HN.out; omega))
      have t3 : (r != r) = false := by simp
      clear hf hb5
      go_wp2_with fail
      ((with_reducible refine HC5.out.mono ?_))
      rintro e w6 ⟨⟨r2, rfl, hf⟩, hb6⟩
      obtain rfl := hf.one HROOM.out
      have HB6 := Lib.hid (bel_trans HB5.out hb6)
      have HS6 := Lib.hid (rowS_below HS5.out hb6)
      have HQ6 := Lib.hid (rowS_below HQ5.out hb6)
      have t4 : (r2 != r2) = false := by simp
      have t5 : ((M : Int) != (M : Int)) = false := by simp
      clear hf hb6
      go_wp2_with fail
      clear t3 t4 t5
      go_loopw [10] (fun iv wr => ∃ k : Nat, iv = .int .i64 (k : Int) ∧ k ≤ M ∧ Below w6.heap.size w6 wr) (fun iv _ => M - (intOf iv).toNat)
      case atStart => exact ⟨0, rfl, Nat.zero_le _, Below.refl _ _⟩
      case round =>
        obtain ⟨k, rfl, hk, hb⟩ := hrel
        have HBK := Lib.hid hb
        by_cases hlt : k < M
        · have t1 : decide ((k : Int) < (M : Int)) = true := by simp; omega
          have t1' : decide (k < M) = true := by simpa using hlt
          obtain ⟨-, -, -, -, h1⟩ := HS6.out
          obtain ⟨-, -, -, -, h2⟩ := HQ6.out
          obtain ⟨b1, o1, rfl, hc1⟩ := h1 (by omega)
          obtain ⟨b2, o2, rfl, hc2⟩ := h2 (by omega)
          have d1 := pt_stepS (hc1 k hlt) hb
          have d2 := pt_stepS (hc2 k hlt) hb
          obtain ⟨x, hx⟩ : ∃ x, S2.getD k ByteArray.empty = x := ⟨_, rfl⟩
          rw [hx] at d1 d2
          have t2 : (x.toList != x.toList) = false := by simp
          have t2' : (x.toList == x.toList) = true := by simp
          have j0 : (0 : Int) ≤ (k : Int) := by omega
          have j1 : (k : Int) < (M : Int) := by omega
          obtain ⟨k1, hk1⟩ : ∃ x, k + 1 = x := ⟨_, rfl⟩
          have e1 : (k : Int) + 1 = (k1 : Int) := by omega
          have u1 : IntKind.i64.wrap (k1 : Int) = (k1 : Int) := by have := HM.out; rw [IntKind.wrap_i64]; omega
          have HK : Hid (k < M ∧ k1 = k + 1) := Lib.hid ⟨hlt, by omega⟩
          clear h1 h2 hc1 hc2 hx hb hk hlt hk1
          go_upto_region 19 with fail
          go_quiet (fail)
          all_goals
            go_wp2_with fail
            clear e1 u1
            go_roundw
            case rel => exact ⟨k1, rfl, by have := HK.out; omega, HBK.out.trans ⟨rfl, rfl, rfl, Nat.le_refl _, fun _ _ => rfl⟩⟩
            case measure => have := HK.out; simp [intOf]; omega
        · obtain rfl : k = M := by omega
          have t1 : decide ((k : Int) < (k : Int)) = false := by simp
          have t1' : decide (k < k) = false := by simp
          clear hb hk hlt
          go_wp2_with fail
          go_ret
          exact ⟨rfl, bel_trans HB6.out HBK.out⟩
    | succ c =>
      rw [show ((c + 1 : Nat) : Int) - 1 = (c : Int) by omega] at hiv
      obtain rfl := hiv
      have HAT := Lib.hid hat
      have HROOM := Lib.hid hroom
      have HSZ := Lib.hid hsz
      have t1 : decide ((0 : Int) ≤ (c : Int)) = true := by simp
      have hR := HR.out.below HB.out
      obtain ⟨b, off, nd, s, rfl, hL, hnd, c1, c2⟩ := hR.at (show c < n by omega)
      have j0 : (0 : Int) ≤ (c : Int) := by omega
      have j1 : (c : Int) < (n : Int) := by omega
      have u1 : IntKind.i64.wrap ((c : Int) - 1) = (c : Int) - 1 := by have := HN.out; rw [IntKind.wrap_i64]; omega
      have HC : Hid (c < n) := Lib.hid (by omega)
      have HNP : Hid (noneP L c = (nd == 0)) := Lib.hid (by unfold noneP; rw [hL])
      have HSP : Hid (someP L nm c = (nd != 0 && s.toList == nm.toList)) := Lib.hid (by unfold someP; rw [hL])
      have HLC := Lib.hid hL
      clear hR hat hroom hsz hL hc
      by_cases hs : 100 < s.size
      · have t2 : decide ((100 : Int) < (s.size : Int)) = true := by simp; omega
        have t2' : decide (100 < s.size) = true := by simpa using hs
        clear hs
        go_wp2_with fail
        ((with_reducible refine (HORD.out _).mono ?_))
        rintro e w1 ⟨rfl, hb⟩
        have HB1 := Lib.hid (bel_trans HB.out hb)
        clear hb
        go_wp2_with fail
        go_ret
        exact ⟨rfl, HB1.out⟩
      have t2 : decide ((100 : Int) < (s.size : Int)) = false := by simp; omega
      have t2' : decide (100 < s.size) = false := by simpa using hs
      have HSZ2 : Hid (∀ j, c ≤ j → j < n → (L.getD j ent0).2.size ≤ 100) := Lib.hid fun j h1 h2 => by
        by_cases e : j = c
        · rw [e, HLC.out]; exact Nat.le_of_not_lt hs
        · exact HSZ.out j (by omega) h2
      clear hs
      by_cases hz : nd = 0
      · subst hz
        have HA2 := Lib.hid (HAT.out.no (by rw [HSP.out]; rfl))
        have HR2 := Lib.hid (From.yes (n := n) (d := (n : Int)) HC.out (show noneP L c = true by rw [HNP.out]; rfl))
        go_wp2_with fail
        clear u1
        go_roundw
        case rel => exact ⟨c, _, _, rfl, rfl, rfl, Nat.le_of_lt HC.out, HA2.out, HR2.out, HSZ2.out, HB.out⟩
        case measure => simp [intOf]
      · have t3 : ((nd : Int) == 0) = false := by rw [beq_eq_false_iff_ne]; omega
        have HR2 := Lib.hid (HROOM.out.no (by rw [HNP.out]; simpa using hz))
        by_cases he : s.toList = nm.toList
        · have t4 : (s.toList == nm.toList) = true := by simpa using he
          have HA2 := Lib.hid (From.yes (n := n) (d := -1) HC.out (show someP L nm c = true by rw [HSP.out]; simp [hz, he]))
          clear hz he
          go_wp2_with fail
          clear u1
          go_roundw
          case rel => exact ⟨c, _, _, rfl, rfl, rfl, Nat.le_of_lt HC.out, HA2.out, HR2.out, HSZ2.out, HB.out⟩
          case measure => simp [intOf]
        · have t4 : (s.toList == nm.toList) = false := by simpa using he
          have HA2 := Lib.hid (HAT.out.no (by rw [HSP.out]; simp [he]))
          clear hz he
          go_wp2_with fail
          clear u1
          go_roundw
          case rel => exact ⟨c, _, _, rfl, rfl, rfl, Nat.le_of_lt HC.out, HA2.out, HR2.out, HSZ2.out, HB.out⟩
          case measure => simp [intOf]
theorem direntFinds_all {P Q : Prop} (a : Option Addr) (n cap : Nat) (L : EntL) (nm : ByteArray) (w : World) (h : RowD w a n L ∧ Q) (_ : P) :
    Calls Try.prog 3 #[.slice a n cap, .string nm] w fun e w' => e = .returned (.bool true) ∧ Below w.heap.size w w' := direntFinds_any a n cap L nm w h.1
end Go.Proofs.Ytdpkinppkhnjkaa
