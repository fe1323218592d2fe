/- dirent.Find, dirent.Room. -/
import Derived.Test.YtdpkinppkhnjkaaDnOrd
namespace Go.Proofs.Ytdpkinppkhnjkaa
open Go.RowKit

/-- The first place from nought on, below n, at which P holds; d where there is none. -/
def FirstAt (P : Nat → Bool) (n : Nat) (d r : Int) : Prop := (r = d ∧ ∀ j, j < n → P j = false) ∨ (∃ q : Nat, r = (q : Int) ∧ q < n ∧ P q = true ∧ ∀ j, j < q → P j = false)
theorem FirstAt.one {P : Nat → Bool} {n : Nat} {d r s : Int} (h1 : FirstAt P n d r) (h2 : FirstAt P n d s) : r = s := by
  rcases h1 with ⟨rfl, h1⟩ | ⟨q, rfl, hq, hp, h1⟩
  · rcases h2 with ⟨rfl, _⟩ | ⟨q2, rfl, hq2, hp2, h2⟩
    · rfl
    · rw [h1 q2 hq2] at hp2; cases hp2
  · rcases h2 with ⟨rfl, h2⟩ | ⟨q2, rfl, hq2, hp2, h2⟩
    · rw [h2 q hq] at hp; cases hp
    · rcases Nat.lt_trichotomy q q2 with c | c | c
      · rw [h2 q c] at hp; cases hp
      · rw [c]
      · rw [h1 q2 c] at hp2; cases hp2
def someP (L : EntL) (nm : ByteArray) (j : Nat) : Bool := (L.getD j ent0).1 != 0 && (L.getD j ent0).2.toList == nm.toList
def noneP (L : EntL) (j : Nat) : Bool := (L.getD j ent0).1 == 0
set_option maxRecDepth 100000 in
set_option maxHeartbeats 1000000 in
theorem find1_any (p : Nat) (nm : ByteArray) (nd : Nat) (s : ByteArray) (w : World) (hp : w.cell? ⟨p, 0, none⟩ = some (.string nm)) :
    Calls Try.prog 16 #[.agg #[.int .u32 (nd : Int), .string s], .pointer (some ⟨p, 0, none⟩)] w fun e w' => e = .returned (.bool (nd != 0 && s.toList == nm.toList)) ∧ Below w.heap.size w w' := by
  have hb := bel_alloc (Below.refl _ w) (.cells #[.int .u32 (nd : Int), .string s] 26)
  have hh := heap_alloc_new w (.cells #[.int .u32 (nd : Int), .string s] 26)
  obtain ⟨Z, hZ⟩ : ∃ x, x = w.alloc (.cells #[.int .u32 (nd : Int), .string s] 26) := ⟨_, rfl⟩
  obtain ⟨b, hbs⟩ : ∃ x, x = w.heap.size := ⟨_, rfl⟩
  rw [← hZ] at hb hh
  rw [← hbs] at hh
  have HB := Lib.hid hb
  have HP := Lib.hid (pt_stepS hp hb)
  have HH := Lib.hid hh
  have HBS := Lib.hid hbs
  obtain ⟨z0, z1⟩ : Z.cell? ⟨b, 0, none⟩ = some (.int .u32 (nd : Int)) ∧ Z.cell? ⟨b, 1, none⟩ = some (.string s) := by
    constructor <;> simp [World.cell?, hh]
  have HC := Lib.hid (none_any nd s Z)
  clear hb hh hp
  go_enter Try.func16, Try.ntmps16
  go_upto_region 1 with fail
  rw [← hZ, ← hbs]
  clear hZ hbs
  go_wp2_with fail
  ((with_reducible refine HC.out.mono ?_))
  rintro e w2 ⟨rfl, hb2⟩
  have y0 := pt_stepS z0 hb2
  have y1 := pt_stepS z1 hb2
  have yp := pt_stepS HP.out hb2
  have HB2 : Hid (Below w.heap.size w w2) := Lib.hid (bel_trans HB.out hb2)
  clear hb2 z0 z1
  by_cases hz : nd = 0
  · have t2 : (nd == 0) = true := by simpa using hz
    have T3 : Hid ((nd != 0 && s.toList == nm.toList) = false) := Lib.hid (by simp [hz])
    clear hz
    go_wp2_with fail
    go_ret
    exact ⟨by rw [T3.out]; rfl, HB2.out⟩
  · have t2 : (nd == 0) = false := by simpa using hz
    have T3 : Hid ((nd != 0 && s.toList == nm.toList) = (s.toList == nm.toList)) := Lib.hid (by simp [hz])
    clear hz
    go_wp2_with fail
    go_ret
    exact ⟨by rw [T3.out]; rfl, HB2.out⟩
set_option maxRecDepth 100000 in
set_option maxHeartbeats 1000000 in
theorem room1_any (nd : Nat) (s : ByteArray) (w : World) :
    Calls Try.prog 17 #[.agg #[.int .u32 (nd : Int), .string s]] w fun e w' => e = .returned (.bool (nd == 0)) ∧ Below w.heap.size w w' := by
  have hb := bel_alloc (Below.refl _ w) (.cells #[.int .u32 (nd : Int), .string s] 26)
  have hh := heap_alloc_new w (.cells #[.int .u32 (nd : Int), .string s] 26)
  obtain ⟨Z, hZ⟩ : ∃ x, x = w.alloc (.cells #[.int .u32 (nd : Int), .string s] 26) := ⟨_, rfl⟩
  obtain ⟨b, hbs⟩ : ∃ x, x = w.heap.size := ⟨_, rfl⟩
  rw [← hZ] at hb hh
  rw [← hbs] at hh
  have HB := Lib.hid hb
  obtain ⟨z0, z1⟩ : Z.cell? ⟨b, 0, none⟩ = some (.int .u32 (nd : Int)) ∧ Z.cell? ⟨b, 1, none⟩ = some (.string s) := by
    constructor <;> simp [World.cell?, hh]
  have HC := Lib.hid (none_any nd s Z)
  clear hb hh
  go_enter Try.func17, Try.ntmps17
  go_upto_region 1 with fail
  rw [← hZ, ← hbs]
  clear hZ hbs
  go_wp2_with fail
  ((with_reducible refine HC.out.mono ?_))
  rintro e w2 ⟨rfl, hb2⟩
  have HB2 : Hid (Below w.heap.size w w2) := Lib.hid (bel_trans HB.out hb2)
  clear hb2 z0 z1
  go_wp2_with fail
  go_ret
  exact ⟨rfl, HB2.out⟩
set_option maxRecDepth 100000 in
set_option maxHeartbeats 1000000 in
theorem indexF_any (p : Nat) (nm : ByteArray) (a : Option Addr) (n cap : Nat) (L : EntL) (w : World) (hr : RowD w a n L) (hn : n ≤ 100000) (hp : w.cell? ⟨p, 0, none⟩ = some (.string nm)) :
    Calls Try.prog 15 #[.slice a n cap, .func (Fn.func 16) #[] #[.pointer (some ⟨p, 0, none⟩)]] w fun e w' => (∃ r : Int, e = .returned (.int .i64 r) ∧ FirstAt (someP L nm) n (-1) r) ∧ Below w.heap.size w w' := by
  have HR := Lib.hid hr
  have HN := Lib.hid hn
  have HP := Lib.hid hp
  clear hp
  have hcall : ∀ (args : Array Value) (wx : World), (callFunc 16 args).run Try.prog wx = .ok (.enter 16 args) wx := fun args wx => by simp [go_sem]
  clear hr hn
  go_enter Try.func15, Try.ntmps15
  go_wp2_with fail
  go_loopw [5, 8] (fun _ iv wr => ∃ k : Nat, iv = .int .i64 (k : Int) ∧ k ≤ n ∧ (∀ j, j < k → (someP L nm) j = false) ∧ Below w.heap.size w wr) (fun _ iv _ => n - (intOf iv).toNat)
  case atStart => exact ⟨0, rfl, Nat.zero_le _, fun j h => absurd h (Nat.not_lt_zero _), Below.refl _ _⟩
  case round =>
    obtain ⟨k, rfl, hk, hall, hb⟩ := hrel
    have HA := Lib.hid hall
    have HB := Lib.hid hb
    clear hall hb
    by_cases hlt : k < n
    · have t1 : decide ((k : Int) < (n : Int)) = true := by simp; omega
      have t1' : decide (k < n) = true := by simpa using hlt
      have hR := HR.out.below HB.out
      obtain ⟨b, off, nd, nm', rfl, hL, hnd, c1, c2⟩ := hR.at hlt
      have i0 : (0 : Int) ≤ (k : Int) := by omega
      have i1 : (k : Int) < (n : Int) := by omega
      obtain ⟨k1, hk1⟩ : ∃ x, k + 1 = x := ⟨_, rfl⟩
      have e1 : (k : Int) + 1 = (k1 : Int) := by omega
      have u1 : IntKind.i64.wrap (k1 : Int) = (k1 : Int) := by have := HN.out; rw [IntKind.wrap_i64]; omega
      have HK : Hid (k < n ∧ k1 = k + 1) := Lib.hid ⟨hlt, by omega⟩
      have HL := Lib.hid hL
      have HC := Lib.hid (find1_any p nm nd nm' wr (pt_stepS HP.out HB.out))
      clear hR hL hlt hk hk1
      go_wp2_with fail
      ((with_reducible refine HC.out.mono ?_))
      rintro e w2 ⟨rfl, hb2⟩
      have HB2 : Hid (Below w.heap.size w w2) := Lib.hid (bel_trans HB.out hb2)
      obtain ⟨tt, htt⟩ : ∃ t, (nd != 0 && nm'.toList == nm.toList) = t := ⟨_, rfl⟩
      have HT : Hid ((someP L nm) k = tt) := Lib.hid (by rw [← htt]; show _ = _; unfold someP; rw [HL.out])
      rw [htt]
      clear hb2 c1 c2 htt
      cases tt with
      | true =>
        go_wp2_with fail
        go_ret
        exact ⟨⟨_, rfl, .inr ⟨k, rfl, HK.out.1, HT.out, HA.out⟩⟩, HB2.out⟩
      | false =>
        go_wp2_with fail
        clear e1 u1
        go_roundw
        case rel => exact ⟨k1, rfl, by have := HK.out; omega, fun j hj => by
          rcases (show j < k ∨ j = k by have := HK.out; omega) with h | rfl
          · exact HA.out j h
          · exact HT.out, HB2.out⟩
        case measure => have := HK.out; simp [intOf]; omega
    · obtain rfl : k = n := by omega
      have t1 : decide ((k : Int) < (k : Int)) = false := by simp
      have t1' : decide (k < k) = false := by simp
      go_wp2_with fail
      go_ret
      exact ⟨⟨-1, rfl, .inl ⟨rfl, HA.out⟩⟩, HB.out⟩
set_option maxRecDepth 100000 in
set_option maxHeartbeats 1000000 in
theorem indexR_any (a : Option Addr) (n cap : Nat) (L : EntL) (w : World) (hr : RowD w a n L) (hn : n ≤ 100000) :
    Calls Try.prog 15 #[.slice a n cap, .func (Fn.func 17) #[] #[]] w fun e w' => (∃ r : Int, e = .returned (.int .i64 r) ∧ FirstAt (noneP L) n (-1) r) ∧ Below w.heap.size w w' := by
  have HR := Lib.hid hr
  have HN := Lib.hid hn
  have hcall : ∀ (args : Array Value) (wx : World), (callFunc 17 args).run Try.prog wx = .ok (.enter 17 args) wx := fun args wx => by simp [go_sem]
  clear hr hn
  go_enter Try.func15, Try.ntmps15
  go_wp2_with fail
  go_loopw [5, 8] (fun _ iv wr => ∃ k : Nat, iv = .int .i64 (k : Int) ∧ k ≤ n ∧ (∀ j, j < k → (noneP L) j = false) ∧ Below w.heap.size w wr) (fun _ iv _ => n - (intOf iv).toNat)
  case atStart => exact ⟨0, rfl, Nat.zero_le _, fun j h => absurd h (Nat.not_lt_zero _), Below.refl _ _⟩
  case round =>
    obtain ⟨k, rfl, hk, hall, hb⟩ := hrel
    have HA := Lib.hid hall
    have HB := Lib.hid hb
    clear hall hb
    by_cases hlt : k < n
    · have t1 : decide ((k : Int) < (n : Int)) = true := by simp; omega
      have t1' : decide (k < n) = true := by simpa using hlt
      have hR := HR.out.below HB.out
      obtain ⟨b, off, nd, nm', rfl, hL, hnd, c1, c2⟩ := hR.at hlt
      have i0 : (0 : Int) ≤ (k : Int) := by omega
      have i1 : (k : Int) < (n : Int) := by omega
      obtain ⟨k1, hk1⟩ : ∃ x, k + 1 = x := ⟨_, rfl⟩
      have e1 : (k : Int) + 1 = (k1 : Int) := by omega
      have u1 : IntKind.i64.wrap (k1 : Int) = (k1 : Int) := by have := HN.out; rw [IntKind.wrap_i64]; omega
      have HK : Hid (k < n ∧ k1 = k + 1) := Lib.hid ⟨hlt, by omega⟩
      have HL := Lib.hid hL
      have HC := Lib.hid (room1_any nd nm' wr)
      clear hR hL hlt hk hk1
      go_wp2_with fail
      ((with_reducible refine HC.out.mono ?_))
      rintro e w2 ⟨rfl, hb2⟩
      have HB2 : Hid (Below w.heap.size w w2) := Lib.hid (bel_trans HB.out hb2)
      obtain ⟨tt, htt⟩ : ∃ t, (nd == 0) = t := ⟨_, rfl⟩
      have HT : Hid ((noneP L) k = tt) := Lib.hid (by rw [← htt]; show _ = _; unfold noneP; rw [HL.out])
      rw [htt]
      clear hb2 c1 c2 htt
      cases tt with
      | true =>
        go_wp2_with fail
        go_ret
        exact ⟨⟨_, rfl, .inr ⟨k, rfl, HK.out.1, HT.out, HA.out⟩⟩, HB2.out⟩
      | false =>
        go_wp2_with fail
        clear e1 u1
        go_roundw
        case rel => exact ⟨k1, rfl, by have := HK.out; omega, fun j hj => by
          rcases (show j < k ∨ j = k by have := HK.out; omega) with h | rfl
          · exact HA.out j h
          · exact HT.out, HB2.out⟩
        case measure => have := HK.out; simp [intOf]; omega
    · obtain rfl : k = n := by omega
      have t1 : decide ((k : Int) < (k : Int)) = false := by simp
      have t1' : decide (k < k) = false := by simp
      go_wp2_with fail
      go_ret
      exact ⟨⟨-1, rfl, .inl ⟨rfl, HA.out⟩⟩, HB.out⟩
set_option maxRecDepth 100000 in
set_option maxHeartbeats 1000000 in
theorem find_any (a : Option Addr) (n cap : Nat) (L : EntL) (nm : ByteArray) (w : World) (hr : RowD w a n L) (hn : n ≤ 100000) :
    Calls Try.prog 9 #[.slice a n cap, .string nm] w fun e w' => (∃ r : Int, e = .returned (.int .i64 r) ∧ FirstAt (someP L nm) n (-1) r) ∧ Below w.heap.size w w' := by
  have hb := bel_alloc (Below.refl _ w) (.cells #[.string nm] 9)
  have hh := heap_alloc_new w (.cells #[.string nm] 9)
  obtain ⟨Z, hZ⟩ : ∃ x, x = w.alloc (.cells #[.string nm] 9) := ⟨_, rfl⟩
  obtain ⟨b, hbs⟩ : ∃ x, x = w.heap.size := ⟨_, rfl⟩
  rw [← hZ] at hb hh
  rw [← hbs] at hh
  have HB := Lib.hid hb
  have z0 : Z.cell? ⟨b, 0, none⟩ = some (.string nm) := by simp [World.cell?, hh]
  have HC := Lib.hid (indexF_any b nm a n cap L Z (hr.below hb) hn z0)
  clear hb hh hr hn z0
  go_enter Try.func9, Try.ntmps9
  go_upto_region 1 with fail
  rw [← hZ, ← hbs]
  clear hZ hbs
  go_wp2_with fail
  ((with_reducible refine HC.out.mono ?_))
  rintro e w2 ⟨⟨r, rfl, hf⟩, hb2⟩
  have HF := Lib.hid hf
  have HB2 := Lib.hid (bel_trans HB.out hb2)
  clear hf hb2
  go_wp2_with fail
  go_ret
  exact ⟨⟨r, rfl, HF.out⟩, HB2.out⟩
set_option maxRecDepth 100000 in
set_option maxHeartbeats 1000000 in
theorem room_any (a : Option Addr) (n cap : Nat) (L : EntL) (w : World) (hr : RowD w a n L) (hn : n ≤ 100000) :
    Calls Try.prog 10 #[.slice a n cap] w fun e w' => (∃ r : Int, e = .returned (.int .i64 r) ∧ FirstAt (noneP L) n (n : Int) r) ∧ Below w.heap.size w w' := by
  have HC := Lib.hid (indexR_any a n cap L w hr hn)
  clear hr hn
  go_enter Try.func10, Try.ntmps10
  go_wp2_with fail
  ((with_reducible refine HC.out.mono ?_))
  rintro e w2 ⟨⟨r, rfl, hf⟩, hb2⟩
  have HB2 := Lib.hid hb2
  clear hb2
  rcases hf with ⟨rfl, h⟩ | ⟨q, rfl, hq, hp, h⟩
  · have HF := Lib.hid h
    clear h
    go_wp2_with fail
    go_ret
    exact ⟨⟨_, rfl, .inl ⟨rfl, HF.out⟩⟩, HB2.out⟩
  · have HF := Lib.hid (And.intro hq (And.intro hp h))
    have t1 : decide ((0 : Int) ≤ (q : Int)) = true := by simp
    clear h hq hp
    go_wp2_with fail
    go_ret
    exact ⟨⟨_, rfl, .inr ⟨q, rfl, HF.out.1, HF.out.2.1, HF.out.2.2⟩⟩, HB2.out⟩
end Go.Proofs.Ytdpkinppkhnjkaa
