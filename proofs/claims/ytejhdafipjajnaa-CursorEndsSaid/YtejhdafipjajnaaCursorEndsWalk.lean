/- CursorEnds: the walk. -/
import Derived.Test.YtejhdafipjajnaaEndsBy
import Derived.Test.YtejhdafipjajnaaLaid
import Derived.Test.YtejhdafipjajnaaFrameZ
namespace Go.Proofs.Ytejhdafipjajnaa
open Go.RowKit

/-- Where a slice's tail lies. -/
def tailA (a : Option Addr) (c k : Nat) : Option Addr := if c = k then a else a.map fun x => x.add k
theorem run_tail (a : Option Addr) (n c k : Nat) (hk : k ≤ n) (w : World) :
    (Instr.slice 26 (.slice a n c) (some (.int .i64 (k : Int))) none none).run Try.prog w = .ok (.slice (tailA a c k) (n - k) (c - k)) w := by
  have hs : (sizeOf (Try.prog.elem 26)).run Try.prog w = .ok 1 w := by kernel_rfl
  rw [run_slice_l (P := Try.prog) w 26 a n c Try.underlying26 .i64 (k : Int) (by omega) (by omega), hs]
  simp only [Result.andThen, sliced, Int.toNat_natCast, Nat.mul_one]
  rfl
theorem row_tail {w : World} {a : Option Addr} {n c k : Nat} {bs : List Nat} (h : Row w a n bs) (hn : n ≤ c) : Row w (tailA a c k) (n - k) (bs.drop k) := by
  obtain ⟨h1, h2, h3⟩ := h
  refine ⟨by rw [List.length_drop, h1], fun x hx => h2 x (List.mem_of_mem_drop hx), fun h0 => ?_⟩
  obtain ⟨b, off, rfl, hcl⟩ := h3 (by omega)
  refine ⟨b, off + k, ?_, fun i hi => ?_⟩
  · unfold tailA
    rw [if_neg (by omega), Option.map_some, add_off]
  · rw [Nat.add_assoc, hcl (k + i) (by omega)]
    simp [List.getD, List.getElem?_drop]
theorem need_nat {k n : Int} {bs : List Nat} {m : Nat} (h : need k n bs = (m : Int)) : fits (need k n bs) bs = decide (m ≤ bs.length) := by
  rw [h]; unfold fits; simp
/-- Where the law stands in its own count. -/
def Stood (ns ks : List Int) (bs : List Nat) (A : Option (List Nat)) (len k at' : Nat) (ok : Bool) : Prop :=
  at' ≤ len ∧ ((ok = true ∧ goes ns k (ks.drop k) (bs.drop at') = A) ∨ (ok = false ∧ A = none))
theorem stood_fit {ns ks : List Int} {bs : List Nat} {A : Option (List Nat)} {len k at' m : Nat} (h : Stood ns ks bs A len k at' true) (hb : bs.length = len) (hk : k < ks.length) (hm : need (ks.getD k 0) (ns.getD k 0) (bs.drop at') = (m : Int)) (hf : at' + m ≤ len) : Stood ns ks bs A len (k + 1) (at' + m) true := by
  obtain ⟨h1, h2⟩ := h
  refine ⟨hf, .inl ⟨rfl, ?_⟩⟩
  rcases h2 with ⟨_, h2⟩ | ⟨h2, _⟩
  · have := goes_fit h2 hk hm (by rw [List.length_drop]; omega)
    rw [List.drop_drop] at this
    exact this
  · cases h2
theorem stood_out {ns ks : List Int} {bs : List Nat} {A : Option (List Nat)} {len k at' : Nat} {m : Int} (h : Stood ns ks bs A len k at' true) (hb : bs.length = len) (hk : k < ks.length) (hm : need (ks.getD k 0) (ns.getD k 0) (bs.drop at') = m) (hf : m < 0 ∨ (len : Int) - at' < m) : Stood ns ks bs A len (k + 1) at' false := by
  obtain ⟨h1, h2⟩ := h
  refine ⟨h1, .inr ⟨rfl, ?_⟩⟩
  rcases h2 with ⟨_, h2⟩ | ⟨h2, _⟩
  · exact goes_out h2 hk hm (by rw [List.length_drop]; omega)
  · cases h2
theorem two_at (w : World) (u v : Value) (t t' : TypeId) : Below w.heap.size w ((w.alloc (.cells #[u] t)).alloc (.cells #[v] t')) ∧ ((w.alloc (.cells #[u] t)).alloc (.cells #[v] t')).cell? ⟨w.heap.size, 0, none⟩ = some u ∧ ((w.alloc (.cells #[u] t)).alloc (.cells #[v] t')).cell? ⟨w.heap.size + 1, 0, none⟩ = some v ∧ ((w.alloc (.cells #[u] t)).alloc (.cells #[v] t')).heap.size = w.heap.size + 2 := by
  obtain ⟨h1, h2, _, _⟩ := two_new w u v t t'
  exact ⟨bel_alloc (bel_alloc (Below.refl _ w) _) _, h1, h2, by simp⟩
/-- Three new variables of the law's. -/
def w7Of (w1 : World) : World := ((w1.alloc (.cells #[.int .i64 0] 3)).alloc (.cells #[.int .i64 (-1)] 3)).alloc (.cells #[.bool false] 4)
theorem three_new (w1 : World) (ak : Nat) (ka : Option Addr) (kn kc : Nat) (na : Option Addr) (nn nc : Nat) (hk : w1.cell? ⟨ak, 0, none⟩ = some (.slice ka kn kc)) (hn : w1.cell? ⟨ak + 1, 0, none⟩ = some (.slice na nn nc)) :
    Below w1.heap.size w1 (w7Of w1) ∧ EndV ak (ak + 1) w1.heap.size (w1.heap.size + 1) (w1.heap.size + 2) ka kn kc na nn nc 0 (w7Of w1) ∧ (w7Of w1).heap.size = w1.heap.size + 3 := by
  obtain ⟨c1, c2, f1, f2⟩ := two_new w1 (.int .i64 0) (.int .i64 (-1)) 3 3
  unfold w7Of
  obtain ⟨w2, hw2⟩ : ∃ w2, w2 = (w1.alloc (.cells #[.int .i64 0] 3)).alloc (.cells #[.int .i64 (-1)] 3) := ⟨_, rfl⟩
  have hb2 : Below w1.heap.size w1 w2 := by rw [hw2]; exact bel_alloc (bel_alloc (Below.refl _ w1) _) _
  have hs2 : w2.heap.size = w1.heap.size + 2 := by rw [hw2]; simp
  rw [← hw2] at c1 c2 f1 f2 ⊢
  have hb3 : Below w2.heap.size w2 (w2.alloc (.cells #[.bool false] 4)) := bel_alloc (Below.refl _ w2) _
  have c3 := cell_new1 w2 (.bool false) 4
  have f3 := frozen_new w2 4
  rw [hs2] at c3 f3
  refine ⟨bel_trans hb2 hb3, ⟨cell_bel hb3 (cell_bel hb2 hk), cell_bel hb3 (cell_bel hb2 hn), cell_bel hb3 c1, ?_, cell_bel hb3 c2, ?_, c3, f3⟩, by simp [hs2]⟩
  · rw [hb3.frozen (p := ⟨w1.heap.size, 0, none⟩) (by show w1.heap.size < _; omega)]; exact f1
  · rw [hb3.frozen (p := ⟨w1.heap.size + 1, 0, none⟩) (by show w1.heap.size + 1 < _; omega)]; exact f2
section
variable {w w1 : World} {a : Option Addr} {len cap : Nat} {bs : List Nat} {ak : Nat} {ka : Option Addr} {kn kc : Nat} {ks : List Int} {na : Option Addr} {nn nc : Nat} {ns : List Int}
theorem ends_at {W : World} {pr : Nat} (hak : ak = w.heap.size) (hz : ak + 2 ≤ w1.heap.size) (h7 : (w7Of w1).heap.size = w1.heap.size + 3) (hb : Below (w7Of w1).heap.size (w7Of w1) W) (hp : (w7Of w1).heap.size + 3 ≤ pr) : EndAt w (w7Of w1) ak (ak + 1) w1.heap.size (w1.heap.size + 1) (w1.heap.size + 2) pr := by
  have := hb.size
  exact ⟨by omega, rfl, by omega, rfl, rfl, by omega, hp⟩
theorem keep7 {w2 w' : World} {b : Nat} {v : Value} (h7 : (w7Of w1).heap.size = w1.heap.size + 3) (hb : Below (w7Of w1).heap.size w2 w') (hlt : b < w1.heap.size + 3) (hc : w2.cell? ⟨b, 0, none⟩ = some v) : w'.cell? ⟨b, 0, none⟩ = some v := by
  rw [hb.cell (p := ⟨b, 0, none⟩) (by show b < _; omega)]; exact hc
theorem endsRead_none (hI : InB w a len cap bs) (hK : RowZ w ka kn kc ks) (hN : RowZ w na nn nc ns) (hk30 : kn ≤ 30) (hl5 : len ≤ 500) (hA : goes ns 0 ks bs = none) (hak : ak = w.heap.size) (hz1 : ak + 2 ≤ w1.heap.size) (hv : EndV ak (ak + 1) w1.heap.size (w1.heap.size + 1) (w1.heap.size + 2) ka kn kc na nn nc 0 (w7Of w1)) (h7 : (w7Of w1).heap.size = w1.heap.size + 3) (h07 : Below w.heap.size w (w7Of w1)) :
    Calls Try.prog 10 #[.slice a len cap, .func (Fn.func 22) #[] #[.pointer (some ⟨ak, 0, none⟩), .pointer (some ⟨ak + 1, 0, none⟩), .pointer (some ⟨w1.heap.size, 0, none⟩), .pointer (some ⟨w1.heap.size + 1, 0, none⟩), .pointer (some ⟨w1.heap.size + 1 + 1, 0, none⟩)]] (w7Of w1) fun e w' => e = .returned (.int .i64 62) ∧ Below w.heap.size w w' ∧ (∃ i : Nat, i < kn ∧ w'.cell? ⟨w1.heap.size, 0, none⟩ = some (.int .i64 (i : Int))) ∧ w'.cell? ⟨w1.heap.size + 1, 0, none⟩ = some (.int .i64 (-1)) ∧ w'.cell? ⟨ak, 0, none⟩ = some (.slice ka kn kc) := by
  have hcall : ∀ (args : Array Value) (wx : World), (callFunc 22 args).run Try.prog wx = .ok (.enter 22 args) wx := fun args wx => by simp [go_sem]
  have hby : ByDies 22 #[.pointer (some ⟨ak, 0, none⟩), .pointer (some ⟨ak + 1, 0, none⟩), .pointer (some ⟨w1.heap.size, 0, none⟩), .pointer (some ⟨w1.heap.size + 1, 0, none⟩), .pointer (some ⟨w1.heap.size + 1 + 1, 0, none⟩)] bs (w7Of w1) (fun W' => Below w.heap.size w W' ∧ (∃ i : Nat, i < kn ∧ W'.cell? ⟨w1.heap.size, 0, none⟩ = some (.int .i64 (i : Int))) ∧ W'.cell? ⟨w1.heap.size + 1, 0, none⟩ = some (.int .i64 (-1)) ∧ W'.cell? ⟨ak, 0, none⟩ = some (.slice ka kn kc)) := by
    intro W pr pg a' c' hrd hrg hb hpr hpg
    refine (endsBy ak (ak + 1) w1.heap.size (w1.heap.size + 1) (w1.heap.size + 2) ka kn kc ks na nn nc ns w (w7Of w1) W pr pg c' a' bs none hK hN hk30 (by have := hI.1.1; omega) hA hrd (fun _ => ⟨hrg, hpg⟩) (ends_at hak hz1 h7 hb hpr) h07 hb hv).mono ?_
    intro e W' h
    rcases h with ⟨r, h, _⟩ | ⟨_, h1, h2, h3, h4, h5, h6, h7⟩
    · cases h
    · exact ⟨h1, h2, h3, h4, h5, h6, h7⟩
  refine (read_dies a len cap bs _ _ (w7Of w1) _ (row_keep hI.1 h07 (Nat.le_refl _)) hI.2.2.2 (by omega) hcall hby).mono ?_
  rintro e w' ⟨rfl, w2, ⟨q1, ⟨i, hi, q2⟩, q3, q4⟩, hb2, _⟩
  have hwz := h07.size
  exact ⟨rfl, q1.trans (hb2.mono hwz), ⟨i, hi, keep7 h7 hb2 (by omega) q2⟩, keep7 h7 hb2 (by omega) q3, keep7 h7 hb2 (by omega) q4⟩
theorem endsRead_some {r : List Nat} (hI : InB w a len cap bs) (hK : RowZ w ka kn kc ks) (hN : RowZ w na nn nc ns) (hk30 : kn ≤ 30) (hl5 : len ≤ 500) (hA : goes ns 0 ks bs = some r) (hak : ak = w.heap.size) (hz1 : ak + 2 ≤ w1.heap.size) (hv : EndV ak (ak + 1) w1.heap.size (w1.heap.size + 1) (w1.heap.size + 2) ka kn kc na nn nc 0 (w7Of w1)) (h7 : (w7Of w1).heap.size = w1.heap.size + 3) (h07 : Below w.heap.size w (w7Of w1)) :
    Calls Try.prog 10 #[.slice a len cap, .func (Fn.func 22) #[] #[.pointer (some ⟨ak, 0, none⟩), .pointer (some ⟨ak + 1, 0, none⟩), .pointer (some ⟨w1.heap.size, 0, none⟩), .pointer (some ⟨w1.heap.size + 1, 0, none⟩), .pointer (some ⟨w1.heap.size + 1 + 1, 0, none⟩)]] (w7Of w1) fun e w' => e = .returned (.int .i64 0) ∧ Below w.heap.size w w' ∧ w'.cell? ⟨w1.heap.size, 0, none⟩ = some (.int .i64 (kn : Int)) ∧ w'.cell? ⟨w1.heap.size + 1, 0, none⟩ = some (.int .i64 (r.length : Int)) ∧ w'.cell? ⟨w1.heap.size + 1 + 1, 0, none⟩ = some (.bool (zeros r)) ∧ w'.cell? ⟨ak, 0, none⟩ = some (.slice ka kn kc) := by
  have hcall : ∀ (args : Array Value) (wx : World), (callFunc 22 args).run Try.prog wx = .ok (.enter 22 args) wx := fun args wx => by simp [go_sem]
  have hby : ByOk 22 #[.pointer (some ⟨ak, 0, none⟩), .pointer (some ⟨ak + 1, 0, none⟩), .pointer (some ⟨w1.heap.size, 0, none⟩), .pointer (some ⟨w1.heap.size + 1, 0, none⟩), .pointer (some ⟨w1.heap.size + 1 + 1, 0, none⟩)] bs (w7Of w1) (fun W' => Below w.heap.size w W' ∧ W'.cell? ⟨w1.heap.size, 0, none⟩ = some (.int .i64 (kn : Int)) ∧ W'.cell? ⟨w1.heap.size + 1, 0, none⟩ = some (.int .i64 (r.length : Int)) ∧ W'.cell? ⟨w1.heap.size + 1 + 1, 0, none⟩ = some (.bool (zeros r)) ∧ W'.cell? ⟨ak, 0, none⟩ = some (.slice ka kn kc)) := by
    intro W pr pg a' c' hrd hb hpr
    refine (endsBy ak (ak + 1) w1.heap.size (w1.heap.size + 1) (w1.heap.size + 2) ka kn kc ks na nn nc ns w (w7Of w1) W pr pg c' a' bs (some r) hK hN hk30 (by have := hI.1.1; omega) hA hrd (fun h => by cases h) (ends_at hak hz1 h7 hb hpr) h07 hb hv).mono ?_
    intro e W' h
    rcases h with ⟨r2, hr, h1, h2, h3, h4, h5, h6, h7⟩ | ⟨h, _⟩
    · cases hr
      exact ⟨h1, h2, h3, h4, h5, h6, h7⟩
    · cases h
  refine (read_ok a len cap bs _ _ (w7Of w1) _ (row_keep hI.1 h07 (Nat.le_refl _)) hI.2.2.2 (by omega) hcall hby).mono ?_
  rintro e w' ⟨rfl, w2, ⟨q1, q2, q3, q4, q5⟩, hb2, _⟩
  have hwz := h07.size
  exact ⟨rfl, q1.trans (hb2.mono hwz), keep7 h7 hb2 (by omega) q2, keep7 h7 hb2 (by omega) q3, keep7 h7 hb2 (by omega) q4, keep7 h7 hb2 (by omega) q5⟩
end
set_option maxRecDepth 100000 in
set_option maxHeartbeats 800000 in
theorem cursorEnds_big (a : Option Addr) (len cap : Nat) (bs : List Nat) (ka : Option Addr) (kn kc : Nat) (ks : List Int) (na : Option Addr) (nn nc : Nat) (w : World) (hB : InB w a len cap bs) (hK : RowZ w ka kn kc ks) (h : 500 < len ∨ (¬ 500 < len ∧ 30 < kn)) :
    Calls Try.prog 4 #[.slice a len cap, .slice ka kn kc, .slice na nn nc] w fun e w' => e = .returned (.bool true) ∧ Below w.heap.size w w' := by
  obtain ⟨hb0, hc0, hc1, _⟩ := two_at w (.slice ka kn kc) (.slice na nn nc) 49 49
  have hlen : len ≤ maxLen := Nat.le_trans hB.2.1 hB.2.2.1
  have hkn : kn ≤ maxLen := Nat.le_trans hK.2.1 hK.2.2.1
  unfold maxLen at hlen hkn
  clear hB hK
  rcases h with h | ⟨h1, h⟩
  · have d1 : decide ((len : Int) > 500) = true := by simp; omega
    go_enter Try.func4, Try.ntmps4
    go_wp2_with fail
    refine (laid_any _).mono ?_
    rintro e w1 ⟨rfl, hb1⟩
    have HB1 := Lib.hid (bel_trans hb0 hb1)
    clear hb1 hb0 hc0 hc1
    go_wp2_with fail
    refine (laid_any _).mono ?_
    rintro e w2 ⟨rfl, hb2⟩
    have hb02 := bel_trans HB1.out hb2
    go_wp2
    go_ret
    exact ⟨rfl, hb02⟩
  · have d1 : decide ((len : Int) > 500) = false := by simp; omega
    have d2 : decide ((kn : Int) > 30) = true := by simp; omega
    go_enter Try.func4, Try.ntmps4
    go_wp2_with fail
    refine (laid_any _).mono ?_
    rintro e w1 ⟨rfl, hb1⟩
    have HB1 := Lib.hid (bel_trans hb0 hb1)
    have hk1 := cell_bel hb1 hc0
    clear hb1 hb0 hc0 hc1
    go_wp2_with fail
    refine (laid_any _).mono ?_
    rintro e w2 ⟨rfl, hb2⟩
    have hb02 := bel_trans HB1.out hb2
    go_wp2
    go_ret
    exact ⟨rfl, hb02⟩
set_option maxRecDepth 100000 in
set_option maxHeartbeats 4000000 in
theorem cursorEnds_walk (a : Option Addr) (len cap : Nat) (bs : List Nat) (ka : Option Addr) (kn kc : Nat) (ks : List Int) (na : Option Addr) (nn nc : Nat) (ns : List Int) (w : World) (hB : InB w a len cap bs) (hK : RowZ w ka kn kc ks) (hN : RowZ w na nn nc ns) :
    Calls Try.prog 4 #[.slice a len cap, .slice ka kn kc, .slice na nn nc] w fun e w' => e = .returned (.bool true) ∧ Below w.heap.size w w' := by
  by_cases h : 500 < len ∨ (¬ 500 < len ∧ 30 < kn)
  · exact cursorEnds_big a len cap bs ka kn kc ks na nn nc w hB hK h
  have hl5 : len ≤ 500 := by omega
  have hk3 : kn ≤ 30 := by omega
  have d1 : decide ((len : Int) > 500) = false := by simp; omega
  have d2 : decide ((kn : Int) > 30) = false := by simp; omega
  obtain ⟨hb0, hc0, hc1, hz0⟩ := two_at w (.slice ka kn kc) (.slice na nn nc) 49 49
  have HBY := Lib.hid hB
  have HK := Lib.hid hK
  have HN := Lib.hid hN
  obtain ⟨A, hA⟩ : ∃ A, goes ns 0 ks bs = A := ⟨_, rfl⟩
  have HA := Lib.hid hA
  have hkc : kn ≤ kc ∧ kc ≤ maxLen := ⟨hK.2.1, hK.2.2.1⟩
  have hnc : nn ≤ nc ∧ nc ≤ maxLen := ⟨hN.2.1, hN.2.2.1⟩
  have hbc : len ≤ cap ∧ cap ≤ maxLen := ⟨hB.2.1, hB.2.2.1⟩
  unfold maxLen at hkc hnc hbc
  obtain ⟨hkc1, hkc2⟩ := hkc
  obtain ⟨hnc1, hnc2⟩ := hnc
  obtain ⟨hbc1, hbc2⟩ := hbc
  clear h hB hK hN hA
  go_enter Try.func4, Try.ntmps4
  go_wp2_with fail
  refine (laid_any _).mono ?_
  rintro e w1 ⟨rfl, hb1⟩
  have hb01 := bel_trans hb0 hb1
  have hk1 := cell_bel hb1 hc0
  have hn1 := cell_bel hb1 hc1
  have hz1 := hb1.size
  have HB01 := Lib.hid hb01
  rw [hz0] at hz1
  clear hb0 hb1 hc0 hc1 hb01 hz0
  go_wp2_with fail
  obtain ⟨ak, hak⟩ : ∃ ak, ak = w.heap.size := ⟨_, rfl⟩
  rw [← hak] at hk1 hn1 hz1 ⊢
  have HAK := Lib.hid hak
  clear hak
  go_loop [7, 8, 9] (fun av okv iv => ∃ (k at' : Nat) (ok : Bool), k ≤ kn ∧ iv = .int .i64 (k : Int) ∧ av = .int .i64 (at' : Int) ∧ okv = .bool ok ∧ at' ≤ len ∧ Hid (Stood ns ks bs A len k at' ok)) (fun _ _ i => kn - (intOf i).toNat)
  case atStart => exact ⟨0, 0, true, by omega, rfl, rfl, rfl, by omega, Lib.hid ⟨by omega, .inl ⟨rfl, by rw [List.drop_zero, List.drop_zero]; exact HA.out⟩⟩⟩
  case round =>
    obtain ⟨k, at', ok, hk, rfl, rfl, rfl, hat, HS⟩ := hrel
    have hkI0 : (0 : Int) ≤ (k : Int) := by omega
    have hatI0 : (0 : Int) ≤ (at' : Int) := by omega
    have hbl : Hid (bs.length = len) := HBY.out.1.1
    by_cases hgo : k < kn ∧ ok = true
    · obtain ⟨hlt, rfl⟩ := hgo
      have hkI : (k : Int) < (kn : Int) := by omega
      have hlk : k < ks.length := by have := HK.out.1; omega
      obtain ⟨b, off, hka, hcK, hK1, hK2⟩ := rowZ_at (rowZ_below HK.out HB01.out) hlt
      obtain ⟨K, hKe⟩ : ∃ K, ks.getD k 0 = K := ⟨_, rfl⟩
      rw [hKe] at hcK hK1 hK2
      have HKE := Lib.hid hKe
      have HLK := Lib.hid hlk
      have HKA := Lib.hid hka
      rw [hka] at hk1
      clear hka hKe hlk
      rw [HKA.out]
      by_cases k1 : K = 1
      · subst k1
        have hnd : need (ks.getD k 0) (ns.getD k 0) (bs.drop at') = ((1 : Nat) : Int) := by rw [HKE.out]; rfl
        by_cases hf : at' + 1 ≤ len
        · have HF := Lib.hid (stood_fit HS.out hbl.out HLK.out hnd hf)
          have hfi : (1 : Int) ≤ (len : Int) - (at' : Int) := by omega
          clear hnd
          go_wp2_with fail
          exact ⟨⟨k + 1, at' + 1, true, by omega, by go_num, by go_num, rfl, by omega, HF⟩, by simp [intOf]; omega⟩
        · have HF := Lib.hid (stood_out HS.out hbl.out HLK.out hnd (.inr (by omega)))
          have hfi : ¬ (1 : Int) ≤ (len : Int) - (at' : Int) := by omega
          clear hnd
          go_wp2_with fail
          exact ⟨⟨k + 1, at', false, by omega, by go_num, by go_num, rfl, by omega, HF⟩, by simp [intOf]; omega⟩
      by_cases k2 : K = 2
      · subst k2
        have hnd : need (ks.getD k 0) (ns.getD k 0) (bs.drop at') = ((2 : Nat) : Int) := by rw [HKE.out]; rfl
        by_cases hf : at' + 2 ≤ len
        · have HF := Lib.hid (stood_fit HS.out hbl.out HLK.out hnd hf)
          have hfi : (2 : Int) ≤ (len : Int) - (at' : Int) := by omega
          clear hnd
          go_wp2_with fail
          exact ⟨⟨k + 1, at' + 2, true, by omega, by go_num, by go_num, rfl, by omega, HF⟩, by simp [intOf]; omega⟩
        · have HF := Lib.hid (stood_out HS.out hbl.out HLK.out hnd (.inr (by omega)))
          have hfi : ¬ (2 : Int) ≤ (len : Int) - (at' : Int) := by omega
          clear hnd
          go_wp2_with fail
          exact ⟨⟨k + 1, at', false, by omega, by go_num, by go_num, rfl, by omega, HF⟩, by simp [intOf]; omega⟩
      by_cases k4 : K = 4
      · subst k4
        have hnd : need (ks.getD k 0) (ns.getD k 0) (bs.drop at') = ((4 : Nat) : Int) := by rw [HKE.out]; rfl
        by_cases hf : at' + 4 ≤ len
        · have HF := Lib.hid (stood_fit HS.out hbl.out HLK.out hnd hf)
          have hfi : (4 : Int) ≤ (len : Int) - (at' : Int) := by omega
          clear hnd
          go_wp2_with fail
          exact ⟨⟨k + 1, at' + 4, true, by omega, by go_num, by go_num, rfl, by omega, HF⟩, by simp [intOf]; omega⟩
        · have HF := Lib.hid (stood_out HS.out hbl.out HLK.out hnd (.inr (by omega)))
          have hfi : ¬ (4 : Int) ≤ (len : Int) - (at' : Int) := by omega
          clear hnd
          go_wp2_with fail
          exact ⟨⟨k + 1, at', false, by omega, by go_num, by go_num, rfl, by omega, HF⟩, by simp [intOf]; omega⟩
      by_cases k8 : K = 8
      · subst k8
        have hnd : need (ks.getD k 0) (ns.getD k 0) (bs.drop at') = ((8 : Nat) : Int) := by rw [HKE.out]; rfl
        by_cases hf : at' + 8 ≤ len
        · have HF := Lib.hid (stood_fit HS.out hbl.out HLK.out hnd hf)
          have hfi : (8 : Int) ≤ (len : Int) - (at' : Int) := by omega
          clear hnd
          go_wp2_with fail
          exact ⟨⟨k + 1, at' + 8, true, by omega, by go_num, by go_num, rfl, by omega, HF⟩, by simp [intOf]; omega⟩
        · have HF := Lib.hid (stood_out HS.out hbl.out HLK.out hnd (.inr (by omega)))
          have hfi : ¬ (8 : Int) ≤ (len : Int) - (at' : Int) := by omega
          clear hnd
          go_wp2_with fail
          exact ⟨⟨k + 1, at', false, by omega, by go_num, by go_num, rfl, by omega, HF⟩, by simp [intOf]; omega⟩
      by_cases k3 : K = 3
      · subst k3
        obtain ⟨n, hn⟩ : ∃ n, ns.getD k 0 = n := ⟨_, rfl⟩
        have hnd : need (ks.getD k 0) (ns.getD k 0) (bs.drop at') = n := by rw [HKE.out, hn]; rfl
        have HND := Lib.hid hnd
        by_cases hkn2 : k < nn
        · obtain ⟨b2, off2, hna, hcN, hN1, hN2⟩ := rowZ_at (rowZ_below HN.out HB01.out) hkn2
          have HNA := Lib.hid hna
          rw [hn] at hcN hN1 hN2
          rw [hna] at hn1
          have hkI2 : (k : Int) < (nn : Int) := by omega
          clear hna hnd hn
          rw [HNA.out]
          by_cases hn0 : n < 0
          · have HF := Lib.hid (stood_out HS.out hbl.out HLK.out HND.out (.inl hn0))
            have hn9 : ¬ (0 : Int) ≤ n := by omega
            go_wp2_with fail
            exact ⟨⟨k + 1, at', false, by omega, by go_num, by go_num, rfl, by omega, HF⟩, by simp [intOf]; omega⟩
          · have hn9 : (0 : Int) ≤ n := by omega
            obtain ⟨m, rfl⟩ : ∃ m : Nat, n = (m : Int) := ⟨n.toNat, by omega⟩
            by_cases hf : at' + m ≤ len
            · have HF := Lib.hid (stood_fit HS.out hbl.out HLK.out HND.out hf)
              have hfi : (m : Int) ≤ (len : Int) - (at' : Int) := by omega
              clear hn0
              go_wp2_with fail
              exact ⟨⟨k + 1, at' + m, true, by omega, by go_num, by go_num, rfl, by omega, HF⟩, by simp [intOf]; omega⟩
            · have HF := Lib.hid (stood_out HS.out hbl.out HLK.out HND.out (.inr (by omega)))
              have hfi : ¬ (m : Int) ≤ (len : Int) - (at' : Int) := by omega
              clear hn0
              go_wp2_with fail
              exact ⟨⟨k + 1, at', false, by omega, by go_num, by go_num, rfl, by omega, HF⟩, by simp [intOf]; omega⟩
        · have hn0 : n = 0 := by rw [← hn]; simp [List.getD, show ns[k]? = none from List.getElem?_eq_none (by have := HN.out.1; omega)]
          subst hn0
          have hkI2 : ¬ (k : Int) < (nn : Int) := by omega
          have HF := Lib.hid (stood_fit (m := 0) HS.out hbl.out HLK.out HND.out (by omega))
          have hfi : (0 : Int) ≤ (len : Int) - (at' : Int) := by omega
          clear hnd hn
          go_wp2_with fail
          exact ⟨⟨k + 1, at' + 0, true, by omega, by go_num, by go_num, rfl, by omega, HF⟩, by simp [intOf]; omega⟩
      by_cases k5 : K = 5
      · subst k5
        obtain ⟨m, hm⟩ : ∃ m, (bs.drop at').getD 0 0 = m := ⟨_, rfl⟩
        have hnd : need (ks.getD k 0) (ns.getD k 0) (bs.drop at') = ((1 + m : Nat) : Int) := by rw [HKE.out, ← hm]; simp [need]
        have hm2 : bs.getD at' 0 = m := by rw [← hm]; simp [List.getD, List.getElem?_drop]
        have HND := Lib.hid hnd
        by_cases hal : at' < len
        · obtain ⟨b2, off2, ha2, hcB⟩ := (row_keep HBY.out.1 HB01.out (Nat.le_refl _)).2.2 (by omega)
          have hcb := hcB at' hal
          have hm8 : m < 256 := by rw [← hm2, getD_in _ _ (by have := hbl.out; omega)]; exact HBY.out.1.2.1 _ (List.getElem_mem _)
          rw [hm2] at hcb
          have HA2 := Lib.hid ha2
          rw [HA2.out]
          have hali : (at' : Int) < (len : Int) := by omega
          clear ha2 hcB hm2 hm hnd
          by_cases hf : at' + (1 + m) ≤ len
          · have HF := Lib.hid (stood_fit HS.out hbl.out HLK.out HND.out hf)
            have hfi : (1 : Int) + (m : Int) ≤ (len : Int) - (at' : Int) := by omega
            have hf0 : (0 : Int) ≤ 1 + (m : Int) := by omega
            go_wp2_with fail
            exact ⟨⟨k + 1, at' + (1 + m), true, by omega, by go_num, by go_num, rfl, by omega, HF⟩, by simp [intOf]; omega⟩
          · have HF := Lib.hid (stood_out HS.out hbl.out HLK.out HND.out (.inr (by omega)))
            have hfi : ¬ (1 : Int) + (m : Int) ≤ (len : Int) - (at' : Int) := by omega
            have hf0 : (0 : Int) ≤ 1 + (m : Int) := by omega
            go_wp2_with fail
            exact ⟨⟨k + 1, at', false, by omega, by go_num, by go_num, rfl, by omega, HF⟩, by simp [intOf]; omega⟩
        · have HF := Lib.hid (stood_out HS.out hbl.out HLK.out HND.out (.inr (by omega)))
          have hali : ¬ (at' : Int) < (len : Int) := by omega
          have hfi : ¬ (1 : Int) ≤ (len : Int) - (at' : Int) := by omega
          clear hm2 hm hnd
          go_wp2_with fail
          exact ⟨⟨k + 1, at', false, by omega, by go_num, by go_num, rfl, by omega, HF⟩, by simp [intOf]; omega⟩
      have e1 : (K == 1) = false := by simpa using k1
      have e2 : (K == 2) = false := by simpa using k2
      have e3 : (K == 3) = false := by simpa using k3
      have e4 : (K == 4) = false := by simpa using k4
      have e5 : (K == 5) = false := by simpa using k5
      have e8 : (K == 8) = false := by simpa using k8
      have HF := Lib.hid (stood_fit (m := 0) HS.out hbl.out HLK.out (by rw [HKE.out]; simp [need, k1, k2, k3, k4, k5, k8]) (by omega))
      have hfi : (0 : Int) ≤ (len : Int) - (at' : Int) := by omega
      clear k1 k2 k3 k4 k5 k8
      go_wp2_with fail
      exact ⟨⟨k + 1, at' + 0, true, by omega, by go_num, by go_num, rfl, by omega, HF⟩, by simp [intOf]; omega⟩
    · have hkl : ks.length = kn := HK.out.1
      have hatb : bs.length = len := hbl.out
      obtain ⟨hbel7, hv7, hz7⟩ := three_new w1 ak ka kn kc na nn nc hk1 hn1
      have h57 : Below w.heap.size w _ := bel_trans HB01.out hbel7
      have HV7 := Lib.hid hv7
      have HZ7 := Lib.hid hz7
      have H57 := Lib.hid h57
      have hcall : ∀ (args : Array Value) (wx : World), (callFunc 22 args).run Try.prog wx = .ok (.enter 22 args) wx := fun args wx => by simp [go_sem]
      have hmf : ∀ (fn : Fn) (first cap : Array Value) (w : World), (Instr.makeFunc fn first cap).run Try.prog w = .ok (.func fn first cap) w := fun _ _ _ _ => rfl
      cases ok
      · have hAn : A = none := by rcases HS.out.2 with ⟨h, _⟩ | ⟨_, h⟩; cases h; exact h
        subst hAn
        have hrd := endsRead_none HBY.out HK.out HN.out hk3 hl5 HA.out HAK.out hz1 hv7 hz7 h57
        unfold w7Of at hrd
        have HRD := Lib.hid hrd
        clear hbel7 hv7 hz7 h57 hrd
        rcases Nat.lt_or_ge k kn with hlt | hlt
        all_goals
          have hki : (k : Int) < (kn : Int) ∨ ¬ (k : Int) < (kn : Int) := by omega
          clear hgo
          go_wp2_with fail
          with_reducible refine HRD.out.mono ?_
          rintro e w2 ⟨rfl, hb2, ⟨i, hi, c1⟩, c2, c3⟩
          have hii : (i : Int) < (kn : Int) := by omega
          have HB2 := Lib.hid hb2
          clear hb2 hk1 hn1
          go_wp2_with fail
          go_ret
          exact ⟨rfl, HB2.out⟩
      · have hke : k = kn := by
          rcases Nat.lt_or_ge k kn with h | h
          · exact absurd ⟨h, rfl⟩ hgo
          · omega
        subst hke
        have hAs : A = some (bs.drop at') := by
          rcases HS.out.2 with ⟨_, h⟩ | ⟨h, _⟩
          · rw [← h]; exact goes_end ns ks k _ (by omega)
          · cases h
        have hrl : (((bs.drop at').length : Nat) : Int) = IntKind.i64.wrap ((len : Int) - (at' : Int)) := by rw [List.length_drop, IntKind.wrap_i64]; omega
        have hA2 := HA.out
        rw [hAs] at hA2
        have hrd := endsRead_some HBY.out HK.out HN.out hk3 hl5 hA2 HAK.out hz1 hv7 hz7 h57
        rw [hrl] at hrd
        unfold w7Of at hrd
        have HRD := Lib.hid hrd
        obtain ⟨z, hzz⟩ : ∃ z, zeros (bs.drop at') = z := ⟨_, rfl⟩
        have HZZ := Lib.hid hzz
        have hli : ¬ (k : Int) < (k : Int) := by omega
        have htl := run_tail a len cap at' hat
        clear hbel7 hv7 hz7 h57 hgo hAs hrl hA2 hrd hzz
        go_wp2_with fail
        with_reducible refine HRD.out.mono ?_
        rintro e w2 ⟨rfl, hb2, c1, c2, c4, c3⟩
        rw [HZZ.out] at c4
        have HB2 := Lib.hid hb2
        have hrow := row_tail (c := cap) (k := at') (row_keep HBY.out.1 hb2 (Nat.le_refl _)) hbc1
        have hiz := fun w (h : Row w (tailA a cap at') (len - at') (bs.drop at')) => refIsZero_any (c := cap - at') h (by omega)
        simp only [HZZ.out] at hiz
        have HIZ := Lib.hid hiz
        have HROW := Lib.hid hrow
        clear hb2 hk1 hn1 hiz hrow HRD
        go_wp2_with fail
        go_region_held3 (fun w' => w'.cell? ⟨ak, 0, none⟩ = some (.slice ka k kc) ∧ w'.cell? ⟨w1.heap.size, 0, none⟩ = some (.int .i64 (k : Int)) ∧ w'.cell? ⟨w1.heap.size + 1, 0, none⟩ = some (.int .i64 (IntKind.i64.wrap ((len : Int) - (at' : Int)))) ∧ w'.cell? ⟨w1.heap.size + 1 + 1, 0, none⟩ = some (.bool z)) (first | exact hS1 | go_keep)
          (first
            | (go_simp; go_at_call 24; ((with_reducible refine (HIZ.out _ ?_).mono ?_)); (· exact HROW.out); (rintro e w3 ⟨rfl, hb3⟩; have hS1 := And.intro (cell_bel hb3 c3) (And.intro (cell_bel hb3 c1) (And.intro (cell_bel hb3 c2) (cell_bel hb3 c4))))))
        have hb03 := bel_trans (bel_trans HB2.out ((Below.refl _ _).drew)) hb3
        go_wp2
        go_ret
        exact ⟨rfl, hb03⟩

end Go.Proofs.Ytejhdafipjajnaa
