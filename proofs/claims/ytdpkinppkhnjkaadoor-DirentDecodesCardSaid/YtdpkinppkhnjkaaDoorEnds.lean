/- CursorEnds: what is asked of the reader, plain; noughts. -/
import Derived.Test.YtdpkinppkhnjkaaDoorReadDies
import Derived.Test.YtdpkinppkhnjkaaDoorSets
namespace Go.Proofs.YtdpkinppkhnjkaaDoor
open Go.RowKit

/-- How many bytes an item takes. -/
def need (k n : Int) (bs : List Nat) : Int :=
  if k = 1 then 1 else if k = 2 then 2 else if k = 3 then n else if k = 4 then 4 else if k = 5 then 1 + (bs.getD 0 0 : Nat) else if k = 8 then 8 else 0
def fits (m : Int) (bs : List Nat) : Bool := decide (0 ≤ m) && decide (m ≤ (bs.length : Int))
/-- What is left behind all items; none: more is taken than there is. -/
def goes (ns : List Int) : Nat → List Int → List Nat → Option (List Nat)
  | _, [], bs => some bs
  | i, k :: ks, bs => if fits (need k (ns.getD i 0) bs) bs then goes ns (i + 1) ks (bs.drop (need k (ns.getD i 0) bs).toNat) else none
theorem goes_end (ns ks : List Int) (i : Nat) (bs : List Nat) (h : ks.length ≤ i) : goes ns i (ks.drop i) bs = some bs := by
  rw [List.drop_of_length_le h, goes]
theorem goes_step (ns ks : List Int) {i : Nat} (bs : List Nat) (h : i < ks.length) :
    goes ns i (ks.drop i) bs = if fits (need (ks.getD i 0) (ns.getD i 0) bs) bs then goes ns (i + 1) (ks.drop (i + 1)) (bs.drop (need (ks.getD i 0) (ns.getD i 0) bs).toNat) else none := by
  have hg : ks.getD i 0 = ks[i] := by simp [List.getD, h]
  rw [List.drop_eq_getElem_cons h, goes, hg]
theorem goes_fit {ns ks : List Int} {i : Nat} {bs : List Nat} {A : Option (List Nat)} (hA : goes ns i (ks.drop i) bs = A) (h : i < ks.length) {m : Nat} (hm : need (ks.getD i 0) (ns.getD i 0) bs = (m : Int)) (hf : m ≤ bs.length) : goes ns (i + 1) (ks.drop (i + 1)) (bs.drop m) = A := by
  rw [goes_step ns ks bs h, hm, if_pos (by unfold fits; simp; omega)] at hA
  exact hA
theorem goes_out {ns ks : List Int} {i : Nat} {bs : List Nat} {A : Option (List Nat)} (hA : goes ns i (ks.drop i) bs = A) (h : i < ks.length) {m : Int} (hm : need (ks.getD i 0) (ns.getD i 0) bs = m) (hf : m < 0 ∨ (bs.length : Int) < m) : A = none := by
  rw [goes_step ns ks bs h, hm, if_neg (by unfold fits; simp; omega)] at hA
  exact hA.symm

/-- A slice of ints that is read. -/
def RowZ (w : World) (a : Option Addr) (len cap : Nat) (zs : List Int) : Prop :=
  zs.length = len ∧ len ≤ cap ∧ cap ≤ maxLen ∧ (a = none → cap = 0) ∧ (∀ z ∈ zs, -9223372036854775808 ≤ z ∧ z ≤ 9223372036854775807) ∧ (0 < len → ∃ b off, a = some ⟨b, off, none⟩ ∧ ∀ i, i < len → w.cell? ⟨b, off + i, none⟩ = some (.int .i64 (zs.getD i 0)))
theorem rowZ_below {w w' : World} {a : Option Addr} {len cap : Nat} {zs : List Int} (h : RowZ w a len cap zs) (hb : Below w.heap.size w w') : RowZ w' a len cap zs := by
  obtain ⟨h1, h2, h3, h4, h5, h6⟩ := h
  refine ⟨h1, h2, h3, h4, h5, fun h0 => ?_⟩
  obtain ⟨b, off, e, hc⟩ := h6 h0
  exact ⟨b, off, e, fun i hi => cell_bel hb (hc i hi)⟩
theorem rowZ_at {w : World} {a : Option Addr} {len cap k : Nat} {zs : List Int} (h : RowZ w a len cap zs) (hk : k < len) :
    ∃ b off, a = some ⟨b, off, none⟩ ∧ w.cell? ⟨b, off + k, none⟩ = some (.int .i64 (zs.getD k 0)) ∧ -9223372036854775808 ≤ zs.getD k 0 ∧ zs.getD k 0 ≤ 9223372036854775807 := by
  obtain ⟨h1, h2, h3, h4, h5, h6⟩ := h
  obtain ⟨b, off, e, hc⟩ := h6 (by omega)
  have hm : zs.getD k 0 ∈ zs := by simp [List.getD, show k < zs.length by omega]
  exact ⟨b, off, e, hc k hk, h5 _ hm⟩

def zeros (bs : List Nat) : Bool := bs.all (· == 0)
theorem zeros_drop {bs : List Nat} {k : Nat} (h : k < bs.length) : zeros (bs.drop k) = ((bs.getD k 0 == 0) && zeros (bs.drop (k + 1))) := by
  unfold zeros
  rw [List.drop_eq_getElem_cons h, List.all_cons, getD_in _ _ h]
set_option maxHeartbeats 400000 in
theorem rZero_any {w : World} {pr pg c : Nat} {a : Option Addr} {bs : List Nat} (h : RD w pr pg a c bs) :
    Calls Tryd.prog 12 #[.pointer (some ⟨pr, 0, none⟩)] w fun e w' => e = .returned (.bool (zeros bs)) ∧ Below w.heap.size w w' := by
  obtain ⟨h0, h1, h2⟩ := rd_cells h
  have hbs : bs.length ≤ maxLen := by have := h.2.2.2.1; have := h.2.2.2.2.1; omega
  unfold maxLen at hbs
  obtain ⟨z, hz⟩ : ∃ z, zeros bs = z := ⟨_, rfl⟩
  rw [hz]
  have HZ0 : Hid (zeros (bs.drop 0) = z) := by rw [List.drop_zero]; exact hz
  have HH := Lib.hid h
  clear hz h
  go_enter Tryd.func12, Tryd.ntmps12
  go_wp2
  go_loop [12] (fun i => ∃ k : Nat, k ≤ bs.length ∧ i = .int .i64 k ∧ Hid (zeros (bs.drop k) = z)) (fun i => bs.length - (intOf i).toNat)
  case atStart => exact ⟨0, by omega, rfl, HZ0⟩
  case round =>
    obtain ⟨k, hk, rfl, HZ⟩ := hrel
    by_cases hlt : k < bs.length
    · obtain ⟨b, off, rfl, hcl⟩ := HH.out.2.1.2.2 (by omega)
      have hck := hcl k hlt
      have hzd := zeros_drop hlt
      rw [HZ.out] at hzd
      obtain ⟨x, hx⟩ : ∃ x, bs.getD k 0 = x := ⟨_, rfl⟩
      rw [hx] at hck hzd
      have HZD := Lib.hid hzd
      clear hcl hzd hx
      by_cases hx0 : x = 0
      · subst hx0
        have HZ2 : Hid (zeros (bs.drop (k + 1)) = z) := by have := HZD.out; simp at this; exact this.symm
        go_wp2
        go_round
        case rel => exact ⟨k + 1, by omega, by go_num, HZ2⟩
        case measure => simp [intOf]; omega
      · have hxb : ((x : Int) != 0) = true := by rw [bne_iff_ne]; omega
        have hzf : z = false := by
          have := HZD.out
          rw [beq_eq_false_iff_ne.2 hx0, Bool.false_and] at this
          exact this
        subst hzf
        clear hx0
        go_wp2
        go_ret
        exact ⟨rfl, Below.refl _ _⟩
    · have hzt : z = true := by rw [← HZ.out, List.drop_of_length_le (by omega)]; rfl
      subst hzt
      go_wp2
      go_ret
      exact ⟨rfl, Below.refl _ _⟩
set_option maxHeartbeats 400000 in
theorem refIsZero_any {w : World} {a : Option Addr} {n c : Nat} {bs : List Nat} (h : Row w a n bs) (hc : n ≤ 1000000) :
    Calls Tryd.prog 15 #[.slice a n c] w fun e w' => e = .returned (.bool (zeros bs)) ∧ Below w.heap.size w w' := by
  obtain ⟨h1, h2, h3⟩ := h
  obtain ⟨z, hz⟩ : ∃ z, zeros bs = z := ⟨_, rfl⟩
  rw [hz]
  have HZ0 : Hid (zeros (bs.drop 0) = z) := by rw [List.drop_zero]; exact hz
  have HL := Lib.hid h1
  clear hz h1
  go_enter Tryd.func15, Tryd.ntmps15
  go_wp2
  go_loop [3] (fun i => ∃ k : Nat, k ≤ n ∧ i = .int .i64 k ∧ Hid (zeros (bs.drop k) = z)) (fun i => n - (intOf i).toNat)
  case atStart => exact ⟨0, by omega, rfl, HZ0⟩
  case round =>
    obtain ⟨k, hk, rfl, HZ⟩ := hrel
    by_cases hlt : k < n
    · obtain ⟨b, off, rfl, hcl⟩ := h3 (by omega)
      have hck := hcl k hlt
      have hzd := zeros_drop (bs := bs) (k := k) (by have := HL.out; omega)
      rw [HZ.out] at hzd
      obtain ⟨x, hx⟩ : ∃ x, bs.getD k 0 = x := ⟨_, rfl⟩
      rw [hx] at hck hzd
      have HZD := Lib.hid hzd
      have hkn : (k : Int) < (n : Int) := by omega
      have hk0 : (0 : Int) ≤ (k : Int) := by omega
      clear hcl hzd hx
      by_cases hx0 : x = 0
      · subst hx0
        have HZ2 : Hid (zeros (bs.drop (k + 1)) = z) := by have := HZD.out; simp at this; exact this.symm
        go_wp2
        go_round
        case rel => exact ⟨k + 1, by omega, by go_num, HZ2⟩
        case measure => simp [intOf]; omega
      · have hxb : ((x : Int) != 0) = true := by rw [bne_iff_ne]; omega
        have hzf : z = false := by
          have := HZD.out
          rw [beq_eq_false_iff_ne.2 hx0, Bool.false_and] at this
          exact this
        subst hzf
        clear hx0
        go_wp2
        go_ret
        exact ⟨rfl, Below.refl _ _⟩
    · have hzt : z = true := by rw [← HZ.out, List.drop_of_length_le (by have := HL.out; omega)]; rfl
      subst hzt
      go_wp2
      go_ret
      exact ⟨rfl, Below.refl _ _⟩

end Go.Proofs.YtdpkinppkhnjkaaDoor
