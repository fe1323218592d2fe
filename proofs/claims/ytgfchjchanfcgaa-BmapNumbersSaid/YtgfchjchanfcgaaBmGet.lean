/- bmap.Get. -/
import Derived.Test.YtgfchjchanfcgaaBmSet
namespace Go.Proofs.Ytgfchjchanfcgaa
open Go.RowKit

theorem numG_keeps {w W W0 W1 : World} {pr pg c k : Nat} {bs : List Nat} {v : Value} {e : Ending} (h : NumRet W pr pg c bs k v e W1) (hb : Below w.heap.size w W) (hp : w.heap.size ≤ pr) (hi : Inner w.heap.size W0 pr W) :
    e = .returned v ∧ Below w.heap.size w W1 ∧ Inner w.heap.size W0 pr W1 := by
  obtain ⟨a2, rfl, rfl, hrd⟩ := h
  refine ⟨rfl, hb.setCell (p := ⟨pr, 0, none⟩) hp _, by simp [World.setCell]; exact hi.1, fun k h1 h2 h3 => ?_⟩
  rw [Below.heap_setCell _ _ _ _ h3]
  exact hi.2 k h1 h2 h3
theorem innerG_set {w W W1 : World} {pr z : Nat} (h : Inner w.heap.size W pr W1) (hz : z < w.heap.size) (v : Value) : Inner w.heap.size W pr (W1.setCell ⟨z, 0, none⟩ v) := by
  refine ⟨by simp [World.setCell]; exact h.1, fun k h1 h2 h3 => ?_⟩
  rw [Below.heap_setCell _ _ _ _ (by show k ≠ z; omega)]
  exact h.2 k h1 h2 h3
/-- What a function that tells one thing leaves: one variable of the caller's is set. -/
def SetG (w : World) (z : Nat) (v : Value) (W : World) : Prop := ∃ W2, Below w.heap.size w W2 ∧ W = W2.setCell ⟨z, 0, none⟩ v
set_option maxHeartbeats 400000 in
theorem getBy (aV : Nat) (vz : Value) (w : World) (bs : List Nat) (hZ : w.cell? ⟨aV, 0, none⟩ = some vz) (hF : w.frozen? ⟨aV, 0, none⟩ = false) (hl : bs.length = 4) :
    ByOk 24 #[.pointer (some ⟨aV, 0, none⟩)] bs w (SetG w aV (.int .u32 ((leVal bs : Nat) : Int))) := by
  intro W pr pg a c hrd hb hp3
  have hp : w.heap.size ≤ pr := by omega
  have ltZ : aV < w.heap.size := World.block_lt_of_cell? w ⟨aV, 0, none⟩ hZ
  have hT : bs.take 4 = bs := List.take_of_length_le (by omega)
  have HRD := Lib.hid (rU32_ok hrd (by omega))
  rw [hT] at HRD
  have HI : Hid (Inner w.heap.size W pr W) := Lib.hid ⟨Nat.le_refl _, fun _ _ _ _ => rfl⟩
  obtain ⟨m, hm⟩ : ∃ m, m = leVal bs := ⟨_, rfl⟩
  rw [← hm] at HRD ⊢
  have HB := Lib.hid hb
  clear hrd hb hT hm hl
  show Calls Try.prog _ #[.pointer (some ⟨pr, 0, none⟩), .pointer (some ⟨aV, 0, none⟩)] W _
  go_enter Try.func24, Try.ntmps24
  go_wp2_with fail
  ((with_reducible refine HRD.out.mono ?_))
  intro e w1 h1
  obtain ⟨rfl, hb1, hi1⟩ := numG_keeps h1 HB.out hp HI.out
  clear h1
  have hZ2 := hb1.cell (p := ⟨aV, 0, none⟩) ltZ
  have hF2 := hb1.frozen (p := ⟨aV, 0, none⟩) ltZ
  rw [hZ] at hZ2
  rw [hF] at hF2
  go_wp2
  go_end0
  exact ⟨rfl, innerG_set hi1 ltZ _, w1, hb1, rfl⟩
set_option maxHeartbeats 800000 in
theorem get_no (a : Option Addr) (len cap : Nat) (i : Int) (w : World) (hl : len ≤ 100000) (hi : i < 0 ∨ ((len / 4 : Nat) : Int) ≤ i) :
    Calls Try.prog 12 #[.slice a len cap, .int .i64 i] w fun e w' => e = .returned (.int .u32 0) ∧ Below w.heap.size w w' := by
  have HH := Lib.hid fun x : World => has_no a len cap i x (by omega) hi
  have hc := cell_new1 w (.int .u32 0) 23
  clear hi
  go_enter Try.func12, Try.ntmps12
  go_wp2_with fail
  ((with_reducible refine (HH.out _).mono ?_))
  rintro e w2 ⟨rfl, rfl⟩
  go_wp2_with fail
  go_ret
  exact ⟨rfl, bel_alloc (Below.refl _ _) _⟩
theorem row_mid {w : World} {b off n : Nat} {bs : List Nat} (h : Row w (some ⟨b, off, none⟩) n bs) (k m : Nat) (hk : k + m ≤ n) : Row w (some ⟨b, off + k, none⟩) m ((bs.drop k).take m) :=
  rowR_front (rowR_suffix h k (by omega)) m (by omega)
set_option maxRecDepth 100000 in
set_option maxHeartbeats 1600000 in
theorem get_yes (a : Option Addr) (len cap : Nat) (bs : List Nat) (i : Nat) (w : World) (hr : Row w a len bs) (hlc : len ≤ cap) (hcm : cap ≤ maxLen) (hl : len ≤ 100000) (hi : i < len / 4) :
    Calls Try.prog 12 #[.slice a len cap, .int .i64 (i : Int)] w fun e w' => e = .returned (.int .u32 ((leVal ((bs.drop (4 * i)).take 4) : Nat) : Int)) ∧ Below w.heap.size w w' := by
  unfold maxLen at hcm
  have HH := Lib.hid fun x : World => has_yes a len cap i x (by omega) hi
  obtain ⟨b, off, rfl, -⟩ := hr.2.2 (by omega)
  obtain ⟨W, hW⟩ : ∃ x, x = w.alloc (.cells #[.int .u32 0] 23) := ⟨_, rfl⟩
  obtain ⟨p, hp⟩ : ∃ x, x = w.heap.size := ⟨_, rfl⟩
  have hB : Below w.heap.size w W := by rw [hW]; exact bel_alloc (Below.refl _ _) _
  have hh : W.heap[p]? = some (.cells #[.int .u32 0] 23 (0, 0)) := by rw [hW, hp]; exact heap_alloc_new _ _
  obtain ⟨q, hq⟩ : ∃ q, q = 4 * i := ⟨_, rfl⟩
  have h4 : q + 4 ≤ len := by omega
  have hrw := row_mid (row_keep hr hB (Nat.le_refl _)) q 4 h4
  have hml : ((bs.drop q).take 4).length = 4 := by rw [List.length_take, List.length_drop, hr.1]; omega
  have hf : W.frozen? ⟨p, 0, none⟩ = false := by simp [World.frozen?, hh]
  have HR := Lib.hid (read_ok (some ⟨b, off + q, none⟩) 4 (cap - q) ((bs.drop q).take 4) 24 #[.pointer (some ⟨p, 0, none⟩)] W (SetG W p (.int .u32 ((leVal ((bs.drop q).take 4) : Nat) : Int))) hrw (fun h => by cases h) (by omega) (fun _ _ => rfl) (getBy p _ W _ (cell_of_heap1 hh) hf hml))
  rw [← hq]
  obtain ⟨m, hm⟩ : ∃ m, m = leVal ((bs.drop q).take 4) := ⟨_, rfl⟩
  rw [← hm] at HR ⊢
  have HHP := Lib.hid hh
  have HB := Lib.hid hB
  have HP := Lib.hid hp
  have u0 : (4 : Int) * (i : Int) = (q : Int) := by omega
  have u1 : (4 : Int) * ((i : Int) + 1) = ((q + 4 : Nat) : Int) := by omega
  have u2 : IntKind.i64.wrap (q : Int) = (q : Int) := by rw [IntKind.wrap_i64]; omega
  have u3 : IntKind.i64.wrap ((q + 4 : Nat) : Int) = ((q + 4 : Nat) : Int) := by rw [IntKind.wrap_i64]; omega
  have u4 : IntKind.i64.wrap ((i : Int) + 1) = (i : Int) + 1 := by rw [IntKind.wrap_i64]; omega
  have u5 : (0 : Int) ≤ (q : Int) := by omega
  have u6 : (q : Int) ≤ ((q + 4 : Nat) : Int) := by omega
  have u7 : ((q + 4 : Nat) : Int) ≤ (cap : Int) := by omega
  have u8 : ¬ cap = q := by omega
  have u9 : q + 4 - q = 4 := by omega
  clear hh hB hp hm hrw hml hf hr hq
  go_enter Try.func12, Try.ntmps12
  go_wp2_with fail
  rw [← hW, ← HP.out]
  clear hW
  ((with_reducible refine (HH.out _).mono ?_))
  rintro e w2 ⟨rfl, rfl⟩
  go_wp2_with fail
  ((with_reducible refine HR.out.mono ?_))
  rintro e w5 ⟨rfl, w4, ⟨w3, h3, rfl⟩, h5, -⟩
  have hp : w.heap.size ≤ p := by rw [HP.out]; exact Nat.le_refl _
  have hpl : p < w2.heap.size := (Array.getElem?_eq_some_iff.1 HHP.out).1
  have c3 := cell_of_heap1 ((h3.block p hpl).trans HHP.out)
  have c4 : (w3.setCell ⟨p, 0, none⟩ (.int .u32 (m : Int))).cell? ⟨p, 0, none⟩ = some (.int .u32 (m : Int)) := by simp [go_sem, c3]
  have c5 : w5.cell? ⟨p, 0, none⟩ = some (.int .u32 (m : Int)) := (h5.cell (p := ⟨p, 0, none⟩) hpl).trans c4
  have HB5 : Hid (Below w.heap.size w w5) := Lib.hid (((HB.out.trans (h3.mono HB.out.size)).setCell (p := ⟨p, 0, none⟩) hp _).trans (h5.mono HB.out.size))
  clear h3 h5 c3 c4 hp hpl
  go_wp2_with fail
  go_ret
  exact ⟨rfl, HB5.out⟩
end Go.Proofs.Ytgfchjchanfcgaa
