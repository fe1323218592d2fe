/- The reader where more is asked of it than there is. -/
import Derived.Test.YtnnaijeapapehaaReaderMore
namespace Go.Proofs.Ytnnaijeapapehaa
open Go.RowKit

/-- A reading in memory. -/
def RG (w : World) (pg : Nat) (sh : Bool) : Prop := w.heap[pg]? = some (.cells #[.bool sh, .bool false] 95 (0, 0))
theorem rg_cells {w : World} {pg : Nat} {sh : Bool} (h : RG w pg sh) : w.cell? ⟨pg, 0, none⟩ = some (.bool sh) ∧ w.frozen? ⟨pg, 0, none⟩ = false := by
  unfold RG at h
  constructor <;> simp [World.cell?, World.frozen?, h]
theorem rg_ne {w : World} {pr pg pg2 c : Nat} {a : Option Addr} {bs : List Nat} {sh : Bool} (h : RD w pr pg2 a c bs) (hg : RG w pg sh) : pr ≠ pg := fun e => by
  subst e
  have h1 := h.1
  unfold RG at hg
  rw [hg] at h1
  cases h1
/-- What a reader gives up with. -/
def outChain (pg : Nat) : List PanicEntry := [{ v := .iface 97 (.agg #[.pointer (some ⟨pg, 0, none⟩)]), recovered := false }]
/-- What is left where a reader gave up. -/
def Died (w : World) (pr pg : Nat) (e : Ending) (w' : World) : Prop :=
  e = .panicked (outChain pg) ∧ RG w' pg true ∧ w.heap.size ≤ w'.heap.size ∧ w'.os = w.os ∧ w'.tape = w.tape ∧ w'.output = w.output ∧ ∀ k, k ≠ pr → k ≠ pg → w'.heap[k]? = w.heap[k]?
theorem rg_set {w : World} {pg : Nat} {sh : Bool} (h : RG w pg sh) : RG (w.setCell ⟨pg, 0, none⟩ (.bool true)) pg true := by
  have hlt : pg < w.heap.size := by
    rcases Nat.lt_or_ge pg w.heap.size with h1 | h1
    · exact h1
    · unfold RG at h; rw [Array.getElem?_eq_none h1] at h; cases h
  unfold RG at h ⊢
  simp [World.setCell, Array.getElem?_modify, h]
theorem died_set {w : World} {pr pg : Nat} {sh : Bool} (hg : RG w pg sh) : Died w pr pg (.panicked (outChain pg)) (w.setCell ⟨pg, 0, none⟩ (.bool true)) :=
  ⟨rfl, rg_set hg, by simp [World.setCell], rfl, rfl, rfl, fun _ _ h2 => Below.heap_setCell _ _ _ _ h2⟩
set_option maxHeartbeats 400000 in
theorem giveUp_dies {w : World} {pr pg c : Nat} {a : Option Addr} {bs : List Nat} {sh : Bool} (h : RD w pr pg a c bs) (hg : RG w pg sh) :
    Calls Try.prog 50 #[.pointer (some ⟨pr, 0, none⟩)] w (Died w pr pg) := by
  obtain ⟨h0, h1, h2⟩ := rd_cells h
  obtain ⟨g0, g1⟩ := rg_cells hg
  have hne := rg_ne h hg
  have h1' : (w.setCell ⟨pg, 0, none⟩ (.bool true)).cell? ⟨pr, 1, none⟩ = some (.pointer (some ⟨pg, 0, none⟩)) := by
    rw [World.cell?_setCell_other _ _ _ _ (fun e => by cases e)]; exact h1
  have HG := Lib.hid hg
  clear h hg hne
  go_enter Try.func50, Try.ntmps50
  go_wp2
  exact ⟨rfl, died_set HG.out⟩
set_option maxHeartbeats 400000 in
theorem take_dies {w : World} {pr pg c : Nat} {a : Option Addr} {bs : List Nat} {sh : Bool} (n : Int) (h : RD w pr pg a c bs) (hg : RG w pg sh) (hn : n < 0 ∨ (0 ≤ n ∧ (bs.length : Int) < n)) :
    Calls Try.prog 48 #[.pointer (some ⟨pr, 0, none⟩), .int .i64 n] w (Died w pr pg) := by
  have HH := Lib.hid h
  have HG := Lib.hid hg
  have hbs : bs.length ≤ maxLen := by have := h.2.2.2.1; have := h.2.2.2.2.1; omega
  unfold maxLen at hbs
  clear h hg
  rcases hn with hn | ⟨hn0, hn⟩
  · go_enter Try.func48, Try.ntmps48
    go_wp2_with fail
    refine (giveUp_dies HH.out HG.out).mono ?_
    rintro e w1 hd
    obtain rfl := hd.1
    exact ⟨rfl, hd⟩
  · go_enter Try.func48, Try.ntmps48
    go_wp2_with fail
    refine (left_ok HH.out).mono ?_
    rintro e w1 ⟨rfl, rfl⟩
    go_wp2_with fail
    refine (giveUp_dies HH.out HG.out).mono ?_
    rintro e w1 hd
    obtain rfl := hd.1
    exact ⟨rfl, hd⟩
set_option maxHeartbeats 400000 in
theorem number_dies {w : World} {pr pg c : Nat} {a : Option Addr} {bs : List Nat} {sh : Bool} (n : Nat) (h : RD w pr pg a c bs) (hg : RG w pg sh) (hn : bs.length < n) :
    Calls Try.prog 47 #[.pointer (some ⟨pr, 0, none⟩), .int .i64 (n : Int)] w (Died w pr pg) := by
  have HD := Lib.hid (take_dies (n : Int) h hg (.inr ⟨by omega, by omega⟩))
  clear h hg hn
  go_enter Try.func47, Try.ntmps47
  go_wp2_with fail
  refine HD.out.mono ?_
  rintro e w1 hd
  obtain rfl := hd.1
  exact ⟨rfl, hd⟩
set_option maxHeartbeats 400000 in
theorem rU8_dies {w : World} {pr pg c : Nat} {a : Option Addr} {bs : List Nat} {sh : Bool} (h : RD w pr pg a c bs) (hg : RG w pg sh) (hn : bs.length < 1) :
    Calls Try.prog 31 #[.pointer (some ⟨pr, 0, none⟩)] w (Died w pr pg) := by
  have HD := Lib.hid (number_dies 1 h hg hn)
  clear h hg hn
  go_enter Try.func31, Try.ntmps31
  go_wp2_with fail
  refine HD.out.mono ?_
  rintro e w1 hd
  obtain rfl := hd.1
  exact ⟨rfl, hd⟩
set_option maxHeartbeats 400000 in
theorem rU16_dies {w : World} {pr pg c : Nat} {a : Option Addr} {bs : List Nat} {sh : Bool} (h : RD w pr pg a c bs) (hg : RG w pg sh) (hn : bs.length < 2) :
    Calls Try.prog 32 #[.pointer (some ⟨pr, 0, none⟩)] w (Died w pr pg) := by
  have HD := Lib.hid (number_dies 2 h hg hn)
  clear h hg hn
  go_enter Try.func32, Try.ntmps32
  go_wp2_with fail
  refine HD.out.mono ?_
  rintro e w1 hd
  obtain rfl := hd.1
  exact ⟨rfl, hd⟩
set_option maxHeartbeats 400000 in
theorem rU32_dies {w : World} {pr pg c : Nat} {a : Option Addr} {bs : List Nat} {sh : Bool} (h : RD w pr pg a c bs) (hg : RG w pg sh) (hn : bs.length < 4) :
    Calls Try.prog 33 #[.pointer (some ⟨pr, 0, none⟩)] w (Died w pr pg) := by
  have HD := Lib.hid (number_dies 4 h hg hn)
  clear h hg hn
  go_enter Try.func33, Try.ntmps33
  go_wp2_with fail
  refine HD.out.mono ?_
  rintro e w1 hd
  obtain rfl := hd.1
  exact ⟨rfl, hd⟩
theorem died_num {w w1 w' : World} {pr pg c n : Nat} {bs : List Nat} {v : Value} {e e' : Ending} (h : NumRet w pr pg c bs n v e' w1) (hd : Died w1 pr pg e w') : Died w pr pg e w' := by
  obtain ⟨a2, _, rfl, _⟩ := h
  obtain ⟨d1, d2, d3, d4, d5, d6, d7⟩ := hd
  refine ⟨d1, d2, ?_, d4, d5, d6, fun k k1 k2 => ?_⟩
  · simpa [World.setCell] using d3
  · rw [d7 k k1 k2]; exact Below.heap_setCell _ _ _ _ k1
end Go.Proofs.Ytnnaijeapapehaa
