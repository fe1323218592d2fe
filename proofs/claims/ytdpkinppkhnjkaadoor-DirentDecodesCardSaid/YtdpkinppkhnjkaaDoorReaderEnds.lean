/- The reader where more is asked of it than there is. -/
import Derived.Test.YtdpkinppkhnjkaaDoorReaderMore
namespace Go.Proofs.YtdpkinppkhnjkaaDoor
open Go.RowKit

/-- A reading in memory. -/
def RG (w : World) (pg : Nat) (sh : Bool) : Prop := w.heap[pg]? = some (.cells #[.bool sh, .bool false] 51 (0, 0))
theorem rg_cells {w : World} {pg : Nat} {sh : Bool} (h : RG w pg sh) : w.cell? ⟨pg, 0, none⟩ = some (.bool sh) ∧ w.frozen? ⟨pg, 0, none⟩ = false := by
  unfold RG at h
  constructor <;> simp [World.cell?, World.frozen?, h]
theorem rg_ne {w : World} {pr pg pg2 c : Nat} {a : Option Addr} {bs : List Nat} {sh : Bool} (h : RD w pr pg2 a c bs) (hg : RG w pg sh) : pr ≠ pg := fun e => by
  subst e
  have h1 := h.1
  unfold RG at hg
  rw [hg] at h1
  cases h1
/-- What a reader gives up with. -/
def outChain (pg : Nat) : List PanicEntry := [{ v := .iface 53 (.agg #[.pointer (some ⟨pg, 0, none⟩)]), recovered := false }]
/-- What is left where a reader gave up. -/
def Died (w : World) (pr pg : Nat) (e : Ending) (w' : World) : Prop :=
  e = .panicked (outChain pg) ∧ RG w' pg true ∧ w.heap.size ≤ w'.heap.size ∧ w'.os = w.os ∧ w'.tape = w.tape ∧ w'.output = w.output ∧ ∀ k, k ≠ pr → k ≠ pg → w'.heap[k]? = w.heap[k]?
theorem rg_set {w : World} {pg : Nat} {sh : Bool} (h : RG w pg sh) : RG (w.setCell ⟨pg, 0, none⟩ (.bool true)) pg true := by
  have hlt : pg < w.heap.size := by
    rcases Nat.lt_or_ge pg w.heap.size with h1 | h1
    · exact h1
    · unfold RG at h; rw [Array.getElem?_eq_none h1] at h; cases h
  unfold RG at h ⊢
  simp [World.setCell, Array.getElem?_modify, h]
theorem died_set {w : World} {pr pg : Nat} {sh : Bool} (hg : RG w pg sh) : Died w pr pg (.panicked (outChain pg)) (w.setCell ⟨pg, 0, none⟩ (.bool true)) :=
  ⟨rfl, rg_set hg, by simp [World.setCell], rfl, rfl, rfl, fun _ _ h2 => Below.heap_setCell _ _ _ _ h2⟩
set_option maxHeartbeats 400000 in
theorem giveUp_dies {w : World} {pr pg c : Nat} {a : Option Addr} {bs : List Nat} {sh : Bool} (h : RD w pr pg a c bs) (hg : RG w pg sh) :
    Calls Tryd.prog 31 #[.pointer (some ⟨pr, 0, none⟩)] w (Died w pr pg) := by
  obtain ⟨h0, h1, h2⟩ := rd_cells h
  obtain ⟨g0, g1⟩ := rg_cells hg
  have hne := rg_ne h hg
  have h1' : (w.setCell ⟨pg, 0, none⟩ (.bool true)).cell? ⟨pr, 1, none⟩ = some (.pointer (some ⟨pg, 0, none⟩)) := by
    rw [World.cell?_setCell_other _ _ _ _ (fun e => by cases e)]; exact h1
  have HG := Lib.hid hg
  clear h hg hne
  go_enter Tryd.func31, Tryd.ntmps31
  go_wp2
  exact ⟨rfl, died_set HG.out⟩
set_option maxHeartbeats 400000 in
theorem take_dies {w : World} {pr pg c : Nat} {a : Option Addr} {bs : List Nat} {sh : Bool} (n : Int) (h : RD w pr pg a c bs) (hg : RG w pg sh) (hn : n < 0 ∨ (0 ≤ n ∧ (bs.length : Int) < n)) :
    Calls Tryd.prog 24 #[.pointer (some ⟨pr, 0, none⟩), .int .i64 n] w (Died w pr pg) := by
  have HH := Lib.hid h
  have HG := Lib.hid hg
  have hbs : bs.length ≤ maxLen := by have := h.2.2.2.1; have := h.2.2.2.2.1; omega
  unfold maxLen at hbs
  clear h hg
  rcases hn with hn | ⟨hn0, hn⟩
  · go_enter Tryd.func24, Tryd.ntmps24
    go_wp2_with fail
    refine (giveUp_dies HH.out HG.out).mono ?_
    rintro e w1 hd
    obtain rfl := hd.1
    exact ⟨rfl, hd⟩
  · go_enter Tryd.func24, Tryd.ntmps24
    go_wp2_with fail
    refine (left_ok HH.out).mono ?_
    rintro e w1 ⟨rfl, rfl⟩
    go_wp2_with fail
    refine (giveUp_dies HH.out HG.out).mono ?_
    rintro e w1 hd
    obtain rfl := hd.1
    exact ⟨rfl, hd⟩
set_option maxHeartbeats 400000 in
theorem number_dies {w : World} {pr pg c : Nat} {a : Option Addr} {bs : List Nat} {sh : Bool} (n : Nat) (h : RD w pr pg a c bs) (hg : RG w pg sh) (hn : bs.length < n) :
    Calls Tryd.prog 23 #[.pointer (some ⟨pr, 0, none⟩), .int .i64 (n : Int)] w (Died w pr pg) := by
  have HD := Lib.hid (take_dies (n : Int) h hg (.inr ⟨by omega, by omega⟩))
  clear h hg hn
  go_enter Tryd.func23, Tryd.ntmps23
  go_wp2_with fail
  refine HD.out.mono ?_
  rintro e w1 hd
  obtain rfl := hd.1
  exact ⟨rfl, hd⟩
set_option maxHeartbeats 400000 in
theorem rU8_dies {w : World} {pr pg c : Nat} {a : Option Addr} {bs : List Nat} {sh : Bool} (h : RD w pr pg a c bs) (hg : RG w pg sh) (hn : bs.length < 1) :
    Calls Tryd.prog 25 #[.pointer (some ⟨pr, 0, none⟩)] w (Died w pr pg) := by
  have HD := Lib.hid (number_dies 1 h hg hn)
  clear h hg hn
  go_enter Tryd.func25, Tryd.ntmps25
  go_wp2_with fail
  refine HD.out.mono ?_
  rintro e w1 hd
  obtain rfl := hd.1
  exact ⟨rfl, hd⟩
set_option maxHeartbeats 400000 in
theorem rU32_dies {w : World} {pr pg c : Nat} {a : Option Addr} {bs : List Nat} {sh : Bool} (h : RD w pr pg a c bs) (hg : RG w pg sh) (hn : bs.length < 4) :
    Calls Tryd.prog 10 #[.pointer (some ⟨pr, 0, none⟩)] w (Died w pr pg) := by
  have HD := Lib.hid (number_dies 4 h hg hn)
  clear h hg hn
  go_enter Tryd.func10, Tryd.ntmps10
  go_wp2_with fail
  refine HD.out.mono ?_
  rintro e w1 hd
  obtain rfl := hd.1
  exact ⟨rfl, hd⟩
theorem died_num {w w1 w' : World} {pr pg c n : Nat} {bs : List Nat} {v : Value} {e e' : Ending} (h : NumRet w pr pg c bs n v e' w1) (hd : Died w1 pr pg e w') : Died w pr pg e w' := by
  obtain ⟨a2, _, rfl, _⟩ := h
  obtain ⟨d1, d2, d3, d4, d5, d6, d7⟩ := hd
  refine ⟨d1, d2, ?_, d4, d5, d6, fun k k1 k2 => ?_⟩
  · simpa [World.setCell] using d3
  · rw [d7 k k1 k2]; exact Below.heap_setCell _ _ _ _ k1
set_option maxHeartbeats 400000 in
theorem rText_dies {w : World} {pr pg c : Nat} {a : Option Addr} {bs : List Nat} {sh : Bool} (h : RD w pr pg a c bs) (hg : RG w pg sh) (hn : bs.length < 1 + bs.getD 0 0) :
    Calls Tryd.prog 11 #[.pointer (some ⟨pr, 0, none⟩)] w (Died w pr pg) := by
  by_cases h0 : bs.length < 1
  · have HD := Lib.hid (rU8_dies h hg h0)
    clear h hg hn
    go_enter Tryd.func11, Tryd.ntmps11
    go_wp2_with fail
    refine HD.out.mono ?_
    rintro e w1 hd
    obtain rfl := hd.1
    exact ⟨rfl, hd⟩
  · have HU := Lib.hid (rU8_ok h (by omega))
    have hne := rg_ne h hg
    have hx : bs.getD 0 0 < 256 := by rw [getD_in _ _ (by omega)]; exact h.2.1.2.1 _ (List.getElem_mem _)
    have HG := Lib.hid hg
    obtain ⟨m, hm⟩ : ∃ m, bs.getD 0 0 = m := ⟨_, rfl⟩
    rw [hm] at hn hx
    have HM := Lib.hid hm
    clear h hg hm
    go_enter Tryd.func11, Tryd.ntmps11
    go_wp2_with fail
    refine HU.out.mono ?_
    rintro e w1 hnum
    have HNUM := Lib.hid hnum
    obtain ⟨a2, rfl, hw1, hrd⟩ := hnum
    rw [HM.out]
    have hg1 : RG w1 pg sh := by rw [hw1]; unfold RG; rw [Below.heap_setCell _ _ _ _ (by show pg ≠ pr; omega)]; exact HG.out
    have HD := Lib.hid (take_dies (m : Int) hrd hg1 (.inr ⟨by omega, by rw [List.length_drop]; omega⟩))
    clear hw1 hg1 hrd
    go_wp2_with fail
    refine HD.out.mono ?_
    rintro e w2 hd
    obtain rfl := hd.1
    exact ⟨rfl, died_num HNUM.out hd⟩

end Go.Proofs.YtdpkinppkhnjkaaDoor
