/- Slices of numbers that are read; NamesLetters' walk. -/
import Derived.Test.YtjldpgcbaibpcaaDoorNRefLetters
namespace Go.Proofs.YtjldpgcbaibpcaaDoor
open Go.RowKit

/-- A slice of numbers that is read. -/
def RowI (w : World) (a : Option Addr) (n cap : Nat) (xs : List Nat) : Prop :=
  xs.length = n ∧ n ≤ cap ∧ cap ≤ maxLen ∧ (0 < n → ∃ b off, a = some ⟨b, off, none⟩ ∧ ∀ i, i < n → w.cell? ⟨b, off + i, none⟩ = some (intV (xs.getD i 0)))
theorem rowI_below {w w' : World} {a : Option Addr} {n cap : Nat} {xs : List Nat} (h : RowI w a n cap xs) (hb : Below w.heap.size w w') : RowI w' a n cap xs := by
  obtain ⟨h1, h2, h3, h5⟩ := h
  refine ⟨h1, h2, h3, fun h0 => ?_⟩
  obtain ⟨b, off, e, hc⟩ := h5 h0
  exact ⟨b, off, e, fun i hi => below_cell hb (hc i hi)⟩
theorem rowI_of_own {B : Nat} {w : World} {sv : Value} {l : List Nat} (h : IntsOwn B w sv l) : ∃ a c, sv = .slice a l.length c ∧ RowI w a l.length c l := by
  rcases h.2 with ⟨h0, h1⟩ | ⟨g, cap, cur, e1, e2, e3, e4, e5, e6, e7⟩
  · exact ⟨none, 0, by rw [h0, h1], rfl, by omega, by unfold maxLen; omega, fun hp => by omega⟩
  · refine ⟨_, cap, e1, rfl, e4, e5, fun _ => ⟨g, 0, rfl, fun i hi => ?_⟩⟩
    rw [Nat.zero_add, row_cell e3 e7 (show i < l.length * 1 by omega), List.getElem?_map, List.getElem?_eq_getElem hi]
    simp [List.getD, hi]
set_option maxRecDepth 100000 in
set_option maxHeartbeats 1000000 in
theorem namesLetters_walk (s : ByteArray) (w : World) (_hs : s.size ≤ maxLen) (hT : NOk w) :
    Calls Tryd.prog 7 #[.string s] w fun e w' => e = .returned (.bool true) ∧ Below w.heap.size w w' := by
  have hsm : s.size ≤ 9223372036854775807 := by unfold maxLen at _hs; omega
  by_cases h3 : 300 < s.size
  · have HH := Lib.hid (head_any w hT)
    have d1 : decide ((s.size : Int) > 300) = true := by simp; omega
    clear hT
    go_enter Tryd.func7, Tryd.ntmps7
    go_wp2_with fail
    refine HH.out.mono ?_
    rintro e w' ⟨rfl, hb1⟩
    go_wp2
    go_ret
    exact ⟨rfl, hb1⟩
  · have d1 : decide ((s.size : Int) > 300) = false := by simp; omega
    have H1 := Lib.hid (letters_any s w (by omega))
    have H2 := Lib.hid (fun w => refLetters_any s w (by omega))
    have HT := Lib.hid hT
    clear hT
    go_enter Tryd.func7, Tryd.ntmps7
    go_wp2_with fail
    refine H1.out.mono ?_
    rintro e w1 ⟨sv, rfl, hown, hb1⟩
    have HO := Lib.hid hown
    have HB1 := Lib.hid hb1
    clear hown hb1
    go_wp2_with fail
    refine (H2.out w1).mono ?_
    rintro e w2 ⟨lv, av, rfl, hol, hoa, hb2⟩
    have hb02 := bel_trans HB1.out hb2
    have hp0 := ints_below HO.out hb2
    have HH := Lib.hid (head_any w2 (nok_below HT.out hb02))
    obtain ⟨a1, c1, rfl, hr1⟩ := rowI_of_own hp0
    obtain ⟨a2, c2, rfl, hr2⟩ := rowI_of_own hol
    obtain ⟨a3, c3, rfl, hr3⟩ := rowI_of_own hoa
    rw [places_len] at hr1 hr3 ⊢
    obtain ⟨n, hn⟩ : ∃ n, (runesOf s).length = n := ⟨_, rfl⟩
    obtain ⟨xs, hxs⟩ : ∃ xs, placesOf s = xs := ⟨_, rfl⟩
    have hn300 : n ≤ 300 := by have := runesOf_le s; omega
    rw [hn] at hr1 hr3 ⊢
    rw [hxs] at hr1 hr3
    have HR1 := Lib.hid hr1
    have HR3 := Lib.hid hr3
    have HB02 := Lib.hid hb02
    clear hp0 hol hoa hb2 hr1 hr2 hr3 hn hxs hb02
    go_wp2_with fail
    refine HH.out.mono ?_
    rintro e w3 ⟨rfl, hb3⟩
    have HR1 := Lib.hid (rowI_below HR1.out hb3)
    have HR3 := Lib.hid (rowI_below HR3.out hb3)
    have HB03 := Lib.hid (bel_trans HB02.out hb3)
    clear hb3
    go_wp2_with fail
    go_loopw [8] (fun i wr => ∃ k : Nat, k ≤ n ∧ i = .int .i64 k ∧ Below w3.heap.size w3 wr) (fun i _ => n - (intOf i).toNat)
    case atStart => exact ⟨0, by omega, rfl, Below.refl _ _⟩
    case round =>
      obtain ⟨k, hk, rfl, hbr⟩ := hrel
      by_cases hlt : k < n
      · obtain ⟨b1, o1, rfl, hc1⟩ := (HR1.out).2.2.2 (by omega)
        obtain ⟨b2, o2, rfl, hc2⟩ := (HR3.out).2.2.2 (by omega)
        have q1 := below_cell hbr (hc1 k hlt)
        have q2 := below_cell hbr (hc2 k hlt)
        have hc1n := HR1.out.2.1
        have hc3n := HR3.out.2.1
        generalize xs.getD k 0 = x at *
        unfold intV at q1 q2
        have hk0 : (0 : Int) ≤ (k : Int) := by omega
        have hkn : (k : Int) < (n : Int) := by omega
        have HB := Lib.hid hbr
        clear hc1 hc2 hbr
        go_wp2_with fail
        go_quiet (fail)
        go_wp2
        exact ⟨⟨k + 1, by omega, by go_num, below_drewN HB.out _⟩, by simp [intOf]; omega⟩
      · have hli : (n : Int) ≤ (k : Int) := by omega
        go_wp2
        go_ret
        exact ⟨rfl, bel_trans HB03.out hbr⟩

end Go.Proofs.YtjldpgcbaibpcaaDoor
