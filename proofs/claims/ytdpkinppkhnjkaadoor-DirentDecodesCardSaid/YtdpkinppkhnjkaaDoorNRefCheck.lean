/- gabionref03.Check; NamesChecks' walk. -/
import Derived.Test.YtdpkinppkhnjkaaDoorNLettersWalk
namespace Go.Proofs.YtdpkinppkhnjkaaDoor
open Go.RowKit

theorem checkOf_ok {s : ByteArray} (h : ¬ (s.toList = [] ∨ s.toList = [46] ∨ s.toList = [46, 46])) (h1 : ¬ 24 < s.size) : checkOf s = if allOk s && !(runesOf s).any badLetter then 0 else 22 := by
  cases hv : Lib.validD s.data.toList with
  | false => rw [checkOf_bad h h1 hv, allOk_valid, hv]; rfl
  | true =>
    rw [checkOf_any h h1 hv, allOk_valid, hv, Bool.true_and]
    unfold anyBad
    cases (runesOf s).any badLetter <;> rfl
set_option maxHeartbeats 600000 in
theorem refCheck_dots (s : ByteArray) (w : World) (h : s.toList = [] ∨ s.toList = [46] ∨ s.toList = [46, 46]) :
    Calls Tryd.prog 16 #[.string s] w fun e w' => e = .returned (.int .i64 22) ∧ Below w.heap.size w w' := by
  rcases h with h | h | h
  all_goals
    go_enter Tryd.func16, Tryd.ntmps16
    go_wp2_with fail
    go_ret
    exact ⟨rfl, Below.refl _ _⟩
set_option maxHeartbeats 600000 in
theorem refCheck_long (s : ByteArray) (w : World) (h0 : s.toList ≠ []) (h1 : s.toList ≠ [46]) (h2 : s.toList ≠ [46, 46]) (hl : 24 < s.size) (hs : s.size ≤ 9223372036854775807) :
    Calls Tryd.prog 16 #[.string s] w fun e w' => e = .returned (.int .i64 36) ∧ Below w.heap.size w w' := by
  have e0 : s.toList.isEmpty = false := by cases h : s.toList with
    | nil => exact absurd h h0
    | cons _ _ => rfl
  have e1 : (s.toList == [46]) = false := by rw [beq_eq_false_iff_ne]; exact h1
  have e2 : (s.toList == [46, 46]) = false := by rw [beq_eq_false_iff_ne]; exact h2
  have hl2 : (24 : Int) < (s.size : Int) := by omega
  go_enter Tryd.func16, Tryd.ntmps16
  go_wp2_with fail
  go_ret
  exact ⟨rfl, Below.refl _ _⟩
set_option maxRecDepth 100000 in
set_option maxHeartbeats 1000000 in
theorem refCheck_short (s : ByteArray) (w : World) (h0 : s.toList ≠ []) (h1 : s.toList ≠ [46]) (h2 : s.toList ≠ [46, 46]) (hl : s.size ≤ 24) :
    Calls Tryd.prog 16 #[.string s] w fun e w' => e = .returned (.int .i64 (if allOk s && !(runesOf s).any badLetter then 0 else 22)) ∧ Below w.heap.size w w' := by
  have e0 : s.toList.isEmpty = false := by cases h : s.toList with
    | nil => exact absurd h h0
    | cons _ _ => rfl
  have e1 : (s.toList == [46]) = false := by rw [beq_eq_false_iff_ne]; exact h1
  have e2 : (s.toList == [46, 46]) = false := by rw [beq_eq_false_iff_ne]; exact h2
  have hl2 : (s.size : Int) ≤ 24 := by omega
  have H := Lib.hid (refLetters_any s w (by omega))
  have hrs := runesOf_rune s
  have hn24 : (runesOf s).length ≤ 24 := by have := runesOf_le s; omega
  obtain ⟨res, hres⟩ : ∃ res : Int, (if allOk s && !(runesOf s).any badLetter then (0 : Int) else 22) = res := ⟨_, rfl⟩
  rw [hres]
  have HRES := Lib.hid hres
  clear hres
  go_enter Tryd.func16, Tryd.ntmps16
  go_wp2_with fail
  refine H.out.mono ?_
  rintro e w1 ⟨lv, av, rfl, hol, hoa, hb1⟩
  obtain ⟨a, c, rfl, hr⟩ := rowI_of_own hol
  obtain ⟨xs, hxs⟩ : ∃ xs, runesOf s = xs := ⟨_, rfl⟩
  obtain ⟨ok, hok⟩ : ∃ ok, allOk s = ok := ⟨_, rfl⟩
  have hres := HRES.out
  rw [hxs] at hr hn24 hrs hres ⊢
  rw [hok] at hres ⊢
  obtain ⟨n, hn⟩ : ∃ n, xs.length = n := ⟨_, rfl⟩
  rw [hn] at hr hn24 ⊢
  have HR := Lib.hid hr
  have HB1 := Lib.hid hb1
  have HRS := Lib.hid hrs
  have HN := Lib.hid hn
  have HRES2 := Lib.hid hres
  clear hol hoa hr hb1 hxs hok hrs hn hres
  go_wp2_with fail
  go_loopw [5, 6] (fun bv i wr => ∃ k : Nat, k ≤ n ∧ i = .int .i64 k ∧ bv = .bool (ok && !(xs.take k).any badLetter) ∧ Below w1.heap.size w1 wr) (fun _ i _ => n - (intOf i).toNat)
  case atStart => exact ⟨0, by omega, rfl, by simp, Below.refl _ _⟩
  case round =>
    obtain ⟨k, hk, rfl, rfl, hbr⟩ := hrel
    by_cases hlt : k < n
    · have hkx : k < xs.length := by have := HN.out; omega
      have htk : (xs.take (k + 1)).any badLetter = ((xs.take k).any badLetter || badLetter (xs.getD k 0)) := by
        rw [List.take_succ_eq_append_getElem hkx, List.any_append, getD_in _ _ hkx]; simp
      obtain ⟨b, off, rfl, hc⟩ := (HR.out).2.2.2 (by omega)
      have q := nbelow_cell hbr (hc k hlt)
      have hcn := HR.out.2.1
      have hx9 : xs.getD k 0 ≤ 1114111 := by rw [getD_in _ _ hkx]; exact HRS.out _ (List.getElem_mem _)
      obtain ⟨y, hy⟩ : ∃ y, xs.getD k 0 = y := ⟨_, rfl⟩
      rw [hy] at htk q hx9
      clear hy
      obtain ⟨X, hX⟩ : ∃ X : Int, (y : Int) = X := ⟨_, rfl⟩
      have hk0 : (0 : Int) ≤ (k : Int) := by omega
      have hkn : (k : Int) < (n : Int) := by omega
      unfold intV at q
      rw [hX] at q
      obtain ⟨bk, hbk⟩ : ∃ bk, (ok && !(xs.take k).any badLetter) = bk := ⟨_, rfl⟩
      rw [hbk]
      have HTK := Lib.hid htk
      have HB := Lib.hid hbr
      have HBK := Lib.hid hbk
      cases hbad : badLetter y with
      | true =>
        have hc3 : X = 47 ∨ (X ≠ 47 ∧ X < 32) ∨ (X ≠ 47 ∧ 32 ≤ X ∧ X = 127) := by
          unfold badLetter at hbad
          simp at hbad
          omega
        have hnb : (ok && !(xs.take (k + 1)).any badLetter) = false := by
          rw [HTK.out, hbad]; simp
        have HNB := Lib.hid hnb
        clear hc hbr htk hbk hbad hX hx9 hnb hkx
        rcases hc3 with hx | ⟨hx, hx2⟩ | ⟨hx, hx2, hx3⟩
        · subst hx
          go_wp2_with fail
          exact ⟨⟨k + 1, by omega, by go_num, by rw [HNB.out], HB.out⟩, by simp [intOf]; omega⟩
        · have d2 : (X == 47) = false := by rw [beq_eq_false_iff_ne]; exact hx
          go_wp2_with fail
          exact ⟨⟨k + 1, by omega, by go_num, by rw [HNB.out], HB.out⟩, by simp [intOf]; omega⟩
        · subst hx3
          go_wp2_with fail
          exact ⟨⟨k + 1, by omega, by go_num, by rw [HNB.out], HB.out⟩, by simp [intOf]; omega⟩
      | false =>
        have hc3 : X ≠ 47 ∧ 32 ≤ X ∧ X ≠ 127 := by
          unfold badLetter at hbad
          simp at hbad
          omega
        have hnb : (ok && !(xs.take (k + 1)).any badLetter) = bk := by
          rw [HTK.out, hbad, ← HBK.out]; simp
        have HNB := Lib.hid hnb
        obtain ⟨hc1, hc2, hc3⟩ := hc3
        have d2 : (X == 47) = false := by rw [beq_eq_false_iff_ne]; omega
        have d3 : (X == 127) = false := by rw [beq_eq_false_iff_ne]; omega
        clear hc hbr htk hbk hbad hX hx9 hnb hkx
        go_wp2_with fail
        exact ⟨⟨k + 1, by omega, by go_num, by rw [HNB.out], HB.out⟩, by simp [intOf]; omega⟩
    · have hli : (n : Int) ≤ (k : Int) := by omega
      have htk : xs.take k = xs := List.take_of_length_le (by have := HN.out; omega)
      rw [htk]
      have hres := HRES2.out
      obtain ⟨bk, hbk⟩ : ∃ bk, (ok && !xs.any badLetter) = bk := ⟨_, rfl⟩
      rw [hbk] at hres ⊢
      have HR2 := Lib.hid hres
      have hbf := nbel_trans HB1.out hbr
      clear htk hres hbk hbr
      cases bk
      · go_wp2
        go_ret
        exact ⟨by rw [← HR2.out]; rfl, hbf⟩
      · go_wp2
        go_ret
        exact ⟨by rw [← HR2.out]; rfl, hbf⟩

theorem refCheck_any (s : ByteArray) (w : World) (hs : s.size ≤ 9223372036854775807) :
    Calls Tryd.prog 16 #[.string s] w fun e w' => e = .returned (.int .i64 (checkOf s)) ∧ Below w.heap.size w w' := by
  by_cases h : s.toList = [] ∨ s.toList = [46] ∨ s.toList = [46, 46]
  · rw [checkOf_22 h]; exact refCheck_dots s w h
  · have h0 : s.toList ≠ [] := fun e => h (.inl e)
    have h1 : s.toList ≠ [46] := fun e => h (.inr (.inl e))
    have h2 : s.toList ≠ [46, 46] := fun e => h (.inr (.inr e))
    by_cases hl : 24 < s.size
    · rw [checkOf_36 h hl]; exact refCheck_long s w h0 h1 h2 hl hs
    · rw [checkOf_ok h hl]; exact refCheck_short s w h0 h1 h2 (by omega)
end Go.Proofs.YtdpkinppkhnjkaaDoor
