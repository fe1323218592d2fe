/- A name has no stroke; names.Join, gabionref03.Join, names.Last. -/
import Derived.Test.YtjldpgcbaibpcaaDoorNPath
namespace Go.Proofs.YtjldpgcbaibpcaaDoor
open Go.RowKit

theorem decodeN_inner (n b0 b1 b2 b3 : Nat) : (2 ≤ (Lib.decodeN n b0 b1 b2 b3).2 → b1 / 64 = 2) ∧ (3 ≤ (Lib.decodeN n b0 b1 b2 b3).2 → b2 / 64 = 2) ∧ (4 ≤ (Lib.decodeN n b0 b1 b2 b3).2 → b3 / 64 = 2) ∧ (Lib.decodeN n b0 b1 b2 b3).2 ≤ 4 := by
  unfold Lib.decodeN
  repeat' split
  all_goals (simp only; omega)
theorem decode_inner (s : ByteArray) (p j : Nat) (h1 : p < j) (h2 : j < p + (Utf8.decode s p).2) : (s.get! j).toNat / 64 = 2 := by
  obtain ⟨c1, c2, c3, c4⟩ := decodeN_inner (s.size - p) (s.get! p).toNat (s.get! (p + 1)).toNat (s.get! (p + 2)).toNat (s.get! (p + 3)).toNat
  rw [← Lib.decode_at] at c1 c2 c3 c4
  rcases (show j = p + 1 ∨ j = p + 2 ∨ j = p + 3 by omega) with h | h | h
  · subst h; exact c1 (by omega)
  · subst h; exact c2 (by omega)
  · subst h; exact c3 (by omega)
theorem scan_stroke (s : ByteArray) : ∀ f pos, s.size ≤ pos + f → ∀ j, pos ≤ j → j < s.size → s.get! j = 47 → 47 ∈ (scan s f pos).map (·.2.1)
  | 0, pos, h, j, h1, h2, _ => by omega
  | f + 1, pos, h, j, h1, h2, h3 => by
    have hw := Lib.decode_width_pos s pos (by omega)
    rw [scan_cons (by omega), List.map_cons, List.mem_cons]
    rcases Nat.lt_or_ge j (pos + (Utf8.decode s pos).2) with h4 | h4
    · rcases Nat.eq_or_lt_of_le h1 with h5 | h5
      · subst h5
        left
        rw [Lib.decode_at]
        unfold Lib.decodeN
        rw [if_pos (by rw [h3]; decide), h3]
        rfl
      · have := decode_inner s pos j h5 h4
        rw [h3] at this
        exact absurd this (by decide)
    · exact .inr (scan_stroke s f _ (by omega) j h4 h2 h3)
theorem good_noStroke {p : ByteArray} (h : checkOf p = 0) : NoStroke p := by
  obtain ⟨h1, h2, h3⟩ := good_plain h
  rw [checkOf_ok (fun e => by rcases e with e | e | e; exact h1 (.inl e); exact h1 (.inr e); exact h2 e) (by omega)] at h
  intro b hb e
  subst e
  obtain ⟨j, hj, e⟩ := List.getElem_of_mem hb
  rw [len_data] at hj
  have h5 : p.get! j = 47 := by
    rw [← byte_at, List.getD_eq_getElem?_getD, List.getElem?_eq_getElem (by rw [len_data]; exact hj), Option.getD_some, e]
  have h6 := scan_stroke p p.size 0 (by omega) j (Nat.zero_le _) hj h5
  have h7 : (runesOf p).any badLetter = true := by
    rw [List.any_eq_true]
    exact ⟨47, h6, by decide⟩
  rw [h7] at h
  simp at h

theorem stroke_add (l : List UInt8) : (⟨#[47]⟩ : ByteArray) ++ (⟨l.toArray⟩ : ByteArray) = mkB (47 :: l) := by
  unfold mkB
  apply ByteArray.ext
  simp
set_option maxHeartbeats 600000 in
theorem join_any (a : Option Addr) (n c : Nat) (xs : List ByteArray) (w : World) (hr : RowS w a n c xs) (hw : wt xs ≤ 100000) :
    Calls Tryd.prog 18 #[.slice a n c] w fun e w' => e = .returned (.string (pathOf xs)) ∧ Below w.heap.size w w' := by
  obtain ⟨h1, h2, h3, h4, h5⟩ := hr
  rcases Nat.eq_zero_or_pos n with h0 | h0
  · subst h0
    have hx : xs = [] := List.eq_nil_of_length_eq_zero h1
    subst hx
    have H := Lib.hid (Tryd.strings_Join_none a c slash w)
    go_enter Tryd.func18, Tryd.ntmps18
    go_wp2_with fail
    refine H.out.mono ?_
    rintro e w1 ⟨rfl, hw1⟩
    subst hw1
    go_wp2
    go_ret
    exact ⟨rfl, Below.refl _ _⟩
  · obtain ⟨b, off, rfl, hc⟩ := h5 h0
    have hlen : n ≤ wt xs := by
      rw [← h1]
      clear hc h5 h1
      unfold wt
      induction xs with
      | nil => simp
      | cons x l ih => have := ih (by rw [wt_cons] at hw; omega); simp at this ⊢; omega
    have hp : (pathOf xs).size ≤ 100001 := Nat.le_trans (pathOf_le xs) (by omega)
    have hjl : (Lib.join (xs.map (·.data.toList)) slash.data.toList).length ≤ 140737488355328 := by
      unfold pathOf at hp
      rw [size_mkB, List.length_cons] at hp
      have hsl : slash.data.toList = [47] := rfl
      rw [hsl]
      omega
    have hbk : b < w.heap.size := World.block_lt_of_cell? w ⟨b, off + 0, none⟩ (hc 0 h0)
    subst h1
    have H := Lib.hid (Tryd.strings_Join b off c xs slash w (fun j x hj => by
      have hjl : j < xs.length := by
        rcases Nat.lt_or_ge j xs.length with h | h
        · exact h
        · rw [List.getElem?_eq_none h] at hj; cases hj
      rw [hc j hjl]
      rw [List.getElem?_eq_getElem hjl] at hj
      simp only [Option.some.injEq] at hj
      rw [← hj]
      simp [List.getD, hjl]) hbk (by omega) h2 hjl)
    have hadd : (⟨#[47]⟩ : ByteArray) ++ (⟨(Lib.join (xs.map (·.data.toList)) slash.data.toList).toArray⟩ : ByteArray) = pathOf xs := stroke_add _
    have HADD := Lib.hid hadd
    generalize (⟨(Lib.join (xs.map (·.data.toList)) slash.data.toList).toArray⟩ : ByteArray) = J at *
    have hJ : J.size ≤ 100001 := by
      have := congrArg ByteArray.size hadd
      rw [ByteArray.size_append] at this
      omega
    clear hc h5 hadd hjl
    go_enter Tryd.func18, Tryd.ntmps18
    go_wp2_with fail
    refine H.out.mono ?_
    rintro e w1 ⟨rfl, hb1⟩
    go_wp2
    go_ret
    exact ⟨by rw [← HADD.out]; rfl, hb1⟩
theorem data_app (x y : ByteArray) : (x ++ y).data.toList = x.data.toList ++ y.data.toList := by simp
theorem eq_mkB {x : ByteArray} {l : List UInt8} (h : x.data.toList = l) : x = mkB l := by rw [← h, mkB_data]
theorem pathOf_first (x : ByteArray) : pathOf [] ++ x = pathOf [x] := by
  rw [pathOf_cons]
  apply eq_mkB
  rw [data_app, pathOf_nil, data_mkB]
  simp [stroked]
theorem pathOf_next {l : List ByteArray} (h : l ≠ []) (x : ByteArray) : (pathOf l ++ slash) ++ x = pathOf (l ++ [x]) := by
  cases l with
  | nil => exact absurd rfl h
  | cons y l =>
    rw [List.cons_append, pathOf_cons, pathOf_cons]
    apply eq_mkB
    rw [data_app, data_app, data_mkB]
    simp [stroked, slash]
theorem wt_take (l : List ByteArray) (k : Nat) : wt (l.take k) ≤ wt l := by
  have h : wt (l.take k ++ l.drop k) = wt l := by rw [List.take_append_drop]
  rw [wt_append] at h
  omega
set_option maxRecDepth 100000 in
set_option maxHeartbeats 600000 in
theorem refJoin_any (a : Option Addr) (n c : Nat) (xs : List ByteArray) (w : World) (hr : RowS w a n c xs) (hw : wt xs ≤ 100000) (hn : n ≤ 100000) :
    Calls Tryd.prog 19 #[.slice a n c] w fun e w' => e = .returned (.string (pathOf xs)) ∧ Below w.heap.size w w' := by
  obtain ⟨h1, h2, h3, h4, h5⟩ := hr
  have HN := Lib.hid h1
  have HW := Lib.hid (fun k => Nat.le_trans (pathOf_le (xs.take k)) (Nat.add_le_add_right (Nat.le_trans (wt_take xs k) hw) 1))
  obtain ⟨R, hR⟩ : ∃ R, pathOf xs = R := ⟨_, rfl⟩
  rw [hR]
  have HRR := Lib.hid hR
  clear h1 hw hR
  go_enter Tryd.func19, Tryd.ntmps19
  go_wp2_with fail
  go_loopw [3, 4] (fun sv i wr => ∃ k : Nat, k ≤ n ∧ i = .int .i64 k ∧ sv = .string (pathOf (xs.take k)) ∧ Below w.heap.size w wr) (fun _ i _ => n - (intOf i).toNat)
  case atStart => exact ⟨0, by omega, rfl, rfl, Below.refl _ _⟩
  case round =>
    obtain ⟨k, hk, rfl, rfl, hbr⟩ := hrel
    have hps := HW.out k
    by_cases hlt : k < n
    · obtain ⟨b, off, rfl, hc⟩ := h5 (by omega)
      have q := below_cell hbr (hc k hlt)
      have hkx : k < xs.length := by have := HN.out; omega
      obtain ⟨x, hx⟩ : ∃ x, xs.getD k ByteArray.empty = x := ⟨_, rfl⟩
      rw [hx] at q
      have htk : xs.take (k + 1) = xs.take k ++ [x] := by
        rw [List.take_succ_eq_append_getElem hkx, ← hx]; simp [List.getD, hkx]
      have hps2 := HW.out (k + 1)
      have hkn : (k : Int) < (n : Int) := by omega
      have hk0 : (0 : Int) ≤ (k : Int) := by omega
      have HB := Lib.hid hbr
      rcases Nat.eq_zero_or_pos k with h0 | h0
      · subst h0
        have hnx : pathOf (xs.take 0) ++ x = pathOf (xs.take 1) := by rw [show xs.take 1 = [x] from htk]; exact pathOf_first x
        have HNX := Lib.hid hnx
        rw [← hnx, ByteArray.size_append] at hps2
        generalize pathOf (xs.take 0) = P at *
        have hsz : P.size + x.size ≤ 9223372036854775807 := by omega
        rw [Nat.add_zero] at q
        clear hnx hc hbr hx htk hk0
        go_wp2_with fail
        exact ⟨⟨1, by omega, by go_num, by rw [← HNX.out], HB.out⟩, by simp [intOf]; omega⟩
      · have hne : xs.take k ≠ [] := fun e => by
          have := congrArg List.length e
          rw [List.length_take, List.length_nil] at this
          omega
        have hnx := pathOf_next hne x
        rw [← htk] at hnx
        have HNX := Lib.hid hnx
        rw [← hnx, ByteArray.size_append, ByteArray.size_append, show slash.size = 1 from rfl] at hps2
        generalize pathOf (xs.take k) = P at *
        have hsz : P.size + 1 ≤ 9223372036854775807 := by omega
        have hsz2 : P.size + 1 + x.size ≤ 9223372036854775807 := by omega
        have hk1 : (0 : Int) < (k : Int) := by omega
        clear hnx hc hbr hx htk
        go_wp2_with fail
        exact ⟨⟨k + 1, by omega, by go_num, by rw [← HNX.out]; rfl, HB.out⟩, by simp [intOf]; omega⟩
    · have hli : ¬ (k : Int) < (n : Int) := by omega
      have htk : xs.take k = xs := List.take_of_length_le (by have := HN.out; omega)
      rw [htk, HRR.out] at hps ⊢
      clear htk h5
      go_wp2_with fail
      go_ret
      exact ⟨rfl, hbr⟩
end Go.Proofs.YtjldpgcbaibpcaaDoor
