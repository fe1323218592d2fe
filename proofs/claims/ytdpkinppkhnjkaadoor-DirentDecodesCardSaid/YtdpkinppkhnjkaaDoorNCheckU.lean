/- names.Check, where utf8's tables alone are known. -/
import Derived.Test.YtdpkinppkhnjkaaDoorNCheck
namespace Go.Proofs.YtdpkinppkhnjkaaDoor
open Go.RowKit

theorem tabs_below {w w' : World} (h : Lib.Utf8Tabs 0 1 w) (hb : Below w.heap.size w w') : Lib.Utf8Tabs 0 1 w' := by
  obtain ⟨h1, h2⟩ := h
  exact ⟨fun c hc => nbelow_cell hb (h1 c hc), fun i hi => ⟨nbelow_cell hb (h2 i hi).1, nbelow_cell hb (h2 i hi).2⟩⟩
set_option maxHeartbeats 600000 in
theorem check_shortU (s : ByteArray) (w : World) (h0 : s.toList ≠ []) (h1 : s.toList ≠ [46]) (h2 : s.toList ≠ [46, 46]) (hl : s.size ≤ 24) (hT : Lib.Utf8Tabs 0 1 w) :
    Calls Tryd.prog 26 #[.string s] w fun e w' => e = .returned (.int .i64 (if Lib.validD s.data.toList = false then 22 else if anyBad s then 22 else 0)) ∧ Below w.heap.size w w' := by
  have e0 : s.toList.isEmpty = false := by cases h : s.toList with
    | nil => exact absurd h h0
    | cons _ _ => rfl
  have e1 : (s.toList == [46]) = false := by rw [beq_eq_false_iff_ne]; exact h1
  have e2 : (s.toList == [46, 46]) = false := by rw [beq_eq_false_iff_ne]; exact h2
  have hl2 : (s.size : Int) ≤ 24 := by omega
  have hV := Tryd.utf8_ValidString s w (by omega) hT
  cases hv : Lib.validD s.data.toList with
  | false =>
    rw [if_pos rfl]
    rw [hv] at hV
    have HV := Lib.hid hV
    clear hV hv
    go_enter Tryd.func26, Tryd.ntmps26
    go_wp2_with fail
    refine HV.out.mono ?_
    rintro e w1 ⟨rfl, hb1⟩
    go_wp2
    go_ret
    exact ⟨rfl, hb1⟩
  | true =>
    rw [if_neg (by simp)]
    rw [hv] at hV
    have HV := Lib.hid hV
    obtain ⟨ans, hans⟩ : ∃ ans, anyBad s = ans := ⟨_, rfl⟩
    rw [hans]
    have HANS : Hid ((scan s s.size 0).any (fun x => badLetter x.2.1) = ans) := by
      show _ = ans
      rw [← hans]; unfold anyBad runesOf lets; rw [List.any_map]; rfl
    obtain ⟨res, hres⟩ : ∃ res : Int, (if ans then (22 : Int) else 0) = res := ⟨_, rfl⟩
    rw [hres]
    have HRES := Lib.hid hres
    clear hV hv hans hres
    go_enter Tryd.func26, Tryd.ntmps26
    go_wp2_with fail
    refine HV.out.mono ?_
    rintro e w1 ⟨rfl, hb1⟩
    have HB1 := Lib.hid hb1
    clear hb1
    go_wp2_with fail
    go_loopw [4] (fun _ w' => ∃ pos f, w' = w1.iter s pos ∧ s.size ≤ pos + f ∧ Hid ((scan s f pos).any (fun x => badLetter x.2.1) = ans)) (fun _ w' => s.size - w'.iterPos w1.heap.size)
    case atStart => exact ⟨0, s.size, rfl, by omega, HANS⟩
    case round =>
      obtain ⟨pos, f, rfl, hf, HA⟩ := hrel
      by_cases hp : pos < s.size
      · have hnx : ∀ ty, (Instr.next (.pointer (some ⟨w1.heap.size, 0, none⟩)) true ty).run Tryd.prog (w1.iter s pos) = _ := fun ty => run_next_any w1 s pos ty hp
        have hw := Lib.decode_width_pos s pos hp
        obtain ⟨f, rfl⟩ : ∃ g, f = g + 1 := ⟨f - 1, by omega⟩
        have hsc := HA.out
        rw [scan_cons hp, List.any_cons] at hsc
        have hr := Lib.rune_le s pos
        generalize Utf8.decode s pos = dc at *
        obtain ⟨c, k⟩ := dc
        simp only at hnx hw hsc hr
        cases hbc : badLetter c with
        | true =>
          rw [hbc, Bool.true_or] at hsc
          have hres2 : res = 22 := by rw [← HRES.out, ← hsc]; rfl
          have HR2 := Lib.hid hres2
          have hc3 : c < 32 ∨ c = 47 ∨ c = 127 := by
            unfold badLetter at hbc
            simp at hbc
            omega
          clear hsc hres2 hbc
          rcases hc3 with hc | hc | hc
          · have hc1 : (c : Int) < 32 := by omega
            go_wp2
            go_ret
            exact ⟨by rw [HR2.out]; rfl, nbel_trans HB1.out (iter_below _ _ _)⟩
          · subst hc
            go_wp2
            go_ret
            exact ⟨by rw [HR2.out]; rfl, nbel_trans HB1.out (iter_below _ _ _)⟩
          · subst hc
            go_wp2
            go_ret
            exact ⟨by rw [HR2.out]; rfl, nbel_trans HB1.out (iter_below _ _ _)⟩
        | false =>
          rw [hbc, Bool.false_or] at hsc
          have HSC := Lib.hid hsc
          have hc3 : 32 ≤ c ∧ c ≠ 47 ∧ c ≠ 127 := by
            unfold badLetter at hbc
            simp at hbc
            omega
          obtain ⟨hc1, hc2, hc3⟩ := hc3
          have d2 : ((c : Int) == 47) = false := by rw [beq_eq_false_iff_ne]; omega
          have d3 : ((c : Int) == 127) = false := by rw [beq_eq_false_iff_ne]; omega
          clear hsc hbc
          go_wp2
          go_roundw
          case rel => exact ⟨pos + k, f, rfl, by omega, HSC⟩
          case measure => simp; omega
      · have hnx : ∀ ty, (Instr.next (.pointer (some ⟨w1.heap.size, 0, none⟩)) true ty).run Tryd.prog (w1.iter s pos) = _ := fun ty => run_next_end w1 s pos ty hp
        have hsc := HA.out
        rw [scan_end s f pos hp] at hsc
        have hres2 : res = 0 := by rw [← HRES.out, ← hsc]; rfl
        have HR2 := Lib.hid hres2
        clear hsc hres2
        go_wp2
        go_ret
        exact ⟨by rw [HR2.out]; rfl, nbel_trans HB1.out (iter_below _ _ _)⟩

theorem check_anyU (s : ByteArray) (w : World) (hs : s.size ≤ 9223372036854775807) (hT : Lib.Utf8Tabs 0 1 w) :
    Calls Tryd.prog 26 #[.string s] w fun e w' => e = .returned (.int .i64 (checkOf s)) ∧ Below w.heap.size w w' := by
  by_cases h : s.toList = [] ∨ s.toList = [46] ∨ s.toList = [46, 46]
  · rw [checkOf_22 h]; exact check_dots s w h
  · have h0 : s.toList ≠ [] := fun e => h (.inl e)
    have h1 : s.toList ≠ [46] := fun e => h (.inr (.inl e))
    have h2 : s.toList ≠ [46, 46] := fun e => h (.inr (.inr e))
    by_cases hl : 24 < s.size
    · rw [checkOf_36 h hl]; exact check_long s w h0 h1 h2 hl hs
    · cases hv : Lib.validD s.data.toList with
      | false => rw [checkOf_bad h hl hv]; have := check_shortU s w h0 h1 h2 (by omega) hT; rw [if_pos hv] at this; exact this
      | true => rw [checkOf_any h hl hv]; have := check_shortU s w h0 h1 h2 (by omega) hT; rw [if_neg (by rw [hv]; simp)] at this; exact this

end Go.Proofs.YtdpkinppkhnjkaaDoor
