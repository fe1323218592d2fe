/- gabionref03.Split. -/
import Derived.Test.YtjldpgcbaibpcaaDoorNCut
import Derived.Laws.AppendOwnNone
import Derived.Laws.DeepStrings4
namespace Go.Proofs.YtjldpgcbaibpcaaDoor
open Go.RowKit

/-- What an append to texts of the call's own leaves. -/
structure StrApd (B : Nat) (w : World) (sv : Value) (l : List ByteArray) (sv' : Value) (w' : World) : Prop where
  own : StrsOwn B w' sv' l
  grown : w.grownBy w' sv.ownBlock
  where_ : sv'.ownBlock = sv.ownBlock ∨ sv'.ownBlock = some w.heap.size
  below : Below B w w'
theorem strs_below {B : Nat} {w w' : World} {sv : Value} {l : List ByteArray} (h : StrsOwn B w sv l) (hb : Below w.heap.size w w') : StrsOwn B w' sv l := owns_below h hb
theorem strs_alloc {B : Nat} {w : World} {sv : Value} {l : List ByteArray} (h : StrsOwn B w sv l) (o : Obj) : StrsOwn B (w.alloc o) sv l := World.ownsRow.alloc h o
/-- append(l, x): the one text is laid in a block of its own first. -/
theorem wpList_str {w : World} {ops : Array Oper} {rest : List Oper} {o : Oper} {a : Act} {Q : Exit → Act → World → Prop} (hgd : o.guard = none) (s x : Operand)
    (ho : o.op = .call { callee := .builtin .append, args := #[s, x], argTypes := #[27, 27] })
    (B : Nat) (sv : Value) (l : List ByteArray) (y : ByteArray) (hs : a.eval s = sv) (hown : StrsOwn B w sv l) (hx : a.eval x = .slice (some ⟨w.heap.size, 0, none⟩) 1 1) (hB : B ≤ w.heap.size) (hlen : l.length ≤ 100000)
    (h : ∀ v' w', StrApd B (w.alloc (.cells #[.string y] 9)) sv (l ++ [y]) v' w' → wpList Tryd.prog ops Q rest (a.put o.dst v') w') : wpList Tryd.prog ops Q (o :: rest) a (w.alloc (.cells #[.string y] 9)) := by
  obtain ⟨i0, hi, hz0, hz1, hz2⟩ := info_parts info_str
  refine wpList_append_own_at _ hgd s x 27 ho B 9 i0 (.string ⟨#[]⟩) 1 16 Tryd.underlying27 hi hz0 hz1 hz2 rfl (by decide) sv _ _ hs (World.ownsRow.alloc hown _) ⟨w.heap.size, 0, none⟩ 1 1 [.string y] hx rfl (news_one w _ _) (fun u hu => by simp at hu; subst hu; rfl) (by unfold maxLen; omega) (by omega) (by simp; omega) ?_
  intro v' w' h2 h3 _ h5
  refine h v' w' ⟨?_, h3, h5, (Below.refl B _).grown h3 (by simp; omega) (fun k hk => (World.ownsRow.lt hown k hk).1)⟩
  unfold StrsOwn
  rw [List.map_append, List.length_append]
  exact h2
/-- append(l, m...): texts of the call's own behind each other. -/
theorem wpList_strs {w : World} {ops : Array Oper} {rest : List Oper} {o : Oper} {a : Act} {Q : Exit → Act → World → Prop} (hgd : o.guard = none) (s x : Operand)
    (ho : o.op = .call { callee := .builtin .append, args := #[s, x], argTypes := #[27, 27] })
    (B : Nat) (sv xv : Value) (l m : List ByteArray) (hs : a.eval s = sv) (hown : StrsOwn B w sv l) (hx : a.eval x = xv) (hownx : StrsOwn B w xv m) (hB : B ≤ w.heap.size) (hlen : l.length + m.length ≤ 100000)
    (h : ∀ v' w', StrApd B w sv (l ++ m) v' w' → wpList Tryd.prog ops Q rest (a.put o.dst v') w') : wpList Tryd.prog ops Q (o :: rest) a w := by
  obtain ⟨i0, hi, hz0, hz1, hz2⟩ := info_parts info_str
  rcases hownx.2 with ⟨h0, h1⟩ | ⟨g, cap, cur, e1, e2, e3, e4, e5, e6, e7⟩
  · subst h0
    have hm : m = [] := List.eq_nil_of_length_eq_zero h1
    subst hm
    refine wpList_append_own_none hgd s x 27 ho B 9 i0 1 Tryd.underlying27 hi sv _ _ hs hown hx ?_
    refine h sv w ⟨?_, ⟨rfl, rfl, rfl, Nat.le_refl _, fun _ _ _ => rfl⟩, .inl rfl, Below.refl _ _⟩
    rw [List.append_nil]; exact hown
  · refine wpList_append_own_at _ hgd s x 27 ho B 9 i0 (.string ⟨#[]⟩) 1 16 Tryd.underlying27 hi hz0 hz1 hz2 rfl (by decide) sv _ _ hs hown ⟨g, 0, none⟩ m.length cap (m.map Value.string) (hx.trans e1) (by simp) ?_ (fun u hu => by rw [List.mem_map] at hu; obtain ⟨y, _, rfl⟩ := hu; rfl) (by unfold maxLen; omega) (by omega) hB ?_
    · intro j u hj
      have hjm : j < m.length := by
        rcases Nat.lt_or_ge j m.length with h | h
        · exact h
        · rw [List.getElem?_eq_none (by simpa using h)] at hj; cases hj
      have hc := row_cell e3 e7 (show j < m.length * 1 by omega)
      rw [hj] at hc
      have ha : (⟨g, 0, none⟩ : Addr).add j = ⟨g, j, none⟩ := by
        unfold Addr.add
        split
        · rename_i h; rw [h]
        · simp
      rw [ha]; exact hc
    · intro v' w' h2 h3 _ h5
      refine h v' w' ⟨?_, h3, h5, (Below.refl B _).grown h3 hB (fun k hk => (World.ownsRow.lt hown k hk).1)⟩
      unfold StrsOwn
      rw [List.map_append, List.length_append]
      exact h2
theorem size_toList {s : ByteArray} : s.toList = [] ↔ s.size = 0 := by
  rw [toList_data]
  exact ⟨fun h => by have := congrArg List.length h; simpa using this, fun h => List.eq_nil_of_length_eq_zero (by simpa using h)⟩
theorem isEmpty_of {s : ByteArray} (h : 0 < s.size) : s.toList.isEmpty = false := by
  cases h1 : s.toList with
  | nil => have := size_toList.1 h1; omega
  | cons _ _ => rfl
theorem idx_zero (s : ByteArray) (hp : 0 < s.size) (w : World) : (Instr.index 9 (.string s) (.int .i64 0)).run Tryd.prog w = .ok (.int .u8 ((s.get! 0).toNat : Int)) w := idx_str s 0 hp w
theorem byte_ne {b : UInt8} (h : b ≠ 47) : (b.toNat : Int) ≠ 47 := fun e => h (by apply UInt8.toNat_inj.1; have : b.toNat = 47 := by omega
                                                                                  rw [this]; rfl)
set_option maxHeartbeats 400000 in
theorem refSplit_no (s : ByteArray) (w : World) (h : Lib.hasPrefix s.data.toList [47] = false) :
    Calls Tryd.prog 16 #[.string s] w (SplitRet w ([], 22)) := by
  rw [hasPrefix_stroke, decide_eq_false_iff_not] at h
  rcases Nat.eq_zero_or_pos s.size with h0 | h0
  · have e0 : s.toList = [] := size_toList.2 h0
    clear h
    go_enter Tryd.func16, Tryd.ntmps16
    go_wp2_with fail
    go_ret2
    exact ⟨_, rfl, strs_nil _ _, Below.refl _ _⟩
  · have hb : s.get! 0 ≠ 47 := fun e => h ⟨h0, e⟩
    have hix := idx_zero s h0
    have hb2 := byte_ne hb
    have e0 := isEmpty_of h0
    generalize (s.get! 0).toNat = c at *
    have d1 : ((c : Int) != 47) = true := by rw [bne_iff_ne]; exact hb2
    clear h hb hb2
    go_enter Tryd.func16, Tryd.ntmps16
    go_wp2_with fail
    go_ret2
    exact ⟨_, rfl, strs_nil _ _, Below.refl _ _⟩
set_option maxHeartbeats 400000 in
theorem refSplit_long (s : ByteArray) (w : World) (h : Lib.hasPrefix s.data.toList [47] = true) (hl : 200 < s.size) (hs : s.size ≤ 9223372036854775807) :
    Calls Tryd.prog 16 #[.string s] w (SplitRet w ([], 36)) := by
  rw [hasPrefix_stroke, decide_eq_true_iff] at h
  obtain ⟨h0, hb⟩ := h
  have hix := idx_zero s h0
  rw [hb] at hix
  have e0 := isEmpty_of h0
  have hl2 : (200 : Int) < (s.size : Int) := by omega
  clear hb
  go_enter Tryd.func16, Tryd.ntmps16
  go_wp2_with fail
  go_ret2
  exact ⟨_, rfl, strs_nil _ _, Below.refl _ _⟩
set_option maxRecDepth 100000 in
set_option maxHeartbeats 1000000 in
theorem refSplit_go (s : ByteArray) (w : World) (h : Lib.hasPrefix s.data.toList [47] = true) (hl : s.size ≤ 200) :
    Calls Tryd.prog 16 #[.string s] w (SplitRet w (goRes (stackGo (partsOf s) []))) := by
  rw [hasPrefix_stroke, decide_eq_true_iff] at h
  obtain ⟨h0, hb⟩ := h
  rw [stackGo_first h0 hb]
  have hix := idx_zero s h0
  rw [hb] at hix
  have e0 := isEmpty_of h0
  have hl2 : (s.size : Int) ≤ 200 := by omega
  have hl1 : (1 : Int) ≤ (s.size : Int) := by omega
  obtain ⟨ans, hans⟩ : ∃ ans, stackGo (partsAt s 1) [] = ans := ⟨_, rfl⟩
  rw [hans]
  have HANS := Lib.hid hans
  have HIX := Lib.hid (idx_str s)
  have HCK := Lib.hid (fun (p : ByteArray) w hp => refCheck_any p w hp)
  have HSTEP := Lib.hid (fun p i h1 h2 h3 h4 => @partsAt_step s p i h1 h2 h3 h4)
  clear hb hans
  go_enter Tryd.func16, Tryd.ntmps16
  go_wp2_with fail
  go_loopw [4, 5, 6] (fun lv fv iv wr => ∃ (p i : Nat) (acc : List ByteArray), 1 ≤ p ∧ p ≤ i ∧ i ≤ s.size + 1 ∧ iv = .int .i64 (i : Int) ∧ fv = .int .i64 (p : Int) ∧ StrsOwn w.heap.size wr lv acc ∧ Below w.heap.size w wr ∧ acc.length ≤ i ∧ Hid (stackGo (partsAt s p) acc = ans) ∧ Hid (∀ j, p ≤ j → j < i → s.get! j ≠ 47) ∧ Hid (i = s.size + 1 → p = s.size + 1)) (fun _ _ i _ => s.size + 1 - (intOf i).toNat)
  case atStart => exact ⟨1, 1, [], by omega, by omega, by omega, rfl, rfl, strs_nil _ _, Below.refl _ _, by simp, HANS, Lib.hid (fun j h1 h2 => by omega), Lib.hid (fun h => h)⟩
  case round =>
    obtain ⟨p, i, acc, hp1, hpi, hi, rfl, rfl, hown, hbw, hacc, HA, HNO, HEND⟩ := hrel
    obtain ⟨la, lc, hlv⟩ := owns_shape hown
    subst hlv
    have HOWN := Lib.hid hown
    have HB := Lib.hid hbw
    have hBs := hbw.size
    clear hown hbw hix
    by_cases hlt : i ≤ s.size
    · have hli : (i : Int) ≤ (s.size : Int) := by omega
      by_cases hgo : i < s.size ∧ s.get! i ≠ 47
      · obtain ⟨hi2, hc⟩ := hgo
        have hix2 := HIX.out i hi2
        have hb2 := byte_ne hc
        have HC := Lib.hid hc
        generalize (s.get! i).toNat = c at *
        have d1 : ((c : Int) != 47) = true := by rw [bne_iff_ne]; exact hb2
        have hi3 : (i : Int) < (s.size : Int) := by omega
        clear hb2 hc
        go_wp2_with fail
        exact ⟨⟨p, i + 1, acc, hp1, by omega, by omega, by go_num, rfl, HOWN.out, HB.out, by omega, HA, Lib.hid (fun j h1 h2 => by
          rcases Nat.lt_or_ge j i with h | h
          · exact HNO.out j h1 h
          · rw [show j = i by omega]; exact HC.out), Lib.hid (fun h => by omega)⟩, by simp [intOf]; omega⟩
      · have hend : i = s.size ∨ s.get! i = 47 := by
          by_cases h9 : s.get! i = 47
          · exact .inr h9
          · exact .inl (by rcases Nat.lt_or_ge i s.size with h | h; exact absurd ⟨h, h9⟩ hgo; omega)
        have hst := HA.out
        rw [HSTEP.out p i hpi hlt HNO.out hend] at hst
        have hsl : ∀ w, (Instr.slice 9 (.string s) (some (.int .i64 (p : Int))) (some (.int .i64 (i : Int))) none).run Tryd.prog w = .ok (.string (s.extract p i)) w := fun w => by
          rw [run_slice_string_if (P := Tryd.prog) w 9 s .i64 .i64 p i Tryd.underlying9, if_pos (by omega), if_pos (by omega)]
          rfl
        have hqs : (s.extract p i).size ≤ 200 := by rw [ByteArray.size_extract]; omega
        obtain ⟨q, hq⟩ : ∃ q, s.extract p i = q := ⟨_, rfl⟩
        rw [hq] at hst hsl hqs
        unfold stackGo at hst
        have hw2 : i = s.size ∨ ((i : Int) < (s.size : Int) ∧ i < s.size ∧ s.get! i = 47) := by
          rcases Nat.lt_or_ge i s.size with h | h
          · rcases hend with h1 | h1
            · omega
            · exact .inr ⟨by omega, h, h1⟩
          · exact .inl (by omega)
        have HNX : Hid (∀ j, i + 1 ≤ j → j < i + 1 → s.get! j ≠ 47) := Lib.hid (fun j h1 h2 => by omega)
        clear hq hgo hend
        have hix2 : i < s.size → ∀ w, (Instr.index 9 (.string s) (.int .i64 (i : Int))).run Tryd.prog w = .ok (.int .u8 (((s.get! i).toNat : Nat) : Int)) w := fun h => HIX.out i h
        have HIX2 := Lib.hid hix2
        clear hix2
        by_cases e0 : q.toList = [] ∨ q.toList = [46]
        · rw [if_pos e0] at hst
          have HST := Lib.hid hst
          clear hst
          rcases hw2 with hi3 | ⟨hi3, hi4, hc⟩
          · subst hi3
            rcases e0 with e0 | e0
            all_goals
              go_wp2_with fail
              exact ⟨⟨_, _, acc, by omega, by omega, by omega, by go_num, by go_num, HOWN.out, HB.out, by omega, HST, HNX, Lib.hid (by intro h; omega)⟩, by simp [intOf] <;> omega⟩
          · have hix3 := HIX2.out hi4
            rw [hc] at hix3
            rcases e0 with e0 | e0
            all_goals
              go_wp2_with fail
              exact ⟨⟨_, _, acc, by omega, by omega, by omega, by go_num, by go_num, HOWN.out, HB.out, by omega, HST, HNX, Lib.hid (by intro h; omega)⟩, by simp [intOf] <;> omega⟩
        · have e1 : q.toList ≠ [] := fun h => e0 (.inl h)
          have e2 : q.toList ≠ [46] := fun h => e0 (.inr h)
          have d1 : q.toList.isEmpty = false := by cases h : q.toList with
            | nil => exact absurd h e1
            | cons _ _ => rfl
          have d2 : (q.toList == [46]) = false := by rw [beq_eq_false_iff_ne]; exact e2
          rw [if_neg e0] at hst
          clear e0
          rcases hw2 with hi3 | ⟨hi3, hi4, hc⟩
          · subst hi3
            by_cases e3 : q.toList = [46, 46]
            · rw [if_pos e3] at hst
              have HST := Lib.hid hst
              clear hst
              rcases Nat.eq_zero_or_pos acc.length with h9 | h9
              · have hacc0 : acc = [] := List.eq_nil_of_length_eq_zero h9
                subst hacc0
                simp only [List.length_nil] at HOWN ⊢
                go_wp2_with fail
                exact ⟨⟨_, _, [], by omega, by omega, by omega, by go_num, by go_num, HOWN.out, HB.out, by simp, HST, HNX, Lib.hid (by intro h; omega)⟩, by simp [intOf] <;> omega⟩
              · have hsl2 := run_upto la acc.length lc (acc.length - 1) (by have := owns_cap HOWN.out; omega)
                have hmx : (acc.length : Int) - 1 = ((acc.length - 1 : Nat) : Int) := by omega
                have hown0 : StrsOwn w.heap.size wr (.slice la (acc.length - 1) lc) acc.dropLast := by
                  rw [List.dropLast_eq_take]
                  exact owns_take HOWN.out (by omega)
                have HOWN0 := Lib.hid hown0
                have h9i : (0 : Int) < (acc.length : Int) := by omega
                clear hown0
                go_wp2_with fail
                exact ⟨⟨_, _, acc.dropLast, by omega, by omega, by omega, by go_num, by go_num, HOWN0.out, HB.out, by simp; omega, HST, HNX, Lib.hid (by intro h; omega)⟩, by simp [intOf] <;> omega⟩
            · rw [if_neg e3] at hst
              have d3 : (q.toList == [46, 46]) = false := by rw [beq_eq_false_iff_ne]; exact e3
              have HC2 := Lib.hid (HCK.out q wr (by omega))
              obtain ⟨c, hc2⟩ : ∃ c, checkOf q = c := ⟨_, rfl⟩
              rw [hc2] at hst
              have HCC := Lib.hid hc2
              clear hc2
              by_cases hc0 : c = 0
              · rw [if_neg (by rw [hc0]; simp)] at hst
                have HST := Lib.hid hst
                have HC0 := Lib.hid (HCC.out.trans hc0)
                clear hst hc0
                go_wp2_with fail
                refine HC2.out.mono ?_
                rw [HC0.out]
                rintro e w3 ⟨rfl, hb3⟩
                have hown3 := strs_below HOWN.out hb3
                have hb33 := bel_trans HB.out hb3
                have HB3 := Lib.hid hb33
                have hB3 := hb33.size
                clear hb3 hb33
                go_wp2_with (at_builtin; refine wpList_strs rfl _ _ rfl w.heap.size (.slice none 0 0) (.slice la acc.length lc) [] acc rfl (strs_nil _ _) rfl hown3 hB3 (by simp; omega) ?_)
                intro v' w4 hA
                have hb4 := HB3.out.trans hA.below
                have HB4 := Lib.hid hb4
                have hB4 := hb4.size
                have hown4 := hA.own
                clear hb4 hA hown3
                go_wp2_with (at_builtin; refine wpList_str rfl _ _ rfl w.heap.size v' acc q rfl hown4 rfl hB4 (by omega) ?_)
                intro u' w5 hC
                have hb5 := (HB4.out.alloc hB4 _).trans hC.below
                have HB5 := Lib.hid hb5
                have HC5 := Lib.hid hC.own
                clear hb5 hC hown4
                go_wp2_with fail
                exact ⟨⟨_, _, acc ++ [q], by omega, by omega, by omega, by go_num, by go_num, HC5.out, HB5.out, by simp; omega, HST, HNX, Lib.hid (by intro h; omega)⟩, by simp [intOf] <;> omega⟩
              · rw [if_pos hc0] at hst
                have HST := Lib.hid hst
                have hcb : ((c : Int) != 0) = true := by rw [bne_iff_ne]; exact hc0
                have HC0 := Lib.hid hc0
                clear hst hc0
                go_wp2_with fail
                refine HC2.out.mono ?_
                rw [HCC.out]
                rintro e w3 ⟨rfl, hb3⟩
                have hbf := bel_trans HB.out hb3
                go_wp2
                go_ret2
                exact ⟨_, by rw [← HST.out, goRes_err HC0.out]; rfl, by rw [← HST.out, goRes_err HC0.out]; exact strs_nil _ _, hbf⟩
          · have hix3 := HIX2.out hi4
            rw [hc] at hix3
            clear hc
            by_cases e3 : q.toList = [46, 46]
            · rw [if_pos e3] at hst
              have HST := Lib.hid hst
              clear hst
              rcases Nat.eq_zero_or_pos acc.length with h9 | h9
              · have hacc0 : acc = [] := List.eq_nil_of_length_eq_zero h9
                subst hacc0
                simp only [List.length_nil] at HOWN ⊢
                go_wp2_with fail
                exact ⟨⟨_, _, [], by omega, by omega, by omega, by go_num, by go_num, HOWN.out, HB.out, by simp, HST, HNX, Lib.hid (by intro h; omega)⟩, by simp [intOf] <;> omega⟩
              · have hsl2 := run_upto la acc.length lc (acc.length - 1) (by have := owns_cap HOWN.out; omega)
                have hmx : (acc.length : Int) - 1 = ((acc.length - 1 : Nat) : Int) := by omega
                have hown0 : StrsOwn w.heap.size wr (.slice la (acc.length - 1) lc) acc.dropLast := by
                  rw [List.dropLast_eq_take]
                  exact owns_take HOWN.out (by omega)
                have HOWN0 := Lib.hid hown0
                have h9i : (0 : Int) < (acc.length : Int) := by omega
                clear hown0
                go_wp2_with fail
                exact ⟨⟨_, _, acc.dropLast, by omega, by omega, by omega, by go_num, by go_num, HOWN0.out, HB.out, by simp; omega, HST, HNX, Lib.hid (by intro h; omega)⟩, by simp [intOf] <;> omega⟩
            · rw [if_neg e3] at hst
              have d3 : (q.toList == [46, 46]) = false := by rw [beq_eq_false_iff_ne]; exact e3
              have HC2 := Lib.hid (HCK.out q wr (by omega))
              obtain ⟨c, hc2⟩ : ∃ c, checkOf q = c := ⟨_, rfl⟩
              rw [hc2] at hst
              have HCC := Lib.hid hc2
              clear hc2
              by_cases hc0 : c = 0
              · rw [if_neg (by rw [hc0]; simp)] at hst
                have HST := Lib.hid hst
                have HC0 := Lib.hid (HCC.out.trans hc0)
                clear hst hc0
                go_wp2_with fail
                refine HC2.out.mono ?_
                rw [HC0.out]
                rintro e w3 ⟨rfl, hb3⟩
                have hown3 := strs_below HOWN.out hb3
                have hb33 := bel_trans HB.out hb3
                have HB3 := Lib.hid hb33
                have hB3 := hb33.size
                clear hb3 hb33
                go_wp2_with (at_builtin; refine wpList_strs rfl _ _ rfl w.heap.size (.slice none 0 0) (.slice la acc.length lc) [] acc rfl (strs_nil _ _) rfl hown3 hB3 (by simp; omega) ?_)
                intro v' w4 hA
                have hb4 := HB3.out.trans hA.below
                have HB4 := Lib.hid hb4
                have hB4 := hb4.size
                have hown4 := hA.own
                clear hb4 hA hown3
                go_wp2_with (at_builtin; refine wpList_str rfl _ _ rfl w.heap.size v' acc q rfl hown4 rfl hB4 (by omega) ?_)
                intro u' w5 hC
                have hb5 := (HB4.out.alloc hB4 _).trans hC.below
                have HB5 := Lib.hid hb5
                have HC5 := Lib.hid hC.own
                clear hb5 hC hown4
                go_wp2_with fail
                exact ⟨⟨_, _, acc ++ [q], by omega, by omega, by omega, by go_num, by go_num, HC5.out, HB5.out, by simp; omega, HST, HNX, Lib.hid (by intro h; omega)⟩, by simp [intOf] <;> omega⟩
              · rw [if_pos hc0] at hst
                have HST := Lib.hid hst
                have hcb : ((c : Int) != 0) = true := by rw [bne_iff_ne]; exact hc0
                have HC0 := Lib.hid hc0
                clear hst hc0
                go_wp2_with fail
                refine HC2.out.mono ?_
                rw [HCC.out]
                rintro e w3 ⟨rfl, hb3⟩
                have hbf := bel_trans HB.out hb3
                go_wp2
                go_ret2
                exact ⟨_, by rw [← HST.out, goRes_err HC0.out]; rfl, by rw [← HST.out, goRes_err HC0.out]; exact strs_nil _ _, hbf⟩
    · have hli : (s.size : Int) < (i : Int) := by omega
      have hps : p = s.size + 1 := HEND.out (by omega)
      have hst := HA.out
      rw [hps, partsAt_out (by omega)] at hst
      unfold stackGo at hst
      have HST := Lib.hid hst
      clear hst hps
      by_cases h12 : 12 < acc.length
      · have h12i : (12 : Int) < (acc.length : Int) := by omega
        go_wp2_with fail
        go_ret2
        exact ⟨_, by rw [← HST.out, goRes_deep rfl h12]; rfl, by rw [← HST.out, goRes_deep rfl h12]; exact strs_nil _ _, HB.out⟩
      · have h12i : (acc.length : Int) ≤ 12 := by omega
        go_wp2_with fail
        go_ret2
        exact ⟨_, by rw [← HST.out, goRes_ok rfl h12]; rfl, by rw [← HST.out, goRes_ok rfl h12]; exact HOWN.out, HB.out⟩
theorem refSplit_any (s : ByteArray) (w : World) (hs : s.size ≤ 9223372036854775807) :
    Calls Tryd.prog 16 #[.string s] w (SplitRet w (splitOf s)) := by
  unfold splitOf
  cases h : Lib.hasPrefix s.data.toList [47] with
  | false => rw [if_pos rfl]; exact refSplit_no s w h
  | true =>
    rw [if_neg (by simp)]
    by_cases hl : 200 < s.size
    · rw [if_pos hl]; exact refSplit_long s w h hl hs
    · rw [if_neg hl]; exact refSplit_go s w h (by omega)

end Go.Proofs.YtjldpgcbaibpcaaDoor
