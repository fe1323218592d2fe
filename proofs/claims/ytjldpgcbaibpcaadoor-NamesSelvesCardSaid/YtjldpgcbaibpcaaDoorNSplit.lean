/- names.Split. -/
import Derived.Test.YtjldpgcbaibpcaaDoorNCheck
import Derived.Lib.SplitLaws
namespace Go.Proofs.YtjldpgcbaibpcaaDoor
open Go.RowKit

def slash : ByteArray := ⟨#[47]⟩
def partsOf (s : ByteArray) : List ByteArray := Lib.splitB slash 0 (Lib.countB s slash) s
/-- The names behind some parts: those that are there, and an error. -/
def stackGo : List ByteArray → List ByteArray → List ByteArray × Int
  | [], acc => (acc, 0)
  | p :: ps, acc =>
    if p.toList = [] ∨ p.toList = [46] then stackGo ps acc
    else if p.toList = [46, 46] then stackGo ps acc.dropLast
    else if checkOf p ≠ 0 then ([], checkOf p)
    else stackGo ps (acc ++ [p])
def goRes (a : List ByteArray × Int) : List ByteArray × Int := if a.2 ≠ 0 then ([], a.2) else if 12 < a.1.length then ([], 36) else (a.1, 0)
theorem goRes_err {a : List ByteArray × Int} (h : a.2 ≠ 0) : goRes a = ([], a.2) := by unfold goRes; rw [if_pos h]
theorem goRes_deep {a : List ByteArray × Int} (h : a.2 = 0) (h1 : 12 < a.1.length) : goRes a = ([], 36) := by unfold goRes; rw [if_neg (fun e => e h), if_pos h1]
theorem goRes_ok {a : List ByteArray × Int} (h : a.2 = 0) (h1 : ¬ 12 < a.1.length) : goRes a = (a.1, 0) := by unfold goRes; rw [if_neg (fun e => e h), if_neg h1]
def splitOf (s : ByteArray) : List ByteArray × Int :=
  if Lib.hasPrefix s.data.toList [47] = false then ([], 22) else if 200 < s.size then ([], 36)
  else goRes (stackGo (partsOf s) [])
/-- A slice of texts of the call's own. -/
def StrsOwn (B : Nat) (w : World) (sv : Value) (l : List ByteArray) : Prop := w.ownsRow B 9 1 sv l.length (l.map Value.string)
def SplitRet (w : World) (r : List ByteArray × Int) (e : Ending) (w' : World) : Prop := ∃ sv, e = .returned (.tuple #[sv, .int .i64 r.2]) ∧ StrsOwn w.heap.size w' sv r.1 ∧ Below w.heap.size w w'
theorem info_str : (Tryd.prog.info? 9).map (fun i => (i.zero, i.size, i.bytes)) = some (some (.string ⟨#[]⟩), 1, 16) := by kernel_rfl
theorem strs_nil (B : Nat) (w : World) : StrsOwn B w (.slice none 0 0) [] := World.ownsRow_nil _ _ _ _
set_option maxHeartbeats 400000 in
theorem split_no (s : ByteArray) (w : World) (h : Lib.hasPrefix s.data.toList [47] = false) :
    Calls Tryd.prog 15 #[.string s] w (SplitRet w ([], 22)) := by
  have H := Tryd.strings_HasPrefix s slash w
  rw [show slash.data.toList = [47] from rfl, h] at H
  have HP := Lib.hid H
  clear H h
  go_enter Tryd.func15, Tryd.ntmps15
  go_wp2_with fail
  refine HP.out.mono ?_
  rintro e w1 ⟨rfl, hw1⟩
  subst hw1
  go_wp2
  go_ret2
  exact ⟨_, rfl, strs_nil _ _, Below.refl _ _⟩
set_option maxHeartbeats 400000 in
theorem split_long (s : ByteArray) (w : World) (h : Lib.hasPrefix s.data.toList [47] = true) (hl : 200 < s.size) (hs : s.size ≤ 9223372036854775807) :
    Calls Tryd.prog 15 #[.string s] w (SplitRet w ([], 36)) := by
  have H := Tryd.strings_HasPrefix s slash w
  rw [show slash.data.toList = [47] from rfl, h] at H
  have HP := Lib.hid H
  have hl2 : (200 : Int) < (s.size : Int) := by omega
  clear H h
  go_enter Tryd.func15, Tryd.ntmps15
  go_wp2_with fail
  refine HP.out.mono ?_
  rintro e w1 ⟨rfl, hw1⟩
  subst hw1
  go_wp2
  go_ret2
  exact ⟨_, rfl, strs_nil _ _, Below.refl _ _⟩
theorem parts_row (w : World) (l : List ByteArray) (t : TypeId) (k : Nat) (hk : k < l.length) : (w.alloc (.cells (l.map Value.string).toArray t)).cell? ⟨w.heap.size, k, none⟩ = some (.string l[k]) := by
  rw [World.cell?_alloc_mark w (l.map Value.string).toArray t (0, 0) k]
  simp [hk]
theorem splitB_size (sep : ByteArray) : ∀ (k : Nat) (s : ByteArray), ∀ p ∈ Lib.splitB sep 0 k s, p.size ≤ s.size
  | 0, s, p, hp => by simp [Lib.splitB] at hp; rw [hp]; exact Nat.le_refl _
  | k + 1, s, p, hp => by
    unfold Lib.splitB at hp
    split at hp
    · simp at hp; rw [hp]; exact Nat.le_refl _
    · rw [List.mem_cons] at hp
      rcases hp with rfl | hp
      · simp; omega
      · have := splitB_size sep k _ p hp
        simp at this
        omega
theorem news_one (w : World) (v : Value) (t : TypeId) : ∀ (j : Nat) (u : Value), [v][j]? = some u → (w.alloc (.cells #[v] t)).cell? ((⟨w.heap.size, 0, none⟩ : Addr).add j) = some u := by
  intro j u hu
  match j, hu with
  | 0, hu => simp at hu; subst hu; exact cell_new1 w v t
theorem owns_cap {B : Nat} {w : World} {e : TypeId} {sz : Nat} {a : Option Addr} {n c m : Nat} {xs : List Value} (h : w.ownsRow B e sz (.slice a n c) m xs) : n ≤ c := by
  rcases h.2 with ⟨h0, h1⟩ | ⟨g, cap, cur, e1, _, _, e4, _⟩
  · simp only [Value.slice.injEq] at h0; omega
  · simp only [Value.slice.injEq] at e1; omega
theorem run_upto (a : Option Addr) (n c j : Nat) (hj : j ≤ c) (w : World) : (Instr.slice 27 (.slice a n c) none (some (.int .i64 (j : Int))) none).run Tryd.prog w = .ok (.slice a j c) w := by
  have hz : (sizeOf (Tryd.prog.elem 27)).run Tryd.prog w = .ok 1 w := by kernel_rfl
  rw [run_slice_h (P := Tryd.prog) w 27 a n c Tryd.underlying27 .i64 (j : Int) (by omega) (by omega), hz]
  simp only [Result.andThen, sliced, Int.toNat_natCast, Nat.zero_mul, Nat.sub_zero]
  congr 2
  split
  · rfl
  · cases a with
    | none => rfl
    | some x => simp [Addr.add]
theorem owns_take {B : Nat} {w : World} {a : Option Addr} {c j : Nat} {l : List ByteArray} (h : StrsOwn B w (.slice a l.length c) l) (hj : j ≤ l.length) : StrsOwn B w (.slice a j c) (l.take j) := by
  have hlen : (l.take j).length = j := by simp; omega
  unfold StrsOwn at h ⊢
  rw [hlen]
  refine ⟨by simp; omega, ?_⟩
  rcases h.2 with ⟨h0, h1⟩ | ⟨g, cap, cur, e1, e2, e3, e4, e5, e6, e7⟩
  · simp only [Value.slice.injEq] at h0
    obtain ⟨rfl, _, rfl⟩ := h0
    have : j = 0 := by omega
    subst this
    exact .inl ⟨rfl, rfl⟩
  · simp only [Value.slice.injEq] at e1
    obtain ⟨rfl, _, rfl⟩ := e1
    refine .inr ⟨g, c, cur, rfl, e2, e3, by omega, e5, e6, ?_⟩
    have h7 := congrArg (List.take (j * 1)) e7
    rw [List.take_take, Nat.min_eq_left (by omega)] at h7
    rw [h7, List.map_take, Nat.mul_one]
set_option maxRecDepth 100000 in
set_option maxHeartbeats 1000000 in
theorem split_go (s : ByteArray) (w : World) (h : Lib.hasPrefix s.data.toList [47] = true) (hl : s.size ≤ 200) (hT : NOk w) :
    Calls Tryd.prog 15 #[.string s] w (SplitRet w (goRes (stackGo (partsOf s) []))) := by
  have H := Tryd.strings_HasPrefix s slash w
  rw [show slash.data.toList = [47] from rfl, h] at H
  have HP := Lib.hid H
  have hl2 : (s.size : Int) ≤ 200 := by omega
  obtain ⟨ans, hans⟩ : ∃ ans, stackGo (partsOf s) [] = ans := ⟨_, rfl⟩
  rw [hans]
  obtain ⟨m0, hm0⟩ := hT.2
  have HSP := Lib.hid (Tryd.strings_Split s slash m0 w (by omega) hm0 (by decide))
  have hpl : (partsOf s).length = Lib.countB s slash + 1 := Lib.splitB_all slash (by decide) 0 _ s rfl
  have hcl : Lib.countB s slash ≤ s.size := Lib.countB_le slash (by decide) _ s (Nat.le_refl _)
  have hrow := parts_row w (partsOf s) 9
  have HS0 := HSP.out
  rw [← hpl] at HS0
  have hp0 : Lib.splitB slash 0 (Lib.countB s slash) s = partsOf s := rfl
  rw [hp0] at HS0
  have hpsz : ∀ p ∈ partsOf s, p.size ≤ 9223372036854775807 := fun p hp => by have := splitB_size slash _ s p hp; omega
  have hMs : (partsOf s).length ≤ 201 := by omega
  obtain ⟨l, hle⟩ : ∃ l, partsOf s = l := ⟨_, rfl⟩
  rw [hle] at hans hrow HS0 hpsz hMs
  obtain ⟨M, hM⟩ : ∃ M, l.length = M := ⟨_, rfl⟩
  obtain ⟨w1, hw1⟩ : ∃ w1, w.alloc (.cells (l.map Value.string).toArray 9) = w1 := ⟨_, rfl⟩
  have hbw1 : Below w.heap.size w w1 := by rw [← hw1]; exact bel_alloc (Below.refl _ w) _
  rw [hw1] at HS0 hrow
  rw [hM] at HS0 hMs
  have HSP2 := Lib.hid HS0
  have HBW := Lib.hid hbw1
  have HNOK := Lib.hid (nok_below hT hbw1)
  have HROW := Lib.hid hrow
  have HANS := Lib.hid hans
  have HM := Lib.hid hM
  have HPSZ := Lib.hid hpsz
  obtain ⟨i0, hi, hz0, hz1, hz2⟩ := info_parts info_str
  clear H h hans HSP hpl hcl hrow HS0 hp0 hle hM hw1 hbw1 hT hm0 hpsz
  go_enter Tryd.func15, Tryd.ntmps15
  go_wp2_with fail
  refine HP.out.mono ?_
  rintro e w2 ⟨rfl, hw2⟩
  have hw3 := hw2.symm
  clear hw2
  subst hw3
  go_wp2_with fail
  refine HSP2.out.mono ?_
  rintro e w2 ⟨rfl, hw2⟩
  have hw3 := hw2.symm
  clear hw2
  subst hw3
  go_wp2_with fail
  go_loopw [4, 17] (fun lv i wr => ∃ (k : Nat) (acc : List ByteArray), k ≤ M ∧ i = .int .i64 k ∧ StrsOwn w1.heap.size wr lv acc ∧ Below w1.heap.size w1 wr ∧ acc.length ≤ k ∧ Hid (stackGo (l.drop k) acc = ans)) (fun _ i _ => M - (intOf i).toNat)
  case atStart => exact ⟨0, [], by omega, rfl, strs_nil _ _, Below.refl _ _, by simp, HANS⟩
  case round =>
    obtain ⟨k, acc, hk, rfl, hown, hb, hacc, HA⟩ := hrel
    obtain ⟨la, lc, hlv⟩ := owns_shape hown
    subst hlv
    have HOWN := Lib.hid hown
    have HB := Lib.hid hb
    have hk201 : acc.length ≤ 201 := by omega
    clear hown
    by_cases hlt : k < M
    · have hkl : k < l.length := by have := HM.out; omega
      have hc1 := below_cell hb (HROW.out k hkl)
      obtain ⟨p, hp⟩ : ∃ p, l[k] = p := ⟨_, rfl⟩
      rw [hp] at hc1
      have hst := HA.out
      rw [List.drop_eq_getElem_cons hkl, hp] at hst
      have hpsz : p.size ≤ 9223372036854775807 := HPSZ.out p (by rw [← hp]; exact List.getElem_mem _)
      unfold stackGo at hst
      clear hp hb
      by_cases e0 : p.toList = [] ∨ p.toList = [46]
      · rw [if_pos e0] at hst
        have HST := Lib.hid hst
        clear hst
        rcases e0 with e0 | e0
        all_goals
          go_wp2_with fail
          go_roundw
          case rel => exact ⟨k + 1, acc, by omega, by go_num, HOWN.out, HB.out, by omega, HST⟩
          case measure => simp [intOf]; omega
      · have e1 : p.toList ≠ [] := fun h => e0 (.inl h)
        have e2 : p.toList ≠ [46] := fun h => e0 (.inr h)
        have d1 : p.toList.isEmpty = false := by cases h : p.toList with
          | nil => exact absurd h e1
          | cons _ _ => rfl
        have d2 : (p.toList == [46]) = false := by rw [beq_eq_false_iff_ne]; exact e2
        rw [if_neg e0] at hst
        clear e0
        by_cases e3 : p.toList = [46, 46]
        · rw [if_pos e3] at hst
          have HST := Lib.hid hst
          clear hst
          rcases Nat.eq_zero_or_pos acc.length with h0 | h0
          · have hsl := run_upto la acc.length lc 0 (Nat.zero_le _)
            have hacc0 : acc = [] := List.eq_nil_of_length_eq_zero h0
            have hds : acc.dropLast = acc := by rw [hacc0]; rfl
            have HDS := Lib.hid hds
            rw [h0] at hsl ⊢
            clear hacc0 hds
            have hown0 : StrsOwn w1.heap.size wr (.slice la 0 lc) acc.dropLast := by
              have h9 := HOWN.out
              rw [h0] at h9
              rw [HDS.out]
              exact h9
            have HOWN0 := Lib.hid hown0
            clear hown0
            go_wp2_with fail
            exact ⟨⟨k + 1, acc.dropLast, by omega, by go_num, HOWN0.out, HB.out, by simp; omega, HST⟩, by simp [intOf]; omega⟩
          · have hsl := run_upto la acc.length lc (acc.length - 1) (by have := owns_cap HOWN.out; omega)
            have hmx : max ((acc.length : Int) - 1) 0 = ((acc.length - 1 : Nat) : Int) := by omega
            have hown0 : StrsOwn w1.heap.size wr (.slice la (acc.length - 1) lc) acc.dropLast := by
              rw [List.dropLast_eq_take]
              exact owns_take HOWN.out (by omega)
            have HOWN0 := Lib.hid hown0
            clear hown0
            go_wp2_with fail
            exact ⟨⟨k + 1, acc.dropLast, by omega, by go_num, HOWN0.out, HB.out, by simp; omega, HST⟩, by simp [intOf]; omega⟩
        · rw [if_neg e3] at hst
          have d3 : (p.toList == [46, 46]) = false := by rw [beq_eq_false_iff_ne]; exact e3
          have HCK := Lib.hid (check_any p wr hpsz (nok_below HNOK.out HB.out))
          obtain ⟨c, hc⟩ : ∃ c, checkOf p = c := ⟨_, rfl⟩
          rw [hc] at hst
          have HC := Lib.hid hc
          clear hc
          by_cases hc0 : c = 0
          · rw [if_neg (by rw [hc0]; simp)] at hst
            have HST := Lib.hid hst
            have HC0 := Lib.hid (HC.out.trans hc0)
            clear hst hc0
            go_wp2_with fail
            refine HCK.out.mono ?_
            rw [HC0.out]
            rintro e w3 ⟨rfl, hb3⟩
            have hown3 := owns_below HOWN.out hb3
            have HB3 := Lib.hid hb3
            clear hb3
            go_wp2_with (at_builtin; refine wpList_append_own_at _ rfl _ _ 27 rfl w1.heap.size 9 i0 (.string ⟨#[]⟩) 1 16 Tryd.underlying27 hi hz0 hz1 hz2 rfl (by decide) _ _ _ rfl (hown3.alloc _) ⟨w3.heap.size, 0, none⟩ 1 1 [.string p] rfl rfl ?c1 ?c2 ?c3 ?c4 ?c5 ?_)
            case c1 => exact news_one w3 _ _
            case c2 => intro u hu; simp at hu; subst hu; rfl
            case c3 => unfold maxLen; omega
            case c4 => omega
            case c5 => have h1 := HB.out.size; have h2 := HB3.out.size; simp; omega
            intro v' w4 hown4 hg4 _ _
            have hlt4 := hown3.lt
            have hb4 : Below w1.heap.size w1 w4 := (bel_alloc (bel_trans HB.out HB3.out) _).trans ((Below.refl w1.heap.size _).grown hg4 (by have h1 := HB.out.size; have h2 := HB3.out.size; simp; omega) (fun k hk => (hlt4 k hk).1))
            have hown5 : StrsOwn w1.heap.size w4 v' (acc ++ [p]) := by unfold StrsOwn; simpa using hown4
            have HOWN5 := Lib.hid hown5
            clear hown3 hlt4 hown4 hg4 hown5
            go_wp2
            go_roundw
            case rel => exact ⟨k + 1, acc ++ [p], by omega, by go_num, HOWN5.out, hb4, by simp; omega, HST⟩
            case measure => simp [intOf]; omega
          · rw [if_pos hc0] at hst
            have HST := Lib.hid hst
            have hcb : ((c : Int) != 0) = true := by rw [bne_iff_ne]; exact hc0
            have HC0 := Lib.hid hc0
            clear hst hc0
            go_wp2_with fail
            refine HCK.out.mono ?_
            rw [HC.out]
            rintro e w3 ⟨rfl, hb3⟩
            have hbf := (HBW.out.trans (HB.out.mono HBW.out.size)).trans (hb3.mono (by have h1 := HB.out.size; have h2 := HBW.out.size; omega))
            go_wp2
            go_ret2
            exact ⟨_, by rw [← HST.out, goRes_err HC0.out]; rfl, by rw [← HST.out, goRes_err HC0.out]; exact strs_nil _ _, hbf⟩
    · have hst := HA.out
      rw [List.drop_of_length_le (by have := HM.out; omega)] at hst
      unfold stackGo at hst
      have HST := Lib.hid hst
      clear hst
      have hbf := HBW.out.trans (HB.out.mono HBW.out.size)
      by_cases h12 : 12 < acc.length
      · have h12i : (12 : Int) < (acc.length : Int) := by omega
        go_wp2
        go_ret2
        exact ⟨_, by rw [← HST.out, goRes_deep rfl h12]; rfl, by rw [← HST.out, goRes_deep rfl h12]; exact strs_nil _ _, hbf⟩
      · have h12i : (acc.length : Int) ≤ 12 := by omega
        go_wp2
        go_ret2
        exact ⟨_, by rw [← HST.out, goRes_ok rfl h12]; rfl, by rw [← HST.out, goRes_ok rfl h12]; exact owns_mono HOWN.out HBW.out.size, hbf⟩

theorem split_any (s : ByteArray) (w : World) (hs : s.size ≤ 9223372036854775807) (hT : NOk w) :
    Calls Tryd.prog 15 #[.string s] w (SplitRet w (splitOf s)) := by
  unfold splitOf
  cases h : Lib.hasPrefix s.data.toList [47] with
  | false => rw [if_pos rfl]; exact split_no s w h
  | true =>
    rw [if_neg (by simp)]
    by_cases hl : 200 < s.size
    · rw [if_pos hl]; exact split_long s w h hl hs
    · rw [if_neg hl]; exact split_go s w h (by omega) hT

end Go.Proofs.YtjldpgcbaibpcaaDoor
