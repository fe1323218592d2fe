/- gabionref04: Read, Program, Erase, where nothing comes. -/
import Derived.Test.YtbfmpcomjmcfjaaQBegin
import Derived.Test.YtbfmpcomjmcfjaaPad
namespace Go.Proofs.Ytbfmpcomjmcfjaa
open Go.RowKit Go.Deep

theorem cyc_set {N k : Nat} (hk : k < N) : ((cyc [255] N k).map u8v).set k (u8v 255) = (cyc [255] N (k + 1)).map u8v := by
  rw [← List.map_set]
  congr 1
  apply List.ext_getElem?
  intro i
  by_cases h : i < N
  · rw [List.getElem?_set, cyc_at h, cyc_at h]
    by_cases e : k = i
    · subst e
      rw [if_pos rfl, if_pos (by rw [cyc_len]; exact hk), if_pos (by omega)]
      simp [Nat.mod_one]
    · rw [if_neg e]
      by_cases q : i < k
      · rw [if_pos q, if_pos (by omega)]
      · rw [if_neg q, if_neg (by omega)]
  · rw [List.getElem?_eq_none (by rw [List.length_set, cyc_len]; omega), List.getElem?_eq_none (by rw [cyc_len]; omega)]
section
variable {B : Nat} {tag : Nat → Option QT} {L : QL} {S : NS} {w : World}
/-- begin's answer, as the operations meet it. -/
def QBeg (B : Nat) (tag : Nat → Option QT) (L : QL) (S : NS) (w : World) (c d n : Int) : Prop :=
  Calls Try.prog 138 #[.pointer (some ⟨L.pa, 0, none⟩), .int .i64 c, .int .i64 d] w fun e w' => e = .returned (.tuple #[.agg #[.int .i64 0, .int .i64 0, .int .i64 0, .slice none 0 0], .int .i64 n]) ∧ QA B tag L S w' ∧ Kept (ownQ tag) w w'
def QORet (B : Nat) (tag : Nat → Option QT) (S : NS) (pa : Nat) (w : World) (n : Int) (e : Ending) (w' : World) : Prop :=
  e = .returned (.int .i64 n) ∧ ∃ tag' L', L'.pa = pa ∧ L'.ev = .slice none 0 0 ∧ QA B tag' L' S w' ∧ (∀ k, ownQ tag' k → ownQ tag k ∨ w.heap.size ≤ k) ∧ Kept (ownQ tag) w w'
def QRRet (B : Nat) (tag : Nat → Option QT) (L : QL) (S : NS) (w : World) (m : Nat) (bs : List Nat) (n : Int) (e : Ending) (w' : World) : Prop :=
  ∃ a c, e = .returned (.tuple #[.slice a m c, .int .i64 n]) ∧ Row w' a m bs ∧ QA B tag L S w' ∧ Kept (ownQ tag) w w'

set_option maxRecDepth 100000 in
set_option maxHeartbeats 1600000 in
theorem qread_err (c d n : Int) (pp : Int) (hn : n ≠ 0) (hb : QBeg B tag L S w c d n) : Calls Try.prog 76 #[.pointer (some ⟨L.pa, 0, none⟩), .int .i64 c, .int .i64 d, .int .i64 pp] w (QRRet B tag L S w 0 [] n) := by
  have q : (n != 0) = true := by simpa using hn
  clear hn
  unfold QBeg at hb
  go_enter Try.func76, Try.ntmps76
  go_wp2_with fail
  ((with_reducible refine hb.mono ?_))
  rintro e w1 ⟨rfl, h1, k1⟩
  have KA : Kept (ownQ tag) w (w1.alloc (.cells #[.int .i64 0, .int .i64 0, .int .i64 0, .slice none 0 0] 153)) := k1.trans (Kept.of_below (F := ownQ tag) (bel_alloc (Below.refl _ w1) _)) (fun _ _ h => h)
  have HA := h1.below (bel_alloc (Below.refl _ w1) (.cells #[.int .i64 0, .int .i64 0, .int .i64 0, .slice none 0 0] 153))
  clear hb
  have RES := Lib.hid (And.intro HA KA)
  clear h1 k1 HA KA
  go_wp2
  go_ret2
  exact ⟨none, 0, rfl, ⟨rfl, (fun x hx => by cases hx), (fun h => by omega)⟩, RES.out⟩
set_option maxRecDepth 100000 in
set_option maxHeartbeats 1600000 in
theorem qprogram_err (c d n : Int) (pp : Int) (v1 v2 : Value) (hev : L.ev = .slice none 0 0) (hn : n ≠ 0) (hb : QBeg B tag L S w c d n) : Calls Try.prog 78 #[.pointer (some ⟨L.pa, 0, none⟩), .int .i64 c, .int .i64 d, .int .i64 pp, v1, v2] w (QORet B tag S L.pa w n) := by
  have q : (n != 0) = true := by simpa using hn
  have HEV := Lib.hid hev
  clear hn hev
  unfold QBeg at hb
  go_enter Try.func78, Try.ntmps78
  go_wp2_with fail
  ((with_reducible refine hb.mono ?_))
  rintro e w1 ⟨rfl, h1, k1⟩
  have KA : Kept (ownQ tag) w (w1.alloc (.cells #[.int .i64 0, .int .i64 0, .int .i64 0, .slice none 0 0] 153)) := k1.trans (Kept.of_below (F := ownQ tag) (bel_alloc (Below.refl _ w1) _)) (fun _ _ h => h)
  have HA := h1.below (bel_alloc (Below.refl _ w1) (.cells #[.int .i64 0, .int .i64 0, .int .i64 0, .slice none 0 0] 153))
  clear hb
  have RES := Lib.hid (And.intro HA KA)
  clear h1 k1 HA KA
  go_wp2
  go_ret
  exact ⟨rfl, tag, L, rfl, HEV.out, RES.out.1, fun _ h => .inl h, RES.out.2⟩
set_option maxRecDepth 100000 in
set_option maxHeartbeats 1600000 in
theorem qerase_err (c d n : Int)  (hev : L.ev = .slice none 0 0) (hn : n ≠ 0) (hb : QBeg B tag L S w c d n) : Calls Try.prog 79 #[.pointer (some ⟨L.pa, 0, none⟩), .int .i64 c, .int .i64 d] w (QORet B tag S L.pa w n) := by
  have q : (n != 0) = true := by simpa using hn
  have HEV := Lib.hid hev
  clear hn hev
  unfold QBeg at hb
  go_enter Try.func79, Try.ntmps79
  go_wp2_with fail
  ((with_reducible refine hb.mono ?_))
  rintro e w1 ⟨rfl, h1, k1⟩
  have KA : Kept (ownQ tag) w (w1.alloc (.cells #[.int .i64 0, .int .i64 0, .int .i64 0, .slice none 0 0] 153)) := k1.trans (Kept.of_below (F := ownQ tag) (bel_alloc (Below.refl _ w1) _)) (fun _ _ h => h)
  have HA := h1.below (bel_alloc (Below.refl _ w1) (.cells #[.int .i64 0, .int .i64 0, .int .i64 0, .slice none 0 0] 153))
  clear hb
  have RES := Lib.hid (And.intro HA KA)
  clear h1 k1 HA KA
  go_wp2
  go_ret
  exact ⟨rfl, tag, L, rfl, HEV.out, RES.out.1, fun _ h => .inl h, RES.out.2⟩
set_option maxRecDepth 100000 in
set_option maxHeartbeats 1600000 in
theorem qread_neg (c d : Int) (p : Int) (hp : p < 0) (hb : QBeg B tag L S w c d 0) : Calls Try.prog 76 #[.pointer (some ⟨L.pa, 0, none⟩), .int .i64 c, .int .i64 d, .int .i64 p] w (QRRet B tag L S w 0 [] 34) := by
  unfold QBeg at hb
  go_enter Try.func76, Try.ntmps76
  go_wp2_with fail
  ((with_reducible refine hb.mono ?_))
  rintro e w1 ⟨rfl, h1, k1⟩
  have KA : Kept (ownQ tag) w (w1.alloc (.cells #[.int .i64 0, .int .i64 0, .int .i64 0, .slice none 0 0] 153)) := k1.trans (Kept.of_below (F := ownQ tag) (bel_alloc (Below.refl _ w1) _)) (fun _ _ h => h)
  have HA := h1.below (bel_alloc (Below.refl _ w1) (.cells #[.int .i64 0, .int .i64 0, .int .i64 0, .slice none 0 0] 153))
  clear hb
  have p1 : decide (p < 0) = true := decide_eq_true hp
  have RES := Lib.hid (And.intro HA KA)
  clear h1 k1 HA KA hp
  go_wp2
  go_ret2
  exact ⟨none, 0, rfl, ⟨rfl, (fun x hx => by cases hx), (fun h => by omega)⟩, RES.out⟩
set_option maxRecDepth 100000 in
set_option maxHeartbeats 1600000 in
theorem qread_far (c d : Int) (p : Int) (hp : (S.g2 : Int) ≤ p) (hb : QBeg B tag L S w c d 0) : Calls Try.prog 76 #[.pointer (some ⟨L.pa, 0, none⟩), .int .i64 c, .int .i64 d, .int .i64 p] w (QRRet B tag L S w 0 [] 34) := by
  unfold QBeg at hb
  go_enter Try.func76, Try.ntmps76
  go_wp2_with fail
  ((with_reducible refine hb.mono ?_))
  rintro e w1 ⟨rfl, h1, k1⟩
  have KA : Kept (ownQ tag) w (w1.alloc (.cells #[.int .i64 0, .int .i64 0, .int .i64 0, .slice none 0 0] 153)) := k1.trans (Kept.of_below (F := ownQ tag) (bel_alloc (Below.refl _ w1) _)) (fun _ _ h => h)
  have HA := h1.below (bel_alloc (Below.refl _ w1) (.cells #[.int .i64 0, .int .i64 0, .int .i64 0, .slice none 0 0] 153))
  clear hb
  have p1 : decide (p < 0) = false := decide_eq_false (by omega)
  have p2 : decide ((S.g2 : Int) ≤ p) = true := decide_eq_true hp
  have c2 := h1.c .g2
  have pal := (h1.range _ _ h1.tpa).2
  have RES := Lib.hid (And.intro HA KA)
  clear h1 k1 HA KA hp
  go_wp2
  go_ret2
  exact ⟨none, 0, rfl, ⟨rfl, (fun x hx => by cases hx), (fun h => by omega)⟩, RES.out⟩
set_option maxRecDepth 100000 in
set_option maxHeartbeats 3200000 in
theorem qread_some (i j p : Nat) (hi : i ≤ S.g0) (hj : j < S.g1) (hp : p < S.g2) (bs : List Nat) (hbs : S.page i j p = some bs) (hb : QBeg B tag L S w (i : Int) (j : Int) 0) : Calls Try.prog 76 #[.pointer (some ⟨L.pa, 0, none⟩), .int .i64 (i : Int), .int .i64 (j : Int), .int .i64 (p : Int)] w (QRRet B tag L S w (S.g3 + 64) bs 0) := by
  unfold QBeg at hb
  go_enter Try.func76, Try.ntmps76
  go_wp2_with fail
  ((with_reducible refine hb.mono ?_))
  rintro e w1 ⟨rfl, h1, k1⟩
  have KA : Kept (ownQ tag) w (w1.alloc (.cells #[.int .i64 0, .int .i64 0, .int .i64 0, .slice none 0 0] 153)) := k1.trans (Kept.of_below (F := ownQ tag) (bel_alloc (Below.refl _ w1) _)) (fun _ _ h => h)
  have HA := h1.below (bel_alloc (Below.refl _ w1) (.cells #[.int .i64 0, .int .i64 0, .int .i64 0, .slice none 0 0] 153))
  clear hb
  have bbl := (h1.range _ _ (h1.tbb i hi)).2
  have lbl := (h1.range _ _ h1.tlb).2
  have pal := (h1.range _ _ h1.tpa).2
  have c4 := h1.c .chips
  have cr := h1.c (.row i hi)
  have i1 : i < S.g0 + 1 := by omega
  have c2 := h1.c .g2
  have cp := h1.c (.pages i j hi hj)
  have p1 : decide ((p : Int) < 0) = false := by simp
  have p2 : decide (S.g2 ≤ p) = false := by simp; omega
  have hrow := h1.rows i j p hi hj hp
  rw [hbs] at hrow
  obtain ⟨g, off, cap, hcell, htag, hrw, _, _⟩ := hrow
  have hpl := (h1.range _ _ (h1.tpb i j hi hj)).2
  have p3 : decide (0 < S.g3 + 64) = true := by simp
  have p4 : decide ((0 : Int) < (S.g3 : Int) + 64) = true := by simp; omega
  have hr2 := row_alloc hrw (.cells #[.int .i64 0, .int .i64 0, .int .i64 0, .slice none 0 0] 153)
  have RES := Lib.hid (And.intro hr2 (And.intro HA KA))
  clear h1 k1 HA KA hbs htag hrw hr2
  go_wp2
  go_ret2
  exact ⟨_, _, rfl, RES.out⟩
set_option maxRecDepth 100000 in
set_option maxHeartbeats 3200000 in
theorem qread_none (i j p : Nat) (hi : i ≤ S.g0) (hj : j < S.g1) (hp : p < S.g2) (hbs : S.page i j p = none) (hb : QBeg B tag L S w (i : Int) (j : Int) 0) : Calls Try.prog 76 #[.pointer (some ⟨L.pa, 0, none⟩), .int .i64 (i : Int), .int .i64 (j : Int), .int .i64 (p : Int)] w (QRRet B tag L S w (S.g3 + 64) (rowOf [255] (S.g3 + 64)) 0) := by
  unfold QBeg at hb
  go_enter Try.func76, Try.ntmps76
  go_wp2_with fail
  ((with_reducible refine hb.mono ?_))
  rintro e w1 ⟨rfl, h1, k1⟩
  have KA : Kept (ownQ tag) w (w1.alloc (.cells #[.int .i64 0, .int .i64 0, .int .i64 0, .slice none 0 0] 153)) := k1.trans (Kept.of_below (F := ownQ tag) (bel_alloc (Below.refl _ w1) _)) (fun _ _ h => h)
  have HA := h1.below (bel_alloc (Below.refl _ w1) (.cells #[.int .i64 0, .int .i64 0, .int .i64 0, .slice none 0 0] 153))
  clear hb
  have bbl := (h1.range _ _ (h1.tbb i hi)).2
  have lbl := (h1.range _ _ h1.tlb).2
  have pal := (h1.range _ _ h1.tpa).2
  have c4 := h1.c .chips
  have cr := h1.c (.row i hi)
  have i1 : i < S.g0 + 1 := by omega
  have c2 := h1.c .g2
  have c3 := h1.c .g3
  have cp := h1.c (.pages i j hi hj)
  have p1 : decide ((p : Int) < 0) = false := by simp
  have p2 : decide (S.g2 ≤ p) = false := by simp; omega
  have hcell := h1.rows i j p hi hj hp
  rw [hbs] at hcell
  have hcell' : w1.cell? ⟨L.pb i j, p, none⟩ = some (.slice none 0 0) := hcell
  have hpl := (h1.range _ _ (h1.tpb i j hi hj)).2
  have hsh := h1.shape.b3
  have HSH := Lib.hid hsh
  have b3 : (S.g3 : Int) ≤ 1024 := by omega
  have HA' := Lib.hid HA
  have KA' := Lib.hid KA
  clear h1 k1 HA KA hbs hcell
  go_wp2_with fail
  obtain ⟨N, hN⟩ : ∃ N, N = S.g3 + 64 := ⟨_, rfl⟩
  have hNi : (S.g3 : Int) + 64 = (N : Int) := by omega
  have hz := zeros_any N (w1.alloc (.cells #[.int .i64 0, .int .i64 0, .int .i64 0, .slice none 0 0] 153)) (by omega)
  rw [← hNi] at hz
  have HNI := Lib.hid hNi
  have HNN := Lib.hid hN
  have hNb : N ≤ 1088 := by omega
  have hNp : 0 < N := by omega
  clear hNi hsh b3
  ((with_reducible refine hz.mono ?_))
  intro e w2 h2
  obtain ⟨ra, cap, rfl, _, _, ho2, hb2⟩ := retOwn_len h2
  obtain ⟨g, rfl, hg0, hg1, _, _, _⟩ := own_block ho2 (by rw [List.length_replicate]; exact hNp)
  have ho3 := ho2.1
  rw [List.length_replicate] at ho3 ⊢
  have H2 := Lib.hid (HA'.out.below hb2)
  have K2 := Lib.hid (KA'.out.trans (Kept.of_below (F := ownQ tag) hb2) (fun _ _ h => h))
  have HBL := Lib.hid hb2
  obtain ⟨bz, hbz⟩ : ∃ bz, bz = (w1.alloc (.cells #[.int .i64 0, .int .i64 0, .int .i64 0, .slice none 0 0] 153)).heap.size := ⟨_, rfl⟩
  rw [← hbz] at ho3 hg0 HBL
  have HO3 := Lib.hid ho3
  have HG0 := Lib.hid hg0
  have HTG : Hid (∀ k, bz ≤ k → ¬ ownQ tag k) := Lib.hid fun k hk o => by rw [hbz] at hk; exact HA'.out.notOwn hk o
  have HWB : Hid (w.heap.size ≤ bz) := Lib.hid (by rw [hbz]; exact KA'.out.size)
  have hNc : (N : Int) ≤ 1088 := by omega
  clear hz h2 ho2 ho3 hb2 hg0 hN hbz c2 c3 c4 cr cp hcell' i1 p1 p2 bbl lbl pal hpl HA' KA'
  go_wp2_with fail
  go_loopw [13] (fun i wr => ∃ k : Nat, k ≤ N ∧ i = .int .i64 (k : Int) ∧ wr.ownsRow bz 5 1 (.slice (some ⟨g, 0, none⟩) N cap) N ((cyc [255] N k).map u8v) ∧ QA B tag L S wr ∧ Kept (ownQ tag) w wr) (fun i _ => N - (intOf i).toNat)
  case atStart => exact ⟨0, Nat.zero_le _, rfl, by rw [cyc_zero]; exact HO3.out, H2.out, K2.out⟩
  case round =>
    obtain ⟨k, hk, rfl, hrow, hq, hkp⟩ := hrel
    obtain ⟨wo, hwo⟩ : ∃ wo : World, wo = wr := ⟨_, rfl⟩
    subst hwo
    by_cases hlt : k < N
    · have d1 : decide (k < N) = true := decide_eq_true hlt
      have hc := hrow.cellAt k (by omega)
      rw [List.getElem?_map, cyc_at hlt] at hc
      simp only [Option.map_some] at hc
      have hf := hrow.frozenAt k
      have hst := (hrow.stored k (u8v 255)).1
      rw [cyc_set hlt] at hst
      have RES := Lib.hid (And.intro hst (And.intro (hq.keep (w' := wo.setCell ⟨g, k, none⟩ (u8v 255)) (by simp) fun b t ht => heap_setCell_other wo _ b _ (fun e => by subst e; exact HTG.out _ HG0.out (ownQ_tag ht))) (hkp.trans (Kept.refl (ownQ tag) wo) (fun _ _ h => h))))
      have HKP := Lib.hid hkp
      have HLT := Lib.hid hlt
      have hki : (k : Int) < (N : Int) := by omega
      clear hrow hq hkp hst hlt
      go_wp2
      go_roundw
      case rel => exact ⟨k + 1, HLT.out, by go_num, RES.out.1, RES.out.2.1, HKP.out.set ⟨g, k, none⟩ _ (.inr (Nat.le_trans HWB.out HG0.out))⟩
      case measure => have := HLT.out; simp [intOf]; omega
    · obtain rfl : k = N := by omega
      have d1 : decide (k < k) = false := by simp
      have HF : Hid (QRRet B tag L S w k (cyc [255] k k) 0 (.returned (.tuple #[.slice (some ⟨g, 0, none⟩) k cap, .int .i64 0])) wo) := Lib.hid ⟨_, _, rfl, ⟨cyc_len _ _ _, cyc_lt (by simp) _ _, fun _ => ⟨g, 0, rfl, fun i hi => by
        rw [Nat.zero_add, hrow.cellAt i (by omega), List.getElem?_map, List.getElem?_eq_getElem (by rw [cyc_len]; exact hi), getD_in _ _ (by rw [cyc_len]; exact hi)]; rfl⟩⟩, hq, hkp⟩
      clear hrow hq hkp
      go_wp2
      go_ret2
      rw [← HNN.out]
      rw [show rowOf [255] k = cyc [255] k k from if_pos (by simp)]
      exact HF.out
end

end Go.Proofs.Ytbfmpcomjmcfjaa
