/- names.parse. -/
import Derived.Test.YtjldpgcbaibpcaaDoorNRunes
import Derived.Test.YtjldpgcbaibpcaaDoorShelf
namespace Go.Proofs.YtjldpgcbaibpcaaDoor
open Go.RowKit

def flatP (l : List (Nm.Part × Value)) : List Value := l.flatMap fun x => [.bool x.1.any, .bool x.1.not, x.2]
/-- Pieces of the call's own. -/
def PartsAt (B : Nat) (w : World) (sv : Value) (ps : List Nm.Part) : Prop :=
  ∃ pts : List (Nm.Part × Value), pts.map Prod.fst = ps ∧ w.ownsRow B 76 3 sv pts.length (flatP pts) ∧ ∀ x ∈ pts, SpansOwn B w x.2 x.1.these
theorem info_part : (Tryd.prog.info? 76).map (fun i => (i.zero, i.size, i.bytes)) = some (some (.agg #[.bool false, .bool false, .slice none 0 0]), 3, 32) := by kernel_rfl
theorem flatP_snoc (l : List (Nm.Part × Value)) (p : Nm.Part) (tv : Value) : flatP (l ++ [(p, tv)]) = flatP l ++ [.bool p.any, .bool p.not, tv] := by simp [flatP]
theorem spans_below {B : Nat} {w w' : World} {tv : Value} {l : List (Nat × Nat)} (h : SpansOwn B w tv l) (hb : Below w.heap.size w w') : SpansOwn B w' tv l := ⟨owns_below h.1 hb, h.2⟩
theorem parts_below {B : Nat} {w w' : World} {sv : Value} {ps : List Nm.Part} (h : PartsAt B w sv ps) (hb : Below w.heap.size w w') : PartsAt B w' sv ps := by
  obtain ⟨pts, h1, h2, h3⟩ := h
  exact ⟨pts, h1, owns_below h2 hb, fun x hx => spans_below (h3 x hx) hb⟩
theorem owns_mono {B B' : Nat} {w : World} {e : TypeId} {sz : Nat} {v : Value} {n : Nat} {xs : List Value} (h : w.ownsRow B e sz v n xs) (hB : B' ≤ B) : w.ownsRow B' e sz v n xs := by
  refine ⟨h.1, ?_⟩
  rcases h.2 with h0 | ⟨g, cap, cur, h1, h2, h3⟩
  · exact .inl h0
  · exact .inr ⟨g, cap, cur, h1, Nat.le_trans hB h2, h3⟩
theorem parts_mono {B B' : Nat} {w : World} {sv : Value} {ps : List Nm.Part} (h : PartsAt B w sv ps) (hB : B' ≤ B) : PartsAt B' w sv ps := by
  obtain ⟨pts, h1, h2, h3⟩ := h
  exact ⟨pts, h1, owns_mono h2 hB, fun x hx => ⟨owns_mono (h3 x hx).1 hB, (h3 x hx).2⟩⟩
theorem parts_nil (B : Nat) (w : World) : PartsAt B w (.slice none 0 0) [] := ⟨[], rfl, World.ownsRow_nil _ _ _ _, fun x hx => by cases hx⟩
/-- Two rows of unlike elements don't lie in one block. -/
theorem owns_apart {B B' : Nat} {w : World} {e e' : TypeId} {sz sz' : Nat} {v v' : Value} {n n' : Nat} {xs xs' : List Value} (h : w.ownsRow B e sz v n xs) (h' : w.ownsRow B' e' sz' v' n' xs') (he : e ≠ e') : v.ownBlock = none ∨ v.ownBlock ≠ v'.ownBlock := by
  rcases h.2 with ⟨h0, _⟩ | ⟨g, cap, cur, e1, _, e3, _⟩
  · left; rw [h0]; rfl
  · right
    rcases h'.2 with ⟨h0, _⟩ | ⟨g', cap', cur', f1, _, f3, _⟩
    · rw [h0, e1]; intro h; cases h
    · rw [e1, f1]
      intro h
      have hg : g = g' := Option.some.inj h
      subst hg
      rw [e3] at f3
      simp only [Option.some.injEq, Obj.cells.injEq] at f3
      exact he f3.2.1
theorem owns_grown {B : Nat} {w w' : World} {e : TypeId} {sz : Nat} {v : Value} {n : Nat} {xs : List Value} {row : Option Nat} (h : w.ownsRow B e sz v n xs) (hg : w.grownBy w' row) (hne : v.ownBlock = none ∨ v.ownBlock ≠ row) : w'.ownsRow B e sz v n xs := by
  refine ⟨h.1, ?_⟩
  rcases h.2 with h0 | ⟨g, cap, cur, e1, e2, e3, e4⟩
  · exact .inl h0
  · refine .inr ⟨g, cap, cur, e1, e2, ?_, e4⟩
    have hlt := h.lt g (by rw [e1]; rfl)
    rw [hg.block g hlt.2 (fun e => by rcases hne with h1 | h1 <;> rw [e1] at h1; cases h1; exact h1 e)]; exact e3
theorem parts_append {B : Nat} {w w' : World} {sv sv' tv : Value} {pts : List (Nm.Part × Value)} {p : Nm.Part} (h2 : w.ownsRow B 76 3 sv pts.length (flatP pts)) (h3 : ∀ x ∈ pts, SpansOwn B w x.2 x.1.these) (ht : SpansOwn B w tv p.these)
    (hg : w.grownBy w' sv.ownBlock) (hown : w'.ownsRow B 76 3 sv' (pts.length + 1) (flatP pts ++ [.bool p.any, .bool p.not, tv])) : PartsAt B w' sv' (pts.map Prod.fst ++ [p]) := by
  have hk : ∀ {tv : Value} {l : List (Nat × Nat)}, SpansOwn B w tv l → SpansOwn B w' tv l := fun hs => ⟨owns_grown hs.1 hg (owns_apart hs.1 h2 (by decide)), hs.2⟩
  refine ⟨pts ++ [(p, tv)], by simp, by rw [flatP_snoc, List.length_append]; exact hown, fun x hx => ?_⟩
  rw [List.mem_append] at hx
  rcases hx with hx | hx
  · exact hk (h3 x hx)
  · simp at hx; subst hx; exact hk ht
theorem news_three (w1 : World) (x y z : Value) (t : TypeId) : ∀ (j : Nat) (u : Value), [x, y, z][j]? = some u → ((w1.alloc (.cells #[x, y, z] t)).alloc (.cells #[x, y, z] t)).cell? ((⟨w1.heap.size + 1, 0, none⟩ : Addr).add j) = some u := by
  intro j u hu
  have h0 := World.cell?_alloc_mark (w1.alloc (.cells #[x, y, z] t)) #[x, y, z] t (0, 0) 0
  have h1 := World.cell?_alloc_mark (w1.alloc (.cells #[x, y, z] t)) #[x, y, z] t (0, 0) 1
  have h2 := World.cell?_alloc_mark (w1.alloc (.cells #[x, y, z] t)) #[x, y, z] t (0, 0) 2
  rw [show (w1.alloc (.cells #[x, y, z] t)).heap.size = w1.heap.size + 1 by simp] at h0 h1 h2
  match j, hu with
  | 0, hu => simp at hu; subst hu; exact h0
  | 1, hu => simp at hu; subst hu; exact h1
  | 2, hu => simp at hu; subst hu; exact h2
/-- names.parse, all its ways. -/
def ParseOut (w : World) (ans : Option (List Nm.Part)) (e : Ending) (w' : World) : Prop :=
  match ans with
  | some ps => ∃ sv, e = .returned (.tuple #[sv, .bool true]) ∧ PartsAt w.heap.size w' sv ps ∧ Below w.heap.size w w'
  | none => e = .returned (.tuple #[.slice none 0 0, .bool false]) ∧ Below w.heap.size w w'
def parseOf (s : ByteArray) : Option (List Nm.Part) := if Lib.validD s.data.toList then Nm.parse ((runesOf s).length + 1) (runesOf s) else none
set_option maxHeartbeats 400000 in
theorem parse_bad (s : ByteArray) (w : World) (hs : s.size ≤ 1000) (hT : NOk w) (hv : Lib.validD s.data.toList = false) :
    Calls Tryd.prog 34 #[.string s] w (ParseOut w none) := by
  have H := Lib.hid (Tryd.utf8_ValidString s w (by omega) hT.1)
  have HV := Lib.hid hv
  clear hT hv
  go_enter Tryd.func34, Tryd.ntmps34
  go_wp2_with fail
  refine H.out.mono ?_
  rw [HV.out]
  rintro e w1 ⟨rfl, hb1⟩
  go_wp2
  go_ret2
  exact ⟨rfl, hb1⟩
set_option maxRecDepth 100000 in
set_option maxHeartbeats 1000000 in
theorem parse_good (s : ByteArray) (w : World) (hs : s.size ≤ 1000) (hT : NOk w) (hv : Lib.validD s.data.toList = true) :
    Calls Tryd.prog 34 #[.string s] w (ParseOut w (Nm.parse ((runesOf s).length + 1) (runesOf s))) := by
  have H := Lib.hid (Tryd.utf8_ValidString s w (by omega) hT.1)
  have HV := Lib.hid hv
  obtain ⟨ans, hans⟩ : ∃ ans, Nm.parse ((runesOf s).length + 1) (runesOf s) = ans := ⟨_, rfl⟩
  rw [hans]
  have HANS := Lib.hid hans
  have hcv := conv_runes s (by omega)
  have hrl := runesOf_le s
  clear hT hv hans
  go_enter Tryd.func34, Tryd.ntmps34
  go_wp2_with fail
  refine H.out.mono ?_
  rw [HV.out]
  rintro e w1 ⟨rfl, hb1⟩
  obtain ⟨hb2, hrow⟩ := runes_row w1 s (by omega)
  obtain ⟨N, hN⟩ : ∃ N, (runesOf s).length = N := ⟨_, rfl⟩
  rw [hN] at hrow hrl
  simp only [hN] at hcv
  have HN := Lib.hid hN
  have hN1 : N ≤ 1000 := by omega
  clear hN
  go_wp2_with fail
  obtain ⟨w2, hw2⟩ : ∃ w2, runesW w1 s = w2 := ⟨_, rfl⟩
  obtain ⟨C, hC⟩ : ∃ C, capR w1 s = C := ⟨_, rfl⟩
  obtain ⟨A1, hA1⟩ : ∃ A1 : Option Addr, some (⟨w1.heap.size, 0, none⟩ : Addr) = A1 := ⟨_, rfl⟩
  rw [hw2] at hb2 hrow ⊢
  rw [hC, hA1] at hrow ⊢
  have hb02 := bel_trans hb1 hb2
  have hz02 := hb02.size
  have HB02 := Lib.hid hb02
  have HROW := Lib.hid hrow
  have hsub0 : Sub A1 N C (runesOf s) (.slice A1 N C) (runesOf s) := sub_same HN.out
  have hans0 : Hid ((Nm.parse (N + 1) (runesOf s)).map ([] ++ ·) = ans) := by
    show (Nm.parse (N + 1) (runesOf s)).map ([] ++ ·) = ans
    rw [← HANS.out, HN.out]
    cases Nm.parse (N + 1) (runesOf s) <;> rfl
  have hlen0 : (runesOf s).length < N + 1 := by have := HN.out; omega
  have hlen2 : ([] : List Nm.Part).length + (runesOf s).length ≤ N := by have := HN.out; simp; omega
  have heq0 : Value.slice A1 N C = .slice A1 (runesOf s).length C := by rw [HN.out]
  have HEQ := Lib.hid heq0
  obtain ⟨i0, hi, hz0, hz1, hz2⟩ := info_parts info_part
  clear hcv hC hA1 hw2 hb1 hb2 hb02 hrow heq0 HANS
  go_loopw [4, 5, 6, 7, 8] (fun sv v _ _ _ wr => ∃ (ps : List Nm.Part) (r : List Nat) (f : Nat), Sub A1 N C (runesOf s) v r ∧ r.length < f ∧ ps.length + r.length ≤ N ∧ (∃ x c2, v = .slice x r.length c2) ∧ PartsAt w2.heap.size wr sv ps ∧ Below w2.heap.size w2 wr ∧ Hid ((Nm.parse f r).map (ps ++ ·) = ans)) (fun _ v _ _ _ _ => lenOf v)
  case atStart => exact ⟨[], _, _, hsub0, hlen0, hlen2, ⟨_, _, HEQ.out⟩, parts_nil _ _, Below.refl _ _, hans0⟩
  case round =>
    obtain ⟨ps, r, f, hsub, hf, hlen, ⟨x2, c2, rfl⟩, hps, hb2r, HA⟩ := hrel
    clear hsub0 hlen0 hlen2 hans0 HEQ
    have hR := row32_below HROW.out hb2r
    obtain ⟨x3, c3, e3, hrow⟩ := hsub _ hR
    simp only [Value.slice.injEq] at e3
    obtain ⟨rfl, _, rfl⟩ := e3
    obtain ⟨f, rfl⟩ : ∃ g, f = g + 1 := ⟨f - 1, by omega⟩
    have HS := Lib.hid hsub
    have hmm : r.length ≤ 9223372036854775807 := by omega
    have hbwr : Below w.heap.size w wr := HB02.out.trans (hb2r.mono hz02)
    have HBWR := Lib.hid hbwr
    have HB2R := Lib.hid hb2r
    clear hsub hR hbwr hb2r
    by_cases hr0 : r.length = 0
    · have hA2 : ans = some ps := by
        rw [← HA.out]
        unfold Nm.parse
        rw [if_pos hr0]
        simp
      have HA2 := Lib.hid hA2
      rw [hr0]
      clear hA2 hrow
      obtain ⟨pts, hp1, hp2, hp3⟩ := hps
      obtain ⟨pa, pc, hsv⟩ := owns_shape hp2
      subst hsv
      go_wp2
      go_ret2
      rw [HA2.out]
      exact ⟨_, rfl, parts_mono ⟨pts, hp1, hp2, hp3⟩ HB02.out.size, HBWR.out⟩
    · have hd0 : decide ((r.length : Int) > 0) = true := by simp; omega
      have HF := first_any x2 r.length c2 r wr hrow (by omega) (by omega)
      have hrow2 := Lib.hid hrow
      have hA2 : ((Nm.first r).bind fun pr => (Nm.parse f pr.2).map (pr.1 :: ·)).map (ps ++ ·) = ans := by
        rw [← HA.out]
        conv => rhs; unfold Nm.parse
        rw [if_neg hr0]
      obtain ⟨m, hm⟩ : ∃ m, r.length = m := ⟨_, rfl⟩
      rw [hm] at HF hr0 hmm hd0 hlen hf ⊢
      have HM := Lib.hid hm
      clear hm hrow
      cases hfr : Nm.first r with
      | none =>
        rw [hfr] at HF hA2
        have HA2 := Lib.hid hA2
        have HC := Lib.hid HF
        clear hA2 HF hfr
        go_wp2_with fail
        refine HC.out.mono ?_
        rintro e w3 ⟨x5, n5, c5, rfl, hb3⟩
        go_wp2
        go_ret2
        rw [← HA2.out]
        exact ⟨rfl, bel_alloc (bel_trans HBWR.out hb3) _⟩
      | some pr =>
        obtain ⟨p, r2⟩ := pr
        have hrl2 := Nm.first_len hfr (by have := HM.out; omega)
        rw [hfr] at HF hA2
        have HA2 := Lib.hid hA2
        have HC := Lib.hid HF
        have HRL := Lib.hid hrl2
        clear hA2 HF hfr hrl2
        obtain ⟨pts, hp1, hp2, hp3⟩ := hps
        obtain ⟨pa, pc, hsv⟩ := owns_shape hp2
        subst hsv
        go_wp2_with fail
        refine HC.out.mono ?_
        rintro e w3 ⟨tv, v3, rfl, hsp, hsub3, hb3⟩
        obtain ⟨ta, tc, htv⟩ := owns_shape hsp.1
        subst htv
        obtain ⟨va, vc, rfl, _⟩ := hsub3 wr (by have := hrow2.out; rw [HM.out] at this; exact this)
        have hz3 : wr.heap.size ≤ w3.heap.size := hb3.size
        have hzw : w2.heap.size ≤ wr.heap.size := HB2R.out.size
        have hpl : pts.length = ps.length := by rw [← hp1]; simp
        have hpl2 : pts.length ≤ 1000 := by omega
        have HPL := Lib.hid hpl
        have HP1 := Lib.hid hp1
        have HP3 := Lib.hid hp3
        have HSP := Lib.hid hsp
        have HB3 := Lib.hid hb3
        have hown1 := owns_below (owns_below hp2 hb3) (bel_alloc (Below.refl _ w3) (.cells #[.bool p.any, .bool p.not, .slice ta p.these.length tc] 76))
        have HS3 := Lib.hid hsub3
        clear hp2 hp1 hp3 hsp hb3 hpl hsub3
        go_wp2_with (at_builtin; refine wpList_append_own_at _ rfl _ _ 53 rfl w2.heap.size 76 i0 (.agg #[.bool false, .bool false, .slice none 0 0]) 3 32 Tryd.underlying53 hi hz0 hz1 hz2 rfl (by decide) _ _ _ rfl (hown1.alloc _) ⟨w3.heap.size + 1, 0, none⟩ 1 1 [.bool p.any, .bool p.not, .slice ta p.these.length tc] rfl rfl ?c1 ?c2 ?c3 ?c4 ?c5 ?_)
        case c1 => exact news_three w3 _ _ _ _
        case c2 => intro u hu; simp at hu; rcases hu with rfl | rfl | rfl <;> rfl
        case c3 => unfold maxLen; omega
        case c4 => omega
        case c5 => simp; omega
        intro v' w4 hown4 hg4 _ _
        obtain ⟨a6, c6, rfl⟩ := owns_shape hown4
        have hb34 : Below wr.heap.size wr ((w3.alloc (.cells #[.bool p.any, .bool p.not, .slice ta p.these.length tc] 76)).alloc (.cells #[.bool p.any, .bool p.not, .slice ta p.these.length tc] 76)) := bel_alloc (bel_alloc HB3.out _) _
        have hown2 : ((w3.alloc (.cells #[.bool p.any, .bool p.not, .slice ta p.these.length tc] 76)).alloc (.cells #[.bool p.any, .bool p.not, .slice ta p.these.length tc] 76)).ownsRow w2.heap.size 76 3 (.slice pa pts.length pc) pts.length (flatP pts) := hown1.alloc _
        have hpn := parts_append (p := p) hown2 (fun x hx => spans_below (HP3.out x hx) hb34) (spans_mono (spans_below (spans_below HSP.out (bel_alloc (Below.refl _ w3) _)) (bel_alloc (Below.refl _ _) _)) hzw) hg4 hown4
        rw [HP1.out] at hpn
        have hlt4 := hown1.lt
        have hb4 : Below w2.heap.size w2 w4 := (bel_alloc (bel_alloc (bel_trans HB2R.out HB3.out) _) _).trans ((Below.refl w2.heap.size _).grown hg4 (by simp; omega) (fun k hk => (hlt4 k hk).1))
        have hlen4 : (ps ++ [p]).length + r2.length ≤ N := by have := HRL.out; have := HM.out; simp; omega
        have hf4 : r2.length < f := by have := HRL.out; have := HM.out; omega
        have HPN := Lib.hid hpn
        have hsub4 : Sub A1 N C (runesOf s) (.slice va r2.length vc) r2 := sub_trans HS.out (by rw [HM.out]; exact HS3.out)
        have hans4 : Hid ((Nm.parse f r2).map ((ps ++ [p]) ++ ·) = ans) := by
          show (Nm.parse f r2).map ((ps ++ [p]) ++ ·) = ans
          rw [← HA2.out]
          show _ = ((Nm.parse f r2).map (p :: ·)).map (ps ++ ·)
          cases Nm.parse f r2 <;> simp
        clear hown4 hg4 hown1 hown2 hb34 hpn hlt4
        go_wp2
        go_roundw
        case rel => exact ⟨ps ++ [p], r2, f, hsub4, hf4, hlen4, ⟨_, _, rfl⟩, HPN.out, hb4, hans4⟩
        case measure => have h7 := HRL.out; have h8 := HM.out; simp only [lenOf]; simp; omega

theorem parse_any (s : ByteArray) (w : World) (hs : s.size ≤ 1000) (hT : NOk w) :
    Calls Tryd.prog 34 #[.string s] w (ParseOut w (parseOf s)) := by
  unfold parseOf
  cases hv : Lib.validD s.data.toList with
  | true => exact parse_good s w hs hT hv
  | false => exact parse_bad s w hs hT hv

end Go.Proofs.YtjldpgcbaibpcaaDoor
