/- (names.part).takes, names.fit. -/
import Derived.Test.YtjldpgcbaibpcaaDoorNParse
import Derived.Deep.RegionHeld3
namespace Go.Proofs.YtjldpgcbaibpcaaDoor
open Go.RowKit

theorem flat2_even {α β : Type} (f g : α → β) : ∀ (l : List α) (i : Nat), (l.flatMap fun x => [f x, g x])[i * 2]? = l[i]?.map f
  | [], i => by simp
  | x :: l, 0 => by simp
  | x :: l, i + 1 => by
    rw [List.flatMap_cons, List.getElem?_append_right (by simp; omega)]
    have := flat2_even f g l i
    simp only [List.length_cons, List.length_nil, List.getElem?_cons_succ]
    rw [show (i + 1) * 2 - (0 + 1 + 1) = i * 2 by omega]
    exact this
theorem flat2_odd {α β : Type} (f g : α → β) : ∀ (l : List α) (i : Nat), (l.flatMap fun x => [f x, g x])[i * 2 + 1]? = l[i]?.map g
  | [], i => by simp
  | x :: l, 0 => by simp
  | x :: l, i + 1 => by
    rw [List.flatMap_cons, List.getElem?_append_right (by simp; omega)]
    have := flat2_odd f g l i
    simp only [List.length_cons, List.length_nil, List.getElem?_cons_succ]
    rw [show (i + 1) * 2 + 1 - (0 + 1 + 1) = i * 2 + 1 by omega]
    exact this
theorem flat3 {α β : Type} (f g h : α → β) : ∀ (l : List α) (i : Nat), (l.flatMap fun x => [f x, g x, h x])[i * 3]? = l[i]?.map f ∧ (l.flatMap fun x => [f x, g x, h x])[i * 3 + 1]? = l[i]?.map g ∧ (l.flatMap fun x => [f x, g x, h x])[i * 3 + 2]? = l[i]?.map h
  | [], i => by simp
  | x :: l, 0 => by simp
  | x :: l, i + 1 => by
    have ih := flat3 f g h l i
    rw [List.flatMap_cons, List.getElem?_append_right (by simp; omega), List.getElem?_append_right (by simp; omega), List.getElem?_append_right (by simp; omega)]
    simp only [List.length_cons, List.length_nil, List.getElem?_cons_succ]
    rw [show (i + 1) * 3 - (0 + 1 + 1 + 1) = i * 3 by omega, show (i + 1) * 3 + 1 - (0 + 1 + 1 + 1) = i * 3 + 1 by omega, show (i + 1) * 3 + 2 - (0 + 1 + 1 + 1) = i * 3 + 2 by omega]
    exact ih
theorem row_cell {w : World} {g : Nat} {cur : Array Value} {e : TypeId} {xs : List Value} {n k : Nat} (h3 : w.heap[g]? = some (.cells cur e (0, 0))) (h7 : cur.toList.take n = xs) (hk : k < n) : w.cell? ⟨g, k, none⟩ = xs[k]? := by
  have h1 : w.cell? ⟨g, k, none⟩ = cur[k]? := by simp [World.cell?, h3]
  rw [h1, ← h7, List.getElem?_take_of_lt hk, Array.getElem?_toList]
theorem spans_cells {B : Nat} {w : World} {tv : Value} {l : List (Nat × Nat)} (h : SpansOwn B w tv l) : ∃ a c, tv = .slice a l.length c ∧ l.length ≤ c ∧ c ≤ maxLen ∧ (0 < l.length → ∃ g, a = some ⟨g, 0, none⟩ ∧ g < w.heap.size ∧ ∀ i, i < l.length → ∃ s, l[i]? = some s ∧ w.cell? ⟨g, i * 2, none⟩ = some (.int .i32 (s.1 : Int)) ∧ w.cell? ⟨g, i * 2 + 1, none⟩ = some (.int .i32 (s.2 : Int))) := by
  have hlt := h.1.lt
  rcases h.1.2 with ⟨h0, h1⟩ | ⟨g, cap, cur, e1, e2, e3, e4, e5, e6, e7⟩
  · exact ⟨none, 0, by rw [h0, h1], by omega, by unfold maxLen; omega, fun hp => by omega⟩
  · refine ⟨_, cap, e1, e4, e5, fun _ => ⟨g, rfl, (hlt g (by rw [e1]; rfl)).2, fun i hi => ⟨l[i], List.getElem?_eq_getElem hi, ?_, ?_⟩⟩⟩
    · rw [row_cell e3 e7 (show i * 2 < l.length * 2 by omega)]
      unfold flatS
      rw [flat2_even, List.getElem?_eq_getElem hi]
      rfl
    · rw [row_cell e3 e7 (show i * 2 + 1 < l.length * 2 by omega)]
      unfold flatS
      rw [flat2_odd, List.getElem?_eq_getElem hi]
      rfl
theorem parts_cells {B : Nat} {w : World} {sv : Value} {ps : List Nm.Part} (h : PartsAt B w sv ps) : ∃ a c, sv = .slice a ps.length c ∧ ps.length ≤ c ∧ c ≤ maxLen ∧ (0 < ps.length → ∃ g, a = some ⟨g, 0, none⟩ ∧ g < w.heap.size ∧ ∀ i, i < ps.length → ∃ p tv, ps[i]? = some p ∧ w.cell? ⟨g, i * 3, none⟩ = some (.bool p.any) ∧ w.cell? ⟨g, i * 3 + 1, none⟩ = some (.bool p.not) ∧ w.cell? ⟨g, i * 3 + 2, none⟩ = some tv ∧ SpansOwn B w tv p.these) := by
  obtain ⟨pts, h1, h2, h3⟩ := h
  have hl : pts.length = ps.length := by rw [← h1]; simp
  have hlt := h2.lt
  rcases h2.2 with ⟨h0, h1'⟩ | ⟨g, cap, cur, e1, e2, e3, e4, e5, e6, e7⟩
  · exact ⟨none, 0, by rw [h0, ← hl, h1'], by omega, by unfold maxLen; omega, fun hp => by omega⟩
  · refine ⟨_, cap, by rw [e1, hl], by omega, e5, fun _ => ⟨g, rfl, (hlt g (by rw [e1]; rfl)).2, fun i hi => ?_⟩⟩
    have hi' : i < pts.length := by omega
    refine ⟨pts[i].1, pts[i].2, ?_, ?_, ?_, ?_, h3 _ (List.getElem_mem _)⟩
    · rw [← h1, List.getElem?_map, List.getElem?_eq_getElem hi']; rfl
    · rw [row_cell e3 e7 (show i * 3 < pts.length * 3 by omega)]
      unfold flatP
      rw [(flat3 _ _ _ pts i).1, List.getElem?_eq_getElem hi']; rfl
    · rw [row_cell e3 e7 (show i * 3 + 1 < pts.length * 3 by omega)]
      unfold flatP
      rw [(flat3 _ _ _ pts i).2.1, List.getElem?_eq_getElem hi']; rfl
    · rw [row_cell e3 e7 (show i * 3 + 2 < pts.length * 3 by omega)]
      unfold flatP
      rw [(flat3 _ _ _ pts i).2.2, List.getElem?_eq_getElem hi']; rfl

theorem heap_keep {w1 wr : World} {g : Nat} {o : Obj} (h : w1.heap[g]? = some o) (hb : Below w1.heap.size w1 wr) : wr.heap[g]? = some o := by
  have hlt : g < w1.heap.size := by
    rcases Nat.lt_or_ge g w1.heap.size with h0 | h0
    · exact h0
    · rw [Array.getElem?_eq_none h0] at h; cases h
  rw [hb.block g hlt]; exact h
theorem takes_next {l : List (Nat × Nat)} {k c y1 y2 : Nat} (h : ∀ s ∈ l.take k, ¬ (s.1 ≤ c ∧ c ≤ s.2)) (hs : l[k]? = some (y1, y2)) (hn : ¬ (y1 ≤ c ∧ c ≤ y2)) : ∀ s ∈ l.take (k + 1), ¬ (s.1 ≤ c ∧ c ≤ s.2) := by
  intro s hm
  rw [List.take_add_one, List.mem_append] at hm
  rcases hm with hm | hm
  · exact h s hm
  · rw [hs] at hm; simp at hm; subst hm; exact hn
set_option maxHeartbeats 600000 in
theorem takes_any (p : Nm.Part) (tv : Value) (c : Nat) (B : Nat) (w : World) (h : SpansOwn B w tv p.these) (hl : p.these.length ≤ 100000) :
    Calls Tryd.prog 43 #[.agg #[.bool p.any, .bool p.not, tv], .int .i32 (c : Int)] w fun e w' => e = .returned (.bool (Nm.takes p c)) ∧ Below w.heap.size w w' := by
  obtain ⟨a, cp, rfl, hlc, hcm, hcells⟩ := spans_cells h
  obtain ⟨ans, hans⟩ : ∃ ans, Nm.takes p c = ans := ⟨_, rfl⟩
  rw [hans]
  have HANS := Lib.hid hans
  have hbd := h.2
  have hb0 : Below w.heap.size w (w.alloc (.cells #[.bool p.any, .bool p.not, .slice a p.these.length cp] 76)) := bel_alloc (Below.refl _ w) _
  have hpn := part_new (Below.refl (w.alloc (.cells #[.bool p.any, .bool p.not, .slice a p.these.length cp] 76)).heap.size (w.alloc (.cells #[.bool p.any, .bool p.not, .slice a p.these.length cp] 76)))
  obtain ⟨q0, q1, q2, _, _, _⟩ := cells3 hpn
  obtain ⟨m, hm⟩ : ∃ m, p.these.length = m := ⟨_, rfl⟩
  rw [hm] at hlc hl hcells hb0 hpn q0 q1 q2 ⊢
  have HM := Lib.hid hm
  have HB0 := Lib.hid hb0
  have HPN := Lib.hid hpn
  clear hans h hm hb0 hpn
  go_enter Tryd.func43, Tryd.ntmps43
  go_wp2_with fail
  obtain ⟨w1, hw1⟩ : ∃ w1, w.alloc (.cells #[.bool p.any, .bool p.not, .slice a m cp] 76) = w1 := ⟨_, rfl⟩
  have HB1 : Hid (Below w.heap.size w w1) := by rw [← hw1]; exact HB0.out
  have HP1 : Hid (w1.heap[w.heap.size]? = some (.cells #[.bool p.any, .bool p.not, .slice a m cp] 76 (0, 0))) := by rw [← hw1]; exact HPN.out
  rw [hw1]
  clear hw1 q0 q1 q2 HB0 HPN
  go_loopw [10] (fun i wr => ∃ k : Nat, k ≤ m ∧ i = .int .i64 k ∧ Below w1.heap.size w1 wr ∧ Hid (∀ s ∈ p.these.take k, ¬ (s.1 ≤ c ∧ c ≤ s.2))) (fun i _ => m - (intOf i).toNat)
  case atStart => exact ⟨0, by omega, rfl, Below.refl _ _, Lib.hid (fun s hs => by simp at hs)⟩
  case round =>
    obtain ⟨k, hk, rfl, hbr, HN⟩ := hrel
    obtain ⟨q0, q1, q2, _, _, _⟩ := cells3 (heap_keep HP1.out hbr)
    have HBR := Lib.hid (bel_trans HB1.out hbr)
    have HBR2 := Lib.hid hbr
    have HPR := Lib.hid (heap_keep HP1.out hbr)
    clear hbr
    by_cases hlt : k < m
    · obtain ⟨g, rfl, hg, hcl⟩ := hcells (by omega)
      obtain ⟨s, hs, hs1, hs2⟩ := hcl k hlt
      have c1 := below_cell HBR.out hs1
      have c2 := below_cell HBR.out hs2
      have hmem : s ∈ p.these := List.mem_of_getElem? hs
      obtain ⟨y1, y2⟩ := s
      have hy := hbd _ hmem
      have hy1 : y1 ≤ 1114111 := hy.1
      have hy2 : y2 ≤ 1114111 := hy.2
      have HSG := Lib.hid hs
      have HMEM := Lib.hid hmem
      obtain ⟨r0, r1, r2, _, _, _⟩ := cells3 (heap_alloc_keep HPR.out (Below.refl _ wr) (.cells #[.int .i32 (y1 : Int), .int .i32 (y2 : Int)] 87))
      clear hcl hs hs1 hs2 hmem hy
      by_cases hin1 : y1 ≤ c
      · by_cases hin2 : c ≤ y2
        · have hA : ans = !p.not := by
            rw [← HANS.out]
            unfold Nm.takes
            rw [if_pos (List.any_eq_true.2 ⟨_, HMEM.out, by simp; exact ⟨hin1, hin2⟩⟩)]
          have HA := Lib.hid hA
          clear hA
          go_wp2
          go_ret
          exact ⟨by rw [HA.out]; rfl, bel_alloc HBR.out _⟩
        · go_wp2
          go_roundw
          case rel => exact ⟨k + 1, by omega, by go_num, bel_alloc HBR2.out _, Lib.hid (takes_next HN.out HSG.out (fun h => hin2 h.2))⟩
          case measure => simp [intOf]; omega
      · go_wp2
        go_roundw
        case rel => exact ⟨k + 1, by omega, by go_num, bel_alloc HBR2.out _, Lib.hid (takes_next HN.out HSG.out (fun h => hin1 h.1))⟩
        case measure => simp [intOf]; omega
    · have hA : ans = p.not := by
        rw [← HANS.out]
        unfold Nm.takes
        rw [if_neg]
        intro h
        obtain ⟨s, hs, h2⟩ := List.any_eq_true.1 h
        simp at h2
        exact HN.out s (by rw [List.take_of_length_le (by have := HM.out; omega)]; exact hs) h2
      have HA := Lib.hid hA
      clear hA hcells
      go_wp2
      go_ret
      exact ⟨by rw [HA.out]; rfl, HBR.out⟩

set_option maxRecDepth 100000 in
set_option maxHeartbeats 1000000 in
theorem fit_any (B : Nat) (sv : Value) (ps : List Nm.Part) (a : Option Addr) (N cap : Nat) (ns : List Nat) (w : World) (hps : PartsAt B w sv ps) (hrow : Row32 w a N cap ns) (hN : N ≤ 1000) (hP : ps.length ≤ 1000) (hth : ∀ p ∈ ps, p.these.length ≤ 1000) :
    Calls Tryd.prog 35 #[sv, .slice a N cap] w fun e w' => e = .returned (.bool (Nm.fit (Nm.fitW N ps.length 0 0 + 1) ps ns 0 0 0 0)) ∧ Below w.heap.size w w' := by
  obtain ⟨ans, hans⟩ : ∃ ans, Nm.fit (Nm.fitW N ps.length 0 0 + 1) ps ns 0 0 0 0 = ans := ⟨_, rfl⟩
  rw [hans]
  obtain ⟨pa, pc, rfl, hpl, hpm, hcells⟩ := parts_cells hps
  obtain ⟨P, hPe⟩ : ∃ P, ps.length = P := ⟨_, rfl⟩
  rw [hPe] at hP hpl hcells hans ⊢
  have HPE := Lib.hid hPe
  have HANS := Lib.hid hans
  have HTH := Lib.hid hth
  obtain ⟨hnl, hnb, hnc, hncm, hnr⟩ := hrow
  have HNL := Lib.hid hnl
  clear hans hPe hps hth hnl
  go_enter Tryd.func35, Tryd.ntmps35
  go_wp2_with fail
  go_loopw [5, 6, 7, 8] (fun at' last tk nn wr => ∃ (i l t n f : Nat) (L : Int), at' = .int .i64 i ∧ last = .int .i64 L ∧ tk = .int .i64 t ∧ nn = .int .i64 n ∧ Hid (L + 1 = l) ∧ -1 ≤ L ∧ L < 1000 ∧ i ≤ P ∧ l ≤ P ∧ t ≤ n ∧ n ≤ N ∧ Nm.fitW N P t i < f ∧ Below w.heap.size w wr ∧ Hid (Nm.fit f ps ns i l t n = ans)) (fun at' _ tk _ _ => Nm.fitW N P (intOf tk).toNat (intOf at').toNat)
  case atStart => exact ⟨0, 0, 0, 0, _, -1, rfl, rfl, rfl, rfl, Lib.hid rfl, by omega, by omega, by omega, by omega, by omega, by omega, Nat.lt_succ_self _, Below.refl _ _, HANS⟩
  case round =>
    obtain ⟨i, l, t, n, f, L, rfl, rfl, rfl, rfl, HL, hL1, hL2, hi, hl, ht, hn, hf, hb, HA⟩ := hrel
    obtain ⟨f, rfl⟩ : ∃ g, f = g + 1 := ⟨f - 1, by omega⟩
    by_cases hlt : n < N
    · obtain ⟨b2, off2, rfl, hrc⟩ := hnr (by omega)
      have hcn := below_cell hb (hrc n hlt)
      obtain ⟨c, hc⟩ : ∃ c, ns.getD n 0 = c := ⟨_, rfl⟩
      rw [hc] at hcn
      have HC := Lib.hid hc
      have hA0 := (Nm.fit_lt (f := f) (ps := ps) (i := i) (l := l) (t := t) (by have := HNL.out; omega : n < ns.length)).symm.trans HA.out
      rw [hc] at hA0
      have hi0 : (0 : Int) ≤ (n : Int) := by omega
      have hiN : (n : Int) < (N : Int) := by omega
      clear hrc hc
      by_cases hiP : i < P
      · obtain ⟨g, rfl, hg, hcl⟩ := hcells (by omega)
        obtain ⟨p, tv, hp, q0, q1, q2, hsp⟩ := hcl i hiP
        have q0' := below_cell hb q0
        have q1' := below_cell hb q1
        have q2' := below_cell hb q2
        have hsp' := spans_below hsp hb
        have hmem := List.mem_of_getElem? hp
        have hpt := HTH.out p hmem
        have hany : Nm.anyAt ps i = p.any := by unfold Nm.anyAt; rw [hp]
        have htk : Nm.takesAt ps i c = Nm.takes p c := by unfold Nm.takesAt; rw [hp]
        rw [hany, htk] at hA0
        have HSP := Lib.hid hsp'
        have hiPI : (i : Int) < (P : Int) := by omega
        have hi0I : (0 : Int) ≤ (i : Int) := by omega
        clear hcl hp q0 q1 q2 hsp hsp' hmem hany htk
        cases hpa : p.any with
        | true =>
          rw [hpa, if_pos rfl] at hA0
          rw [hpa] at q0'
          have HA0 := Lib.hid hA0
          have hw1 := Nm.fitW_any (N := N) hiP ht
          clear hA0 hpa
          go_wp2
          go_roundw
          case rel => exact ⟨i + 1, i + 1, n, n, f, i, by go_num, rfl, rfl, rfl, Lib.hid rfl, by omega, by omega, by omega, by omega, by omega, by omega, by omega, hb, HA0⟩
          case measure => simp only [intOf]; simp; exact hw1
        | false =>
          rw [hpa, if_neg (by simp)] at hA0
          rw [hpa] at q0'
          have hTK := takes_any p tv c B
          rw [hpa] at hTK
          have HTK := Lib.hid hTK
          clear hpa hTK
          cases htk : Nm.takes p c with
          | true =>
            rw [htk, if_pos rfl] at hA0
            have HA0 := Lib.hid hA0
            have hTK2 := HTK.out wr.drew (spans_below HSP.out ((Below.refl _ wr).drew)) (by omega)
            rw [htk] at hTK2
            have HTK2 := Lib.hid hTK2
            have hw1 := Nm.fitW_next (N := N) (t := t) hiP
            clear hA0 htk hTK2
            go_wp2_with fail
            go_region_held3 (fun w' => w'.cell? ⟨g, i * 3, none⟩ = some (.bool false) ∧ w'.cell? ⟨g, i * 3 + 1, none⟩ = some (.bool p.not) ∧ w'.cell? ⟨g, i * 3 + 2, none⟩ = some tv ∧ w'.cell? ⟨b2, off2 + n, none⟩ = some (.int .i32 (c : Int))) (first | exact hS | go_keep)
              (first
                | (go_simp; go_at_call 43; ((with_reducible refine HTK2.out.mono ?_)); (rintro e w3 ⟨rfl, hb3⟩; have hS := And.intro (below_cell (w := wr.drew) hb3 q0') (And.intro (below_cell (w := wr.drew) hb3 q1') (And.intro (below_cell (w := wr.drew) hb3 q2') (below_cell (w := wr.drew) hb3 hcn))); have hb4 : Below w.heap.size w w3 := hb.drew.trans (hb3.mono hb.size))))
            go_wp2
            go_roundw
            case rel => exact ⟨i + 1, l, t, n + 1, f, L, by go_num, rfl, rfl, by go_num, HL, by omega, by omega, by omega, by omega, by omega, by omega, by omega, hb4, HA0⟩
            case measure => simp only [intOf]; simp; exact hw1
          | false =>
            rw [htk, if_neg (by simp)] at hA0
            have hTK2 := HTK.out wr.drew (spans_below HSP.out ((Below.refl _ wr).drew)) (by omega)
            rw [htk] at hTK2
            have HTK2 := Lib.hid hTK2
            clear htk hTK2
            by_cases h0l : 0 < l
            · rw [if_pos h0l] at hA0
              have HA0 := Lib.hid hA0
              have hw1 := Nm.fitW_back (P := P) (i := i) (l := l) (show t < N by omega)
              have hL0 : 0 ≤ L := by have := HL.out; omega
              clear hA0
              go_wp2_with fail
              go_region_held3 (fun w' => w'.cell? ⟨g, i * 3, none⟩ = some (.bool false) ∧ w'.cell? ⟨g, i * 3 + 1, none⟩ = some (.bool p.not) ∧ w'.cell? ⟨g, i * 3 + 2, none⟩ = some tv ∧ w'.cell? ⟨b2, off2 + n, none⟩ = some (.int .i32 (c : Int))) (first | exact hS | go_keep)
              (first
                | (go_simp; go_at_call 43; ((with_reducible refine HTK2.out.mono ?_)); (rintro e w3 ⟨rfl, hb3⟩; have hS := And.intro (below_cell (w := wr.drew) hb3 q0') (And.intro (below_cell (w := wr.drew) hb3 q1') (And.intro (below_cell (w := wr.drew) hb3 q2') (below_cell (w := wr.drew) hb3 hcn))); have hb4 : Below w.heap.size w w3 := hb.drew.trans (hb3.mono hb.size))))
              go_wp2
              go_roundw
              case rel => exact ⟨l, l, t + 1, t + 1, f, L, by rw [HL.out], rfl, by go_num, by go_num, HL, by omega, by omega, by omega, by omega, by omega, by omega, by omega, hb4, HA0⟩
              case measure => have h9 := HL.out; simp only [intOf]; simp; rw [h9]; simpa using hw1
            · rw [if_neg h0l] at hA0
              have HA0 := Lib.hid hA0
              have hL0 : L < 0 := by have := HL.out; omega
              clear hA0
              go_wp2_with fail
              go_region_held3 (fun w' => w'.cell? ⟨g, i * 3, none⟩ = some (.bool false) ∧ w'.cell? ⟨g, i * 3 + 1, none⟩ = some (.bool p.not) ∧ w'.cell? ⟨g, i * 3 + 2, none⟩ = some tv ∧ w'.cell? ⟨b2, off2 + n, none⟩ = some (.int .i32 (c : Int))) (first | exact hS | go_keep)
              (first
                | (go_simp; go_at_call 43; ((with_reducible refine HTK2.out.mono ?_)); (rintro e w3 ⟨rfl, hb3⟩; have hS := And.intro (below_cell (w := wr.drew) hb3 q0') (And.intro (below_cell (w := wr.drew) hb3 q1') (And.intro (below_cell (w := wr.drew) hb3 q2') (below_cell (w := wr.drew) hb3 hcn))); have hb4 : Below w.heap.size w w3 := hb.drew.trans (hb3.mono hb.size))))
              go_wp2
              go_ret
              exact ⟨by rw [← HA0.out]; rfl, hb4⟩
      · have hgd : decide ((i : Int) < (P : Int)) = false := by simp; omega
        have hany : Nm.anyAt ps i = false := by
          cases h : Nm.anyAt ps i with
          | false => rfl
          | true => have := Nm.anyAt_lt h; have := HPE.out; omega
        have htk : Nm.takesAt ps i c = false := by
          cases h : Nm.takesAt ps i c with
          | false => rfl
          | true => have := Nm.takesAt_lt h; have := HPE.out; omega
        rw [hany, htk, if_neg (by simp), if_neg (by simp)] at hA0
        clear hany htk hcells
        by_cases h0l : 0 < l
        · rw [if_pos h0l] at hA0
          have HA0 := Lib.hid hA0
          have hw1 := Nm.fitW_back (P := P) (i := i) (l := l) (show t < N by omega)
          have hL0 : 0 ≤ L := by have := HL.out; omega
          clear hA0
          go_wp2_with fail
          go_quiet (fail)
          go_wp2
          go_roundw
          case rel => exact ⟨l, l, t + 1, t + 1, f, L, by rw [HL.out], rfl, by go_num, by go_num, HL, by omega, by omega, by omega, by omega, by omega, by omega, by omega, below_drewN hb _, HA0⟩
          case measure => have h9 := HL.out; simp only [intOf]; simp; rw [h9]; simpa using hw1
        · rw [if_neg h0l] at hA0
          have HA0 := Lib.hid hA0
          have hL0 : L < 0 := by have := HL.out; omega
          clear hA0
          go_wp2_with fail
          go_quiet (fail)
          go_wp2
          go_ret
          exact ⟨by rw [← HA0.out]; rfl, below_drewN hb _⟩
    · have hA0 := (Nm.fit_ge (f := f) (ps := ps) (i := i) (l := l) (t := t) (by have := HNL.out; omega : ¬ n < ns.length)).symm.trans HA.out
      have HA0 := Lib.hid hA0
      have HB := Lib.hid hb
      clear hA0 hf
      go_wp2_with fail
      go_loop [5] (fun at' => ∃ i : Nat, at' = .int .i64 i ∧ i ≤ P ∧ Hid ((ps.drop i).all (·.any) = ans)) (fun at' => P - (intOf at').toNat)
      case atStart => exact ⟨i, rfl, hi, HA0⟩
      case round =>
        obtain ⟨k, rfl, hk, HK⟩ := hrel
        clear hi HA0
        by_cases hkP : k < P
        · obtain ⟨g, rfl, hg, hcl⟩ := hcells (by omega)
          obtain ⟨p, tv, hp, q0, _⟩ := hcl k hkP
          have q0' := below_cell HB.out q0
          have hdr : ps.drop k = p :: ps.drop (k + 1) := by
            have hk2 : k < ps.length := by have := HPE.out; omega
            rw [List.drop_eq_getElem_cons hk2]
            rw [List.getElem?_eq_getElem hk2] at hp
            cases hp
            rfl
          have hall : (p.any && (ps.drop (k + 1)).all (·.any)) = ans := by rw [← HK.out, hdr]; rfl
          have hkPI : (k : Int) < (P : Int) := by omega
          clear hcl hp q0 hdr
          cases hpa : p.any with
          | true =>
            rw [hpa] at q0' hall
            rw [Bool.true_and] at hall
            have HALL := Lib.hid hall
            clear hpa hall
            go_wp2
            go_round
            case rel => exact ⟨k + 1, by go_num, by omega, HALL⟩
            case measure => simp [intOf]; omega
          | false =>
            rw [hpa] at q0' hall
            rw [Bool.false_and] at hall
            have HALL := Lib.hid hall
            have hne : ((k : Int) == (P : Int)) = false := by rw [beq_eq_false_iff_ne]; omega
            clear hpa hall
            go_wp2
            go_ret
            exact ⟨by rw [← HALL.out]; rfl, HB.out⟩
        · obtain rfl : k = P := by omega
          have hall : true = ans := by
            rw [← HK.out, List.drop_of_length_le (by have := HPE.out; omega)]; rfl
          have HALL := Lib.hid hall
          clear hall hcells
          go_wp2
          go_ret
          exact ⟨by rw [← HALL.out]; rfl, HB.out⟩

end Go.Proofs.YtjldpgcbaibpcaaDoor
