/- names.brackets. -/
import Derived.Test.YtjldpgcbaibpcaaDoorNLetter
import Derived.Maps.AppendAt
import Derived.Laws.AppendOwnNone
namespace Go.Proofs.YtjldpgcbaibpcaaDoor
open Go.RowKit

def flatS (l : List (Nat × Nat)) : List Value := l.flatMap fun s => [.int .i32 (s.1 : Int), .int .i32 (s.2 : Int)]
/-- Spans of the call's own. -/
def SpansOwn (B : Nat) (w : World) (tv : Value) (l : List (Nat × Nat)) : Prop := w.ownsRow B 87 2 tv l.length (flatS l) ∧ ∀ s ∈ l, s.1 ≤ 1114111 ∧ s.2 ≤ 1114111
theorem info_span : (Tryd.prog.info? 87).map (fun i => (i.zero, i.size, i.bytes)) = some (some (.agg #[.int .i32 0, .int .i32 0]), 2, 8) := by kernel_rfl
theorem flatS_snoc (l : List (Nat × Nat)) (s : Nat × Nat) : flatS (l ++ [s]) = flatS l ++ [.int .i32 (s.1 : Int), .int .i32 (s.2 : Int)] := by simp [flatS]
theorem owns_below {B : Nat} {w w' : World} {e : TypeId} {sz : Nat} {v : Value} {n : Nat} {xs : List Value} (h : w.ownsRow B e sz v n xs) (hb : Below w.heap.size w w') : w'.ownsRow B e sz v n xs := by
  refine ⟨h.1, ?_⟩
  rcases h.2 with h0 | ⟨g, cap, cur, e1, e2, e3, e4⟩
  · exact .inl h0
  · refine .inr ⟨g, cap, cur, e1, e2, ?_, e4⟩
    have hg := h.lt g (by rw [e1]; rfl)
    rw [hb.block g hg.2]; exact e3

theorem owns_shape {B : Nat} {w : World} {e : TypeId} {sz : Nat} {v : Value} {n : Nat} {xs : List Value} (h : w.ownsRow B e sz v n xs) : ∃ a c, v = .slice a n c := by
  rcases h.2 with ⟨h0, h1⟩ | ⟨g, cap, cur, e1, _⟩
  · exact ⟨none, 0, by rw [h0, h1]⟩
  · exact ⟨_, _, e1⟩
theorem heap_alloc_keep {wr w1 : World} {g : Nat} {o : Obj} (h : wr.heap[g]? = some o) (hb : Below wr.heap.size wr w1) (o2 : Obj) : (w1.alloc o2).heap[g]? = some o := by
  have hlt : g < wr.heap.size := by
    rcases Nat.lt_or_ge g wr.heap.size with h0 | h0
    · exact h0
    · rw [Array.getElem?_eq_none h0] at h; cases h
  rw [Below.heap_alloc _ _ _ (Nat.lt_of_lt_of_le hlt hb.size), hb.block g hlt]; exact h
theorem bel_three {w wr : World} (h : Below w.heap.size w wr) (x y z : Value) : Below w.heap.size w (((wr.setCell ⟨w.heap.size, 0, none⟩ x).setCell ⟨w.heap.size, 1, none⟩ y).setCell ⟨w.heap.size, 2, none⟩ z) :=
  ((h.setCell (p := ⟨w.heap.size, 0, none⟩) (Nat.le_refl _) x).setCell (p := ⟨w.heap.size, 1, none⟩) (Nat.le_refl _) y).setCell (p := ⟨w.heap.size, 2, none⟩) (Nat.le_refl _) z
theorem owns_set {B : Nat} {w : World} {e : TypeId} {sz : Nat} {v : Value} {n : Nat} {xs : List Value} (h : w.ownsRow B e sz v n xs) (g off : Nat) (hg : v.ownBlock ≠ some g) (x : Value) : (w.setCell ⟨g, off, none⟩ x).ownsRow B e sz v n xs := by
  refine ⟨h.1, ?_⟩
  rcases h.2 with h0 | ⟨g2, cap, cur, e1, e2, e3, e4⟩
  · exact .inl h0
  · refine .inr ⟨g2, cap, cur, e1, e2, ?_, e4⟩
    rw [Below.heap_setCell w ⟨g, off, none⟩ x g2 (fun e => hg (by rw [e1, e]; rfl))]; exact e3
theorem spans_three {B : Nat} {w wr : World} {tv : Value} {l : List (Nat × Nat)} (h : SpansOwn B wr tv l) (hg : tv.ownBlock ≠ some w.heap.size) (x y z : Value) : SpansOwn B (((wr.setCell ⟨w.heap.size, 0, none⟩ x).setCell ⟨w.heap.size, 1, none⟩ y).setCell ⟨w.heap.size, 2, none⟩ z).drew tv l :=
  ⟨owns_set (owns_set (owns_set h.1 _ _ hg _) _ _ hg _) _ _ hg _, h.2⟩
/-- Where the loop stands: what is laid in the part, in a block of its own. -/
structure BrI (w wr : World) (bp B : Nat) (no : Bool) (acc : List (Nat × Nat)) : Prop where
  bel : Below w.heap.size w wr
  part : ∃ tv, wr.heap[bp]? = some (.cells #[.bool false, .bool no, tv] 76 (0, 0)) ∧ SpansOwn B wr tv acc ∧ tv.ownBlock ≠ some bp ∧ tv.ownBlock ≠ some w.heap.size
  res : wr.heap[w.heap.size]? = some (.cells #[.bool false, .bool false, .slice none 0 0] 76 (0, 0))
def lenOf : Value → Nat
  | .slice _ n _ => n
  | _ => 0
theorem cells3 {w : World} {g : Nat} {x y z : Value} {t : TypeId} (h : w.heap[g]? = some (.cells #[x, y, z] t (0, 0))) : w.cell? ⟨g, 0, none⟩ = some x ∧ w.cell? ⟨g, 1, none⟩ = some y ∧ w.cell? ⟨g, 2, none⟩ = some z ∧ w.frozen? ⟨g, 0, none⟩ = false ∧ w.frozen? ⟨g, 1, none⟩ = false ∧ w.frozen? ⟨g, 2, none⟩ = false := by
  refine ⟨?_, ?_, ?_, ?_, ?_, ?_⟩ <;> simp [World.cell?, World.frozen?, h]
theorem sub_nil {a : Option Addr} {c : Nat} : Sub a 0 c [] (.slice a 0 c) [] := fun _ h => ⟨a, c, rfl, h⟩
theorem sub_same {a : Option Addr} {n c : Nat} {ns : List Nat} (hl : ns.length = n) : Sub a n c ns (.slice a n c) ns := fun _ h => ⟨a, c, by rw [hl], by rw [hl]; exact h⟩
theorem two_blocks (w : World) (o1 o2 : Obj) : ((w.alloc o1).alloc o2).heap[w.heap.size]? = some o1 ∧ ((w.alloc o1).alloc o2).heap[w.heap.size + 1]? = some o2 := by
  constructor
  · show ((w.heap.push _).push _)[w.heap.size]? = _
    simp only [Array.getElem?_push, Array.size_push]
    rw [if_neg (by omega), if_pos trivial]
  · show ((w.heap.push _).push _)[w.heap.size + 1]? = _
    simp only [Array.getElem?_push, Array.size_push]
    rw [if_pos trivial]
theorem bri_new (w : World) (no : Bool) : BrI w ((w.alloc (.cells #[.bool false, .bool false, .slice none 0 0] 76)).alloc (.cells #[.bool false, .bool no, .slice none 0 0] 76)) (w.heap.size + 1) w.heap.size no [] := by
  obtain ⟨h1, h2⟩ := two_blocks w (.cells #[.bool false, .bool false, .slice none 0 0] 76) (.cells #[.bool false, .bool no, .slice none 0 0] 76)
  exact ⟨bel_alloc (bel_alloc (Below.refl _ w) _) _, ⟨_, h2, ⟨World.ownsRow_nil _ _ _ _, (fun s hs => by cases hs)⟩, (fun h => by cases h), (fun h => by cases h)⟩, h1⟩
theorem grown_keep {w w3 : World} {g : Nat} {o : Obj} {row : Option Nat} (h : w.heap[g]? = some o) (hg : w.grownBy w3 row) (hne : row ≠ some g) : w3.heap[g]? = some o := by
  have hlt : g < w.heap.size := by
    rcases Nat.lt_or_ge g w.heap.size with h0 | h0
    · exact h0
    · rw [Array.getElem?_eq_none h0] at h; cases h
  rw [hg.block g hlt (fun e => hne e.symm)]; exact h
theorem news_two (w1 : World) (y1 y2 : Nat) : ∀ (j : Nat) (u : Value), [Value.int .i32 (y1 : Int), .int .i32 (y2 : Int)][j]? = some u →
    ((w1.alloc (.cells #[.int .i32 (y1 : Int), .int .i32 (y2 : Int)] 87)).alloc (.cells #[.int .i32 (y1 : Int), .int .i32 (y2 : Int)] 87)).cell? ((⟨w1.heap.size + 1, 0, none⟩ : Addr).add j) = some u := by
  intro j u hu
  have h0 := World.cell?_alloc_mark (w1.alloc (.cells #[.int .i32 (y1 : Int), .int .i32 (y2 : Int)] 87)) #[.int .i32 (y1 : Int), .int .i32 (y2 : Int)] 87 (0, 0) 0
  have h1 := World.cell?_alloc_mark (w1.alloc (.cells #[.int .i32 (y1 : Int), .int .i32 (y2 : Int)] 87)) #[.int .i32 (y1 : Int), .int .i32 (y2 : Int)] 87 (0, 0) 1
  rw [show (w1.alloc (.cells #[.int .i32 (y1 : Int), .int .i32 (y2 : Int)] 87)).heap.size = w1.heap.size + 1 by simp] at h0 h1
  match j, hu with
  | 0, hu => simp at hu; subst hu; exact h0
  | 1, hu => simp at hu; subst hu; exact h1
theorem bri_step {w wr w1 w3 : World} {bp tn tc c6 y1 y2 : Nat} {ta a6 : Option Addr} {no : Bool} {acc : List (Nat × Nat)} {o1 o2 : Obj} (hB : BrI w wr bp w.heap.size no acc) (hb1 : Below wr.heap.size wr w1) (hsp : SpansOwn w.heap.size wr (.slice ta tn tc) acc) (hy : y1 ≤ 1114111 ∧ y2 ≤ 1114111)
    (hpart : wr.heap[bp]? = some (.cells #[.bool false, .bool no, .slice ta tn tc] 76 (0, 0))) (h1 : (Value.slice ta tn tc).ownBlock ≠ some bp) (h2 : (Value.slice ta tn tc).ownBlock ≠ some w.heap.size) (hown : w3.ownsRow w.heap.size 87 2 (.slice a6 (acc.length + 1) c6) (acc.length + 1) (flatS acc ++ [.int .i32 (y1 : Int), .int .i32 (y2 : Int)]))
    (hg : ((w1.alloc o1).alloc o2).grownBy w3 (Value.slice ta tn tc).ownBlock) (hat : (Value.slice a6 (acc.length + 1) c6).ownBlock = (Value.slice ta tn tc).ownBlock ∨ (Value.slice a6 (acc.length + 1) c6).ownBlock = some (w1.heap.size + 1 + 1))
    (hp3 : w3.heap[bp]? = some (.cells #[.bool false, .bool no, .slice ta tn tc] 76 (0, 0))) (hw : w.heap.size < bp) :
    BrI w (w3.setCell ⟨bp, 2, none⟩ (.slice a6 (acc.length + 1) c6)) bp w.heap.size no (acc ++ [(y1, y2)]) := by
  have hlt : bp < wr.heap.size := by
    rcases Nat.lt_or_ge bp wr.heap.size with h0 | h0
    · exact h0
    · rw [Array.getElem?_eq_none h0] at hpart; cases hpart
  have hs : ((w1.alloc o1).alloc o2).heap.size = w1.heap.size + 2 := by simp
  have hz1 := hb1.size
  have hzw := hB.bel.size
  have n1 : (Value.slice a6 (acc.length + 1) c6).ownBlock ≠ some bp := by
    rcases hat with e | e
    · rw [e]; exact h1
    · rw [e]; intro h; have := Option.some.inj h; omega
  have n2 : (Value.slice a6 (acc.length + 1) c6).ownBlock ≠ some w.heap.size := by
    rcases hat with e | e
    · rw [e]; exact h2
    · rw [e]; intro h; have := Option.some.inj h; omega
  have hb3 : Below w.heap.size w w3 := (bel_alloc (bel_alloc (bel_trans hB.bel hb1) o1) o2).trans ((Below.refl w.heap.size _).grown hg (by omega) (fun k hk => (hsp.1.lt k hk).1))
  refine ⟨hb3.setCell (p := ⟨bp, 2, none⟩) (Nat.le_of_lt hw) _, ⟨_, ?_, ⟨?_, ?_⟩, n1, n2⟩, ?_⟩
  · have := heap_setCell_same w3 bp 2 #[.bool false, .bool no, .slice ta tn tc] 76 (.slice a6 (acc.length + 1) c6) hp3
    simpa using this
  · rw [List.length_append, flatS_snoc]
    exact owns_set hown _ _ n1 _
  · intro s hs
    rw [List.mem_append] at hs
    rcases hs with hs | hs
    · exact hsp.2 s hs
    · simp at hs; subst hs; exact hy
  · rw [Below.heap_setCell w3 ⟨bp, 2, none⟩ _ w.heap.size (by show w.heap.size ≠ bp; omega)]
    exact grown_keep (heap_alloc_keep (heap_alloc_keep hB.res hb1 o1) (Below.refl _ _) o2) hg h2
/-- names.brackets, all its ways. -/
def BracketsOut (a : Option Addr) (n cap : Nat) (ns : List Nat) (w : World) (ans : Option (Nm.Part × List Nat)) (e : Ending) (w' : World) : Prop :=
  match ans with
  | some (p, r) => ∃ tv v, e = .returned (.tuple #[.agg #[.bool p.any, .bool p.not, tv], v, .bool true]) ∧ SpansOwn w.heap.size w' tv p.these ∧ Sub a n cap ns v r ∧ Below w.heap.size w w'
  | none => ∃ x n2 c2, e = .returned (.tuple #[.agg #[.bool false, .bool false, .slice x n2 c2], .slice none 0 0, .bool false]) ∧ Below w.heap.size w w'
set_option maxRecDepth 100000 in
set_option maxHeartbeats 1000000 in
theorem brackets_nil (a : Option Addr) (n cap : Nat) (ns : List Nat) (w : World) (h : Row32 w a n cap ns) (hn : n ≤ 100000) (h0 : n = 0) :
    Calls Tryd.prog 49 #[.slice a n cap] w (BracketsOut a n cap ns w (Nm.brackets ns)) := by
  subst h0
  obtain rfl : ns = [] := List.eq_nil_of_length_eq_zero h.1
  have hb2 : Nm.brackets [] = Nm.brOf false (Nm.brk 1 [] []) := rfl
  have HB2 := Lib.hid hb2
  clear hb2
  obtain ⟨ans, hans⟩ : ∃ ans, Nm.brackets [] = ans := ⟨_, rfl⟩
  rw [hans]
  have HANS := Lib.hid hans
  have HH := Lib.hid h
  clear hans h
  go_enter Tryd.func49, Tryd.ntmps49
  go_wp2_with fail
  obtain ⟨w2, hw2⟩ : ∃ w2, w2 = ((w.alloc (Obj.cells #[Value.bool false, Value.bool false, Value.slice none 0 0] 76)).alloc (Obj.cells #[Value.bool false, Value.bool false, Value.slice none 0 0] 76)) := ⟨_, rfl⟩
  have hB0 : BrI w w2 (w.heap.size + 1) w.heap.size false [] := by rw [hw2]; exact bri_new w false
  rw [← hw2]
  obtain ⟨bp, hbp⟩ : ∃ bp, bp = w.heap.size + 1 := ⟨_, rfl⟩
  rw [← hbp] at hB0 ⊢
  have hbpw : w.heap.size < bp := by omega
  clear hw2 hbp
  go_loopw [0, 6, 7, 8] (fun v _ _ _ wr => ∃ (acc : List (Nat × Nat)) (r : List Nat) (f : Nat), Sub a 0 cap [] v r ∧ r.length < f ∧ acc.length + r.length ≤ 0 ∧ (∃ x c2, v = .slice x r.length c2) ∧ BrI w wr bp w.heap.size false acc ∧ Hid (Nm.brOf false (Nm.brk f acc r) = ans)) (fun v _ _ _ _ => lenOf v)
  case atStart => exact ⟨[], _, _, sub_nil, Nat.lt_succ_self _, by simp, ⟨_, _, rfl⟩, hB0, Lib.hid (HB2.out.symm.trans HANS.out)⟩
  case round =>
    obtain ⟨acc, r, f, hsub, hf, hlen, ⟨x2, c2, rfl⟩, hB, HA⟩ := hrel
    clear hB0
    have hR := row32_below HH.out hB.bel
    obtain ⟨x3, c3, e3, hrow⟩ := hsub _ hR
    simp only [Value.slice.injEq] at e3
    obtain ⟨rfl, _, rfl⟩ := e3
    obtain ⟨f, rfl⟩ : ∃ g, f = g + 1 := ⟨f - 1, by omega⟩
    have HS := Lib.hid hsub
    have HROW := Lib.hid hrow
    obtain ⟨_, hrx, hrc, hrm, hrr⟩ := hrow
    obtain ⟨tv, hpart, hsp, htv1, htv2⟩ := hB.part
    obtain ⟨p0, p1, p2, pf0, pf1, pf2⟩ := cells3 hpart
    obtain ⟨s0, s1, s2, sf0, sf1, sf2⟩ := cells3 hB.res
    have hmm : r.length ≤ 9223372036854775807 := by unfold maxLen at hrm; omega
    clear hsub hR
    obtain ⟨ta, tc, htv⟩ := owns_shape hsp.1
    subst htv
    have hacc6 : acc.length ≤ 100000 := by omega
    by_cases hr0 : r.length = 0
    · have hA2 : ans = none := by
        rw [← HA.out]
        unfold Nm.brk
        rw [if_pos hr0]
        rfl
      have HA2 := Lib.hid hA2
      rw [hr0]
      clear hA2 hrr
      go_wp2
      exact bodyPost_ret (v := .tuple #[.agg #[.bool false, .bool false, .slice none 0 0], .slice none 0 0, .bool false]) (by simp [results, Tryd.results49, go_sem, s0, s1, s2]) rfl (by rw [HA2.out]; exact ⟨_, _, _, rfl, bel_three hB.bel _ _ _⟩)
    · omega
set_option maxRecDepth 100000 in
set_option maxHeartbeats 1000000 in
theorem brackets_up (a : Option Addr) (n cap : Nat) (ns : List Nat) (w : World) (h : Row32 w a n cap ns) (hn : n ≤ 100000) (h0 : 0 < n) (h1 : ns.getD 0 0 = 94) :
    Calls Tryd.prog 49 #[.slice a n cap] w (BracketsOut a n cap ns w (Nm.brackets ns)) := by
  have hb2 : Nm.brackets ns = Nm.brOf true (Nm.brk ((ns.drop 1).length + 1) [] (ns.drop 1)) := by
    unfold Nm.brackets
    rw [decide_eq_true (show 0 < ns.length ∧ ns.getD 0 0 = 94 from ⟨by have := h.1; omega, h1⟩)]
    simp only [if_true]
  have HB2 := Lib.hid hb2
  obtain ⟨hl, hx, hc, hm, hr⟩ := h
  obtain ⟨b, off, rfl, hcell⟩ := hr h0
  have hc0 := hcell 0 h0
  rw [Nat.add_zero, h1] at hc0
  have h : Row32 w (some ⟨b, off, none⟩) n cap ns := ⟨hl, hx, hc, hm, hr⟩
  have hc1 : ((w.alloc (Obj.cells #[Value.bool false, Value.bool false, Value.slice none 0 0] 76)).alloc (Obj.cells #[Value.bool false, Value.bool false, Value.slice none 0 0] 76)).cell? ⟨b, off, none⟩ = some (.int .i32 94) := below_cell (bel_alloc (bel_alloc (Below.refl _ w) _) _) hc0
  have hsl := fun w => run_cut1 w b off n cap h0
  have hldrop : (ns.drop 1).length = n - 1 := by simp [hl]
  have HLD := Lib.hid hldrop
  have HL := Lib.hid hl
  clear hcell hr h1 hl hb2 hldrop
  obtain ⟨ans, hans⟩ : ∃ ans, Nm.brackets ns = ans := ⟨_, rfl⟩
  rw [hans]
  have HANS := Lib.hid hans
  have HH := Lib.hid h
  clear hans h
  go_enter Tryd.func49, Tryd.ntmps49
  go_wp2_with fail
  obtain ⟨w2, hw2⟩ : ∃ w2, w2 = ((w.alloc (Obj.cells #[Value.bool false, Value.bool false, Value.slice none 0 0] 76)).alloc (Obj.cells #[Value.bool false, Value.bool true, Value.slice none 0 0] 76)) := ⟨_, rfl⟩
  have hB0 : BrI w w2 (w.heap.size + 1) w.heap.size true [] := by rw [hw2]; exact bri_new w true
  rw [← hw2]
  obtain ⟨bp, hbp⟩ : ∃ bp, bp = w.heap.size + 1 := ⟨_, rfl⟩
  rw [← hbp] at hB0 ⊢
  have hbpw : w.heap.size < bp := by omega
  clear hw2 hbp
  go_loopw [0, 6, 7, 8] (fun v _ _ _ wr => ∃ (acc : List (Nat × Nat)) (r : List Nat) (f : Nat), Sub (some ⟨b, off, none⟩) n cap ns v r ∧ r.length < f ∧ acc.length + r.length ≤ n ∧ (∃ x c2, v = .slice x r.length c2) ∧ BrI w wr bp w.heap.size true acc ∧ Hid (Nm.brOf true (Nm.brk f acc r) = ans)) (fun v _ _ _ _ => lenOf v)
  case atStart => exact ⟨[], _, _, sub_cut h0, Nat.lt_succ_self _, by rw [HLD.out]; simp, ⟨_, _, by rw [HLD.out]⟩, hB0, Lib.hid (HB2.out.symm.trans HANS.out)⟩
  case round =>
    obtain ⟨acc, r, f, hsub, hf, hlen, ⟨x2, c2, rfl⟩, hB, HA⟩ := hrel
    clear hB0
    have hR := row32_below HH.out hB.bel
    obtain ⟨x3, c3, e3, hrow⟩ := hsub _ hR
    simp only [Value.slice.injEq] at e3
    obtain ⟨rfl, _, rfl⟩ := e3
    obtain ⟨f, rfl⟩ : ∃ g, f = g + 1 := ⟨f - 1, by omega⟩
    have HS := Lib.hid hsub
    have HROW := Lib.hid hrow
    obtain ⟨_, hrx, hrc, hrm, hrr⟩ := hrow
    obtain ⟨tv, hpart, hsp, htv1, htv2⟩ := hB.part
    obtain ⟨p0, p1, p2, pf0, pf1, pf2⟩ := cells3 hpart
    obtain ⟨s0, s1, s2, sf0, sf1, sf2⟩ := cells3 hB.res
    have hmm : r.length ≤ 9223372036854775807 := by unfold maxLen at hrm; omega
    clear hsub hR
    obtain ⟨ta, tc, htv⟩ := owns_shape hsp.1
    subst htv
    have hacc6 : acc.length ≤ 100000 := by omega
    by_cases hr0 : r.length = 0
    · have hA2 : ans = none := by
        rw [← HA.out]
        unfold Nm.brk
        rw [if_pos hr0]
        rfl
      have HA2 := Lib.hid hA2
      rw [hr0]
      clear hA2 hrr
      go_wp2
      exact bodyPost_ret (v := .tuple #[.agg #[.bool false, .bool false, .slice none 0 0], .slice none 0 0, .bool false]) (by simp [results, Tryd.results49, go_sem, s0, s1, s2]) rfl (by rw [HA2.out]; exact ⟨_, _, _, rfl, bel_three hB.bel _ _ _⟩)
    · obtain ⟨b2, off2, rfl, hcell⟩ := hrr (by omega)
      have q0 := hcell 0 (by omega)
      rw [Nat.add_zero] at q0
      obtain ⟨m, hm⟩ : ∃ m, r.length = m := ⟨_, rfl⟩
      obtain ⟨x0, hx0⟩ : ∃ x0, r.getD 0 0 = x0 := ⟨_, rfl⟩
      rw [hx0] at q0
      have hrow2 := HROW.out
      rw [hm] at hr0 hmm hrc hrow2 ⊢
      have HROW2 := Lib.hid hrow2
      have HM := Lib.hid hm
      have HX := Lib.hid hx0
      have hm0 : 0 < m := by omega
      have hi0 : (0 : Int) < (m : Int) := by omega
      have hSm : Hid (Sub (some ⟨b, off, none⟩) n cap ns (.slice (some ⟨b2, off2, none⟩) m c2) r) := by show Sub _ _ _ _ _ _; rw [← hm]; exact HS.out
      clear hcell hrr hm hx0 hrx hrow2
      by_cases h93 : x0 = 93
      · have d0 : ((x0 : Int) != 93) = false := by rw [bne_eq_false_iff_eq]; omega
        by_cases hacc : acc.length = 0
        · have hA2 : ans = none := by
            rw [← HA.out]
            unfold Nm.brk
            rw [if_neg (by rw [HM.out]; exact hr0), if_pos (by rw [HX.out]; exact h93), if_pos hacc]
            rfl
          have HA2 := Lib.hid hA2
          rw [hacc] at p2
          clear hA2
          go_wp2
          exact bodyPost_ret (v := .tuple #[.agg #[.bool false, .bool false, .slice none 0 0], .slice none 0 0, .bool false]) (by simp [results, Tryd.results49, go_sem, s0, s1, s2]) rfl (by rw [HA2.out]; exact ⟨_, _, _, rfl, bel_three hB.bel _ _ _⟩)
        · have hA2 : ans = some (⟨false, true, acc⟩, r.drop 1) := by
            rw [← HA.out]
            unfold Nm.brk
            rw [if_neg (by rw [HM.out]; exact hr0), if_pos (by rw [HX.out]; exact h93), if_neg hacc]
            rfl
          have HA2 := Lib.hid hA2
          have d1 : ((acc.length : Int) == 0) = false := by rw [beq_eq_false_iff_ne]; omega
          have hsl2 := fun w => run_cut1 w b2 off2 m c2 (by omega)
          have hsub3 : Hid (Sub (some ⟨b, off, none⟩) n cap ns (.slice (some (cutA b2 off2 c2 1)) (m - 1) (c2 - 1)) (r.drop 1)) := by
            show Sub _ _ _ _ _ _
            have h9 := HS.out
            rw [← HM.out]
            exact sub_trans h9 (sub_cut (by have := HM.out; omega))
          clear hA2
          go_wp2
          go_region
          go_wp2
          exact bodyPost_ret (v := .tuple #[.agg #[.bool false, .bool true, .slice ta acc.length tc], .slice (some (cutA b2 off2 c2 1)) (m - 1) (c2 - 1), .bool true]) (by simp [results, Tryd.results49, go_sem, s0, s1, s2]) rfl (by rw [HA2.out]; exact ⟨_, _, rfl, spans_three hsp htv2 _ _ _, hsub3.out, (bel_three hB.bel _ _ _).drew⟩)
      · have d0 : ((x0 : Int) != 93) = true := by rw [bne_iff_ne]; omega
        have HCO := choice_any (some ⟨b2, off2, none⟩) m c2 r wr HROW2.out hm0
        unfold ChoiceOut at HCO
        have hA2 : Nm.brOf true ((Nm.choice r).bind fun sr => Nm.brk f (acc ++ [sr.1]) sr.2) = ans := by
          rw [← HA.out]
          conv => rhs; unfold Nm.brk
          rw [if_neg (by rw [HM.out]; exact hr0), if_neg (by rw [HX.out]; exact h93)]
        cases hch : Nm.choice r with
        | none =>
          rw [hch] at HCO hA2
          have HA2 := Lib.hid hA2
          have HC := Lib.hid HCO
          clear hA2 HCO hch
          go_wp2_with fail
          refine HC.out.mono ?_
          rintro e w1 ⟨rfl, hb1⟩
          obtain ⟨s0, s1, s2, sf0, sf1, sf2⟩ := cells3 (heap_alloc_keep hB.res hb1 (.cells #[.int .i32 0, .int .i32 0] 87))
          go_wp2
          exact bodyPost_ret (v := .tuple #[.agg #[.bool false, .bool false, .slice none 0 0], .slice none 0 0, .bool false]) (by simp [results, Tryd.results49, go_sem, s0, s1, s2]) rfl (by rw [← HA2.out]; exact ⟨_, _, _, rfl, bel_three (bel_alloc (bel_trans hB.bel hb1) _) _ _ _⟩)
        | some sr =>
          obtain ⟨⟨y1, y2⟩, r2⟩ := sr
          rw [hch] at HCO hA2
          have HA2 := Lib.hid hA2
          have HC := Lib.hid HCO
          have hrl := Nm.choice_len hch
          have HRL := Lib.hid hrl
          clear hA2 HCO hch hrl
          go_wp2_with fail
          refine HC.out.mono ?_
          rintro e w1 ⟨⟨v2, rfl, hsub2, hb1⟩, hy1, hy2⟩
          have hp1 := heap_alloc_keep hpart hb1 (.cells #[.int .i32 (y1 : Int), .int .i32 (y2 : Int)] 87)
          obtain ⟨p0, p1, p2, pf0, pf1, pf2⟩ := cells3 hp1
          obtain ⟨x5, c5, rfl, _⟩ := hsub2 wr HROW2.out
          have hown1 := owns_below (owns_below hsp.1 hb1) (bel_alloc (Below.refl _ w1) (.cells #[.int .i32 (y1 : Int), .int .i32 (y2 : Int)] 87))
          obtain ⟨i0, hi, hz0, hz1, hz2⟩ := info_parts info_span
          have hf1 : r2.length < f := by have := HRL.out; omega
          have hlen1 : (acc ++ [(y1, y2)]).length + r2.length ≤ n := by have := HRL.out; simp; omega
          have hsz1 : wr.heap.size ≤ w1.heap.size := hb1.size
          have HB1 := Lib.hid hb1
          have HBW := Lib.hid hB.bel
          clear hb1
          go_wp2_with (at_builtin; refine wpList_append_own_at _ rfl _ _ 74 rfl w.heap.size 87 i0 (.agg #[.int .i32 0, .int .i32 0]) 2 8 Tryd.underlying74 hi hz0 hz1 hz2 rfl (by decide) _ _ _ rfl (hown1.alloc _) ⟨w1.heap.size + 1, 0, none⟩ 1 1 [.int .i32 (y1 : Int), .int .i32 (y2 : Int)] rfl rfl ?c1 ?c2 ?c3 ?c4 ?c5 ?_)
          case c1 => exact news_two w1 y1 y2
          case c2 => intro u hu; simp at hu; rcases hu with rfl | rfl <;> rfl
          case c3 => unfold maxLen; omega
          case c4 => omega
          case c5 => have := HBW.out.size; simp; omega
          intro v' w3 hown3 hg3 _ hat3
          obtain ⟨a6, c6, rfl⟩ := owns_shape hown3
          have hp3 : w3.heap[bp]? = some (.cells #[.bool false, .bool true, .slice ta acc.length tc] 76 (0, 0)) := grown_keep (heap_alloc_keep hp1 (Below.refl _ _) _) hg3 (fun e => htv1 e)
          have hbri := bri_step hB HB1.out hsp ⟨hy1, hy2⟩ hpart htv1 htv2 hown3 hg3 hat3 hp3 hbpw
          obtain ⟨p0, p1, p2, pf0, pf1, pf2⟩ := cells3 hp3
          clear hown3 hg3 hat3 hown1 hp1
          go_wp2
          go_roundw
          case rel => exact ⟨acc ++ [(y1, y2)], r2, f, sub_trans HS.out (by have := HM.out; rw [this]; exact hsub2), hf1, hlen1, ⟨_, _, rfl⟩, hbri, Lib.hid HA2.out⟩
          case measure => have h7 := HRL.out; have h8 := HM.out; simp only [lenOf]; simp; omega
set_option maxRecDepth 100000 in
set_option maxHeartbeats 1000000 in
theorem brackets_plain (a : Option Addr) (n cap : Nat) (ns : List Nat) (w : World) (h : Row32 w a n cap ns) (hn : n ≤ 100000) (h0 : 0 < n) (h1 : ns.getD 0 0 ≠ 94) :
    Calls Tryd.prog 49 #[.slice a n cap] w (BracketsOut a n cap ns w (Nm.brackets ns)) := by
  have hb2 : Nm.brackets ns = Nm.brOf false (Nm.brk (ns.length + 1) [] ns) := by
    unfold Nm.brackets
    rw [decide_eq_false (show ¬ (0 < ns.length ∧ ns.getD 0 0 = 94) from fun h => h1 h.2)]
    simp only [Bool.false_eq_true, if_false]
  have HB2 := Lib.hid hb2
  obtain ⟨hl, hx, hc, hm, hr⟩ := h
  obtain ⟨b, off, rfl, hcell⟩ := hr h0
  have hc0 := hcell 0 h0
  rw [Nat.add_zero] at hc0
  have h : Row32 w (some ⟨b, off, none⟩) n cap ns := ⟨hl, hx, hc, hm, hr⟩
  obtain ⟨x, hx0⟩ : ∃ x, ns.getD 0 0 = x := ⟨_, rfl⟩
  rw [hx0] at hc0 h1
  have hc1 : ((w.alloc (Obj.cells #[Value.bool false, Value.bool false, Value.slice none 0 0] 76)).alloc (Obj.cells #[Value.bool false, Value.bool false, Value.slice none 0 0] 76)).cell? ⟨b, off, none⟩ = some (.int .i32 (x : Int)) := below_cell (bel_alloc (bel_alloc (Below.refl _ w) _) _) hc0
  have hne : ((x : Int) == 94) = false := by rw [beq_eq_false_iff_ne]; omega
  have HX0 := Lib.hid hx0
  have HL := Lib.hid hl
  clear hcell hr hx0 hl hb2
  obtain ⟨ans, hans⟩ : ∃ ans, Nm.brackets ns = ans := ⟨_, rfl⟩
  rw [hans]
  have HANS := Lib.hid hans
  have HH := Lib.hid h
  clear hans h
  go_enter Tryd.func49, Tryd.ntmps49
  go_wp2_with fail
  obtain ⟨w2, hw2⟩ : ∃ w2, w2 = ((w.alloc (Obj.cells #[Value.bool false, Value.bool false, Value.slice none 0 0] 76)).alloc (Obj.cells #[Value.bool false, Value.bool false, Value.slice none 0 0] 76)) := ⟨_, rfl⟩
  have hB0 : BrI w w2 (w.heap.size + 1) w.heap.size false [] := by rw [hw2]; exact bri_new w false
  rw [← hw2]
  obtain ⟨bp, hbp⟩ : ∃ bp, bp = w.heap.size + 1 := ⟨_, rfl⟩
  rw [← hbp] at hB0 ⊢
  have hbpw : w.heap.size < bp := by omega
  clear hw2 hbp
  go_loopw [0, 6, 7, 8] (fun v _ _ _ wr => ∃ (acc : List (Nat × Nat)) (r : List Nat) (f : Nat), Sub (some ⟨b, off, none⟩) n cap ns v r ∧ r.length < f ∧ acc.length + r.length ≤ n ∧ (∃ x c2, v = .slice x r.length c2) ∧ BrI w wr bp w.heap.size false acc ∧ Hid (Nm.brOf false (Nm.brk f acc r) = ans)) (fun v _ _ _ _ => lenOf v)
  case atStart => exact ⟨[], _, _, sub_same HL.out, Nat.lt_succ_self _, by simp [HL.out], ⟨_, _, by rw [HL.out]⟩, hB0, Lib.hid (HB2.out.symm.trans HANS.out)⟩
  case round =>
    obtain ⟨acc, r, f, hsub, hf, hlen, ⟨x2, c2, rfl⟩, hB, HA⟩ := hrel
    clear hB0
    have hR := row32_below HH.out hB.bel
    obtain ⟨x3, c3, e3, hrow⟩ := hsub _ hR
    simp only [Value.slice.injEq] at e3
    obtain ⟨rfl, _, rfl⟩ := e3
    obtain ⟨f, rfl⟩ : ∃ g, f = g + 1 := ⟨f - 1, by omega⟩
    have HS := Lib.hid hsub
    have HROW := Lib.hid hrow
    obtain ⟨_, hrx, hrc, hrm, hrr⟩ := hrow
    obtain ⟨tv, hpart, hsp, htv1, htv2⟩ := hB.part
    obtain ⟨p0, p1, p2, pf0, pf1, pf2⟩ := cells3 hpart
    obtain ⟨s0, s1, s2, sf0, sf1, sf2⟩ := cells3 hB.res
    have hmm : r.length ≤ 9223372036854775807 := by unfold maxLen at hrm; omega
    clear hsub hR
    obtain ⟨ta, tc, htv⟩ := owns_shape hsp.1
    subst htv
    have hacc6 : acc.length ≤ 100000 := by omega
    by_cases hr0 : r.length = 0
    · have hA2 : ans = none := by
        rw [← HA.out]
        unfold Nm.brk
        rw [if_pos hr0]
        rfl
      have HA2 := Lib.hid hA2
      rw [hr0]
      clear hA2 hrr
      go_wp2
      exact bodyPost_ret (v := .tuple #[.agg #[.bool false, .bool false, .slice none 0 0], .slice none 0 0, .bool false]) (by simp [results, Tryd.results49, go_sem, s0, s1, s2]) rfl (by rw [HA2.out]; exact ⟨_, _, _, rfl, bel_three hB.bel _ _ _⟩)
    · obtain ⟨b2, off2, rfl, hcell⟩ := hrr (by omega)
      have q0 := hcell 0 (by omega)
      rw [Nat.add_zero] at q0
      obtain ⟨m, hm⟩ : ∃ m, r.length = m := ⟨_, rfl⟩
      obtain ⟨x0, hx0⟩ : ∃ x0, r.getD 0 0 = x0 := ⟨_, rfl⟩
      rw [hx0] at q0
      have hrow2 := HROW.out
      rw [hm] at hr0 hmm hrc hrow2 ⊢
      have HROW2 := Lib.hid hrow2
      have HM := Lib.hid hm
      have HX := Lib.hid hx0
      have hm0 : 0 < m := by omega
      have hi0 : (0 : Int) < (m : Int) := by omega
      have hSm : Hid (Sub (some ⟨b, off, none⟩) n cap ns (.slice (some ⟨b2, off2, none⟩) m c2) r) := by show Sub _ _ _ _ _ _; rw [← hm]; exact HS.out
      clear hcell hrr hm hx0 hrx hrow2
      by_cases h93 : x0 = 93
      · have d0 : ((x0 : Int) != 93) = false := by rw [bne_eq_false_iff_eq]; omega
        by_cases hacc : acc.length = 0
        · have hA2 : ans = none := by
            rw [← HA.out]
            unfold Nm.brk
            rw [if_neg (by rw [HM.out]; exact hr0), if_pos (by rw [HX.out]; exact h93), if_pos hacc]
            rfl
          have HA2 := Lib.hid hA2
          rw [hacc] at p2
          clear hA2
          go_wp2
          exact bodyPost_ret (v := .tuple #[.agg #[.bool false, .bool false, .slice none 0 0], .slice none 0 0, .bool false]) (by simp [results, Tryd.results49, go_sem, s0, s1, s2]) rfl (by rw [HA2.out]; exact ⟨_, _, _, rfl, bel_three hB.bel _ _ _⟩)
        · have hA2 : ans = some (⟨false, false, acc⟩, r.drop 1) := by
            rw [← HA.out]
            unfold Nm.brk
            rw [if_neg (by rw [HM.out]; exact hr0), if_pos (by rw [HX.out]; exact h93), if_neg hacc]
            rfl
          have HA2 := Lib.hid hA2
          have d1 : ((acc.length : Int) == 0) = false := by rw [beq_eq_false_iff_ne]; omega
          have hsl2 := fun w => run_cut1 w b2 off2 m c2 (by omega)
          have hsub3 : Hid (Sub (some ⟨b, off, none⟩) n cap ns (.slice (some (cutA b2 off2 c2 1)) (m - 1) (c2 - 1)) (r.drop 1)) := by
            show Sub _ _ _ _ _ _
            have h9 := HS.out
            rw [← HM.out]
            exact sub_trans h9 (sub_cut (by have := HM.out; omega))
          clear hA2
          go_wp2
          go_region
          go_wp2
          exact bodyPost_ret (v := .tuple #[.agg #[.bool false, .bool false, .slice ta acc.length tc], .slice (some (cutA b2 off2 c2 1)) (m - 1) (c2 - 1), .bool true]) (by simp [results, Tryd.results49, go_sem, s0, s1, s2]) rfl (by rw [HA2.out]; exact ⟨_, _, rfl, spans_three hsp htv2 _ _ _, hsub3.out, (bel_three hB.bel _ _ _).drew⟩)
      · have d0 : ((x0 : Int) != 93) = true := by rw [bne_iff_ne]; omega
        have HCO := choice_any (some ⟨b2, off2, none⟩) m c2 r wr HROW2.out hm0
        unfold ChoiceOut at HCO
        have hA2 : Nm.brOf false ((Nm.choice r).bind fun sr => Nm.brk f (acc ++ [sr.1]) sr.2) = ans := by
          rw [← HA.out]
          conv => rhs; unfold Nm.brk
          rw [if_neg (by rw [HM.out]; exact hr0), if_neg (by rw [HX.out]; exact h93)]
        cases hch : Nm.choice r with
        | none =>
          rw [hch] at HCO hA2
          have HA2 := Lib.hid hA2
          have HC := Lib.hid HCO
          clear hA2 HCO hch
          go_wp2_with fail
          refine HC.out.mono ?_
          rintro e w1 ⟨rfl, hb1⟩
          obtain ⟨s0, s1, s2, sf0, sf1, sf2⟩ := cells3 (heap_alloc_keep hB.res hb1 (.cells #[.int .i32 0, .int .i32 0] 87))
          go_wp2
          exact bodyPost_ret (v := .tuple #[.agg #[.bool false, .bool false, .slice none 0 0], .slice none 0 0, .bool false]) (by simp [results, Tryd.results49, go_sem, s0, s1, s2]) rfl (by rw [← HA2.out]; exact ⟨_, _, _, rfl, bel_three (bel_alloc (bel_trans hB.bel hb1) _) _ _ _⟩)
        | some sr =>
          obtain ⟨⟨y1, y2⟩, r2⟩ := sr
          rw [hch] at HCO hA2
          have HA2 := Lib.hid hA2
          have HC := Lib.hid HCO
          have hrl := Nm.choice_len hch
          have HRL := Lib.hid hrl
          clear hA2 HCO hch hrl
          go_wp2_with fail
          refine HC.out.mono ?_
          rintro e w1 ⟨⟨v2, rfl, hsub2, hb1⟩, hy1, hy2⟩
          have hp1 := heap_alloc_keep hpart hb1 (.cells #[.int .i32 (y1 : Int), .int .i32 (y2 : Int)] 87)
          obtain ⟨p0, p1, p2, pf0, pf1, pf2⟩ := cells3 hp1
          obtain ⟨x5, c5, rfl, _⟩ := hsub2 wr HROW2.out
          have hown1 := owns_below (owns_below hsp.1 hb1) (bel_alloc (Below.refl _ w1) (.cells #[.int .i32 (y1 : Int), .int .i32 (y2 : Int)] 87))
          obtain ⟨i0, hi, hz0, hz1, hz2⟩ := info_parts info_span
          have hf1 : r2.length < f := by have := HRL.out; omega
          have hlen1 : (acc ++ [(y1, y2)]).length + r2.length ≤ n := by have := HRL.out; simp; omega
          have hsz1 : wr.heap.size ≤ w1.heap.size := hb1.size
          have HB1 := Lib.hid hb1
          have HBW := Lib.hid hB.bel
          clear hb1
          go_wp2_with (at_builtin; refine wpList_append_own_at _ rfl _ _ 74 rfl w.heap.size 87 i0 (.agg #[.int .i32 0, .int .i32 0]) 2 8 Tryd.underlying74 hi hz0 hz1 hz2 rfl (by decide) _ _ _ rfl (hown1.alloc _) ⟨w1.heap.size + 1, 0, none⟩ 1 1 [.int .i32 (y1 : Int), .int .i32 (y2 : Int)] rfl rfl ?c1 ?c2 ?c3 ?c4 ?c5 ?_)
          case c1 => exact news_two w1 y1 y2
          case c2 => intro u hu; simp at hu; rcases hu with rfl | rfl <;> rfl
          case c3 => unfold maxLen; omega
          case c4 => omega
          case c5 => have := HBW.out.size; simp; omega
          intro v' w3 hown3 hg3 _ hat3
          obtain ⟨a6, c6, rfl⟩ := owns_shape hown3
          have hp3 : w3.heap[bp]? = some (.cells #[.bool false, .bool false, .slice ta acc.length tc] 76 (0, 0)) := grown_keep (heap_alloc_keep hp1 (Below.refl _ _) _) hg3 (fun e => htv1 e)
          have hbri := bri_step hB HB1.out hsp ⟨hy1, hy2⟩ hpart htv1 htv2 hown3 hg3 hat3 hp3 hbpw
          obtain ⟨p0, p1, p2, pf0, pf1, pf2⟩ := cells3 hp3
          clear hown3 hg3 hat3 hown1 hp1
          go_wp2
          go_roundw
          case rel => exact ⟨acc ++ [(y1, y2)], r2, f, sub_trans HS.out (by have := HM.out; rw [this]; exact hsub2), hf1, hlen1, ⟨_, _, rfl⟩, hbri, Lib.hid HA2.out⟩
          case measure => have h7 := HRL.out; have h8 := HM.out; simp only [lenOf]; simp; omega
theorem brackets_any (a : Option Addr) (n cap : Nat) (ns : List Nat) (w : World) (h : Row32 w a n cap ns) (hn : n ≤ 100000) :
    Calls Tryd.prog 49 #[.slice a n cap] w (BracketsOut a n cap ns w (Nm.brackets ns)) := by
  rcases Nat.eq_zero_or_pos n with h0 | h0
  · exact brackets_nil a n cap ns w h hn h0
  · by_cases h1 : ns.getD 0 0 = 94
    · exact brackets_up a n cap ns w h hn h0 h1
    · exact brackets_plain a n cap ns w h hn h0 h1

end Go.Proofs.YtjldpgcbaibpcaaDoor
