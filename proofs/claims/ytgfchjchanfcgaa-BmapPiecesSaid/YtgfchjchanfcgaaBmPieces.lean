/- bmap.Pieces. -/
import Derived.Test.YtgfchjchanfcgaaBmFind
import Derived.Test.YtgfchjchanfcgaaBmSpec
namespace Go.Proofs.Ytgfchjchanfcgaa
open Go.RowKit

def cellsT (t : Nat × Nat × Nat) : List Value := [.int .i64 (t.1 : Int), .int .i64 (t.2.1 : Int), .int .i64 (t.2.2 : Int)]
/-- Pieces of the call's own. -/
def OwnT (B : Nat) (w : World) (v : Value) (l : List (Nat × Nat × Nat)) : Prop := w.ownsRow B 39 3 v l.length (l.flatMap cellsT)
theorem info_piece : (Try.prog.info? 39).map (fun i => (i.zero, i.size, i.bytes)) = some (some (.agg #[.int .i64 0, .int .i64 0, .int .i64 0]), 3, 24) := by kernel_rfl
theorem ownT_nil (B : Nat) (w : World) : OwnT B w (.slice none 0 0) [] := World.ownsRow_nil w B _ 3
theorem OwnT.below {B : Nat} {w w' : World} {sv : Value} {l : List (Nat × Nat × Nat)} (h : OwnT B w sv l) (hb : Below w.heap.size w w') : OwnT B w' sv l :=
  World.ownsRow.kept (row := none) h ⟨hb.os, hb.tape, hb.output, hb.size, fun b hb' _ => hb.block b hb'⟩ (by cases hv : sv.ownBlock <;> simp)
theorem wpList_appT {w : World} {ops : Array Oper} {rest : List Oper} {o : Oper} {a : Act} {Q : Exit → Act → World → Prop} (hgd : o.guard = none) (s x : Operand)
    (ho : o.op = .call { callee := .builtin .append, args := #[s, x], argTypes := #[34, 34] })
    (B : Nat) (sv : Value) (l : List (Nat × Nat × Nat)) (hs : a.eval s = sv) (hown : OwnT B w sv l) (b : Nat) (c : Nat) (t : Nat × Nat × Nat) (hx : a.eval x = .slice (some ⟨b, 0, none⟩) 1 c)
    (hh : w.heap[b]? = some (.cells #[.int .i64 (t.1 : Int), .int .i64 (t.2.1 : Int), .int .i64 (t.2.2 : Int)] 39 (0, 0))) (hB : B ≤ w.heap.size) (hlen : l.length ≤ 1000000)
    (h : ∀ v' w', OwnT B w' v' (l ++ [t]) → Below B w w' → wpList Try.prog ops Q rest (a.put o.dst v') w') : wpList Try.prog ops Q (o :: rest) a w := by
  obtain ⟨i0, hi, hz0, hz1, hz2⟩ := info_parts info_piece
  refine wpList_append_own_at w hgd s x 34 ho B 39 i0 _ 3 24 Try.underlying34 hi hz0 hz1 hz2 rfl (by decide) sv _ _ hs hown ⟨b, 0, none⟩ 1 c (cellsT t) hx rfl ?_ ?_ (by unfold maxLen; omega) (by omega) hB ?_
  · intro j u hj
    have hj3 : j < 3 := by
      rcases Nat.lt_or_ge j 3 with h | h
      · exact h
      · rw [List.getElem?_eq_none (by simpa [cellsT] using h)] at hj; cases hj
    obtain ⟨z0, z1, z2, -⟩ := three_cells hh
    rcases (show j = 0 ∨ j = 1 ∨ j = 2 by omega) with rfl | rfl | rfl
    · simp only [cellsT, List.getElem?_cons_zero, Option.some.injEq] at hj
      subst hj
      simpa [Addr.add] using z0
    · simp only [cellsT, List.getElem?_cons_succ, List.getElem?_cons_zero, Option.some.injEq] at hj
      subst hj
      simpa [Addr.add] using z1
    · simp only [cellsT, List.getElem?_cons_succ, List.getElem?_cons_zero, Option.some.injEq] at hj
      subst hj
      simpa [Addr.add] using z2
  · intro u hu
    simp only [cellsT, List.mem_cons, List.not_mem_nil, or_false] at hu
    rcases hu with rfl | rfl | rfl <;> rfl
  · intro v' w' h2 h3 _ h5
    refine h v' w' ?_ ((Below.refl B w).grown h3 hB (fun k hk => (World.ownsRow.lt hown k hk).1))
    unfold OwnT
    rw [List.flatMap_append, List.length_append]
    simpa using h2

set_option maxRecDepth 100000 in
set_option maxHeartbeats 800000 in
theorem pieces_bad (a n s : Int) (w : World) (h : a < 0 ∨ 2147483648 < a ∨ n < 0 ∨ 1048576 < n ∨ s < 1) :
    Calls Try.prog 16 #[.int .i64 a, .int .i64 n, .int .i64 s] w fun e w' => e = .returned (.tuple #[.slice none 0 0, .int .i64 34]) ∧ w' = w := by
  by_cases h1 : a < 0
  · have t1 : decide (a < 0) = true := by simpa using h1
    clear h
    go_enter Try.func16, Try.ntmps16
    go_wp2
    go_ret2
    exact ⟨rfl, rfl⟩
  have t1 : decide (a < 0) = false := by simpa using h1
  by_cases h2 : 2147483648 < a
  · have t2 : decide (2147483648 < a) = true := by simpa using h2
    clear h
    go_enter Try.func16, Try.ntmps16
    go_wp2
    go_ret2
    exact ⟨rfl, rfl⟩
  have t2 : decide (2147483648 < a) = false := by simpa using h2
  by_cases h3 : n < 0
  · have t3 : decide (n < 0) = true := by simpa using h3
    clear h
    go_enter Try.func16, Try.ntmps16
    go_wp2
    go_ret2
    exact ⟨rfl, rfl⟩
  have t3 : decide (n < 0) = false := by simpa using h3
  by_cases h4 : 1048576 < n
  · have t4 : decide (1048576 < n) = true := by simpa using h4
    clear h
    go_enter Try.func16, Try.ntmps16
    go_wp2
    go_ret2
    exact ⟨rfl, rfl⟩
  have t4 : decide (1048576 < n) = false := by simpa using h4
  have t5 : decide (s < 1) = true := by simp; omega
  clear h
  go_enter Try.func16, Try.ntmps16
  go_wp2
  go_ret2
  exact ⟨rfl, rfl⟩

theorem pc_facts (a n s : Nat) (hs : 1 ≤ s) (hn : n ≠ 0) : 1 ≤ min n (s - a % s) ∧ min n (s - a % s) ≤ n ∧ a % s < s ∧ a / s ≤ a := by
  have := Nat.mod_lt a (show s > 0 by omega)
  have := Nat.div_le_self a s
  omega
set_option maxRecDepth 100000 in
set_option maxHeartbeats 1600000 in
theorem pieces_any (a n s : Nat) (w : World) (ha : a ≤ 2147483648) (hn : n ≤ 5000) (hs : 1 ≤ s) (hs1 : s ≤ 9223372036854775807) :
    Calls Try.prog 16 #[.int .i64 (a : Int), .int .i64 (n : Int), .int .i64 (s : Int)] w fun e w' => ∃ v, e = .returned (.tuple #[v, .int .i64 0]) ∧ OwnT w.heap.size w' v (pcs s n a n) ∧ Below w.heap.size w w' := by
  have t1 : decide ((a : Int) < 0) = false := by simp
  have t2 : decide (2147483648 < (a : Int)) = false := by simp; omega
  have t3 : decide ((n : Int) < 0) = false := by simp
  have t4 : decide (1048576 < (n : Int)) = false := by simp; omega
  have t5 : decide ((s : Int) < 1) = false := by simp; omega
  obtain ⟨L, hL⟩ : ∃ L, L = pcs s n a n := ⟨_, rfl⟩
  rw [← hL]
  have HL := Lib.hid hL
  clear hL
  go_enter Try.func16, Try.ntmps16
  go_wp2
  go_loopw [0, 1, 8] (fun x y v wr => ∃ (f p q : Nat) (acc : List (Nat × Nat × Nat)), x = .int .i64 (p : Int) ∧ y = .int .i64 (q : Int) ∧ q ≤ f ∧ f ≤ n ∧ p + q ≤ a + n ∧ acc.length + f ≤ n ∧ acc ++ pcs s f p q = L ∧ OwnT w.heap.size wr v acc ∧ Below w.heap.size w wr) (fun _ y _ _ => (intOf y).toNat)
  case atStart => exact ⟨n, a, n, [], rfl, rfl, Nat.le_refl _, Nat.le_refl _, Nat.le_refl _, by simp, HL.out.symm, ownT_nil _ _, Below.refl _ _⟩
  case round =>
    obtain ⟨f, p, q, acc, rfl, rfl, hqf, hfn, hpq, hal, hacc, hown, hbel⟩ := hrel
    have HA := Lib.hid hacc
    clear hacc
    by_cases hq : 0 < q
    · obtain ⟨g, rfl⟩ : ∃ g, f = g + 1 := ⟨f - 1, by omega⟩
      rw [pcs_step s g p q (by omega)] at HA
      obtain ⟨m0, m1, r0, d0⟩ := pc_facts p q s hs (by omega)
      obtain ⟨r, hr⟩ : ∃ r, r = p % s := ⟨_, rfl⟩
      obtain ⟨d, hd⟩ : ∃ d, d = p / s := ⟨_, rfl⟩
      rw [← hr, ← hd] at HA
      rw [← hr] at m0 m1 r0
      rw [← hd] at d0
      obtain ⟨m, hm⟩ : ∃ m, m = min q (s - r) := ⟨_, rfl⟩
      rw [← hm] at HA m0 m1
      have tq : decide ((0 : Int) < (q : Int)) = true := by simp; omega
      have nz : (s : Int) ≠ 0 := by omega
      have u1 : (p : Int).tmod (s : Int) = (r : Int) := by rw [hr]; rfl
      have u1' : (p : Int) % (s : Int) = (r : Int) := by rw [hr]; rfl
      have u2 : IntKind.i64.wrap ((p : Int).tdiv (s : Int)) = (d : Int) := by rw [IntWalk.i64_quo _ _ ⟨by omega, by omega, by omega⟩, hd]; rfl
      have u2' : (p : Int) / (s : Int) = (d : Int) := by rw [hd]; rfl
      obtain ⟨c, hc⟩ : ∃ c, c = s - r := ⟨_, rfl⟩
      rw [← hc] at hm
      have u3 : IntKind.i64.wrap ((s : Int) - (r : Int)) = (c : Int) := by rw [IntKind.wrap_i64]; omega
      have k1 : (if (c : Int) < (q : Int) then (c : Int) else (q : Int)) = (m : Int) := by split <;> omega
      have k2 : (if c < q then (c : Int) else (q : Int)) = (m : Int) := by split <;> omega
      have hhT : (wr.alloc (.cells #[.int .i64 (d : Int), .int .i64 (r : Int), .int .i64 (m : Int)] 39)).heap[wr.heap.size]? = some (.cells #[.int .i64 (d : Int), .int .i64 (r : Int), .int .i64 (m : Int)] 39 (0, 0)) := heap_alloc_new _ _
      have HT := Lib.hid hhT
      have u5 : IntKind.i64.wrap ((p : Int) + (m : Int)) = ((p + m : Nat) : Int) := by rw [IntKind.wrap_i64]; omega
      have u6 : IntKind.i64.wrap ((q : Int) - (m : Int)) = ((q - m : Nat) : Int) := by rw [IntKind.wrap_i64]; omega
      have HM := Lib.hid hm
      clear hr hd hm hc hhT
      go_wp2_with (at_builtin; refine wpList_appT rfl _ _ rfl w.heap.size _ acc rfl (hown.below (bel_alloc (Below.refl _ _) _)) wr.heap.size 1 (d, r, m) rfl HT.out (by have := hbel.size; simp; omega) (by omega) ?_)
      intro v1 w1 hown1 hb1
      have HO1 := Lib.hid hown1
      have HB1 := Lib.hid ((hbel.alloc hbel.size _).trans hb1)
      clear hown1 hb1 hown
      go_wp2_with fail
      go_roundw
      case rel => exact ⟨g, p + m, q - m, acc ++ [(d, r, m)], rfl, rfl, by omega, by omega, by omega, by simp; omega, by rw [List.append_assoc]; exact HA.out, HO1.out, HB1.out⟩
      case measure => simp [intOf]; omega
    · obtain rfl : q = 0 := by omega
      rw [pcs_zero, List.append_nil] at HA
      go_wp2
      go_ret2
      exact ⟨_, rfl, by rw [← HA.out]; exact hown, hbel⟩
end Go.Proofs.Ytgfchjchanfcgaa
