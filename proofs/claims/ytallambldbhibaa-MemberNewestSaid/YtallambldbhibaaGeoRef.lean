/- The reference's Parity and Members. -/
import Derived.Test.YtallambldbhibaaGeoSlot
namespace Go.Proofs.Ytallambldbhibaa
open Go.RowKit Go.Deep

theorem ownsRow_below {B : Nat} {w w' : World} {e : TypeId} {size : Nat} {v : Value} {n : Nat} {xs : List Value} (h : w.ownsRow B e size v n xs) (hb : Below w.heap.size w w') : w'.ownsRow B e size v n xs :=
  h.kept (gb_of_below hb) (by cases hv : v.ownBlock <;> simp)
theorem refPar_any (a b c d seg row : Int) (w : World) (hg : GoodG a b c d) (h0 : 0 ≤ seg) (h1 : seg ≤ 2000) (h2 : 0 ≤ row) (h3 : row ≤ 2000) :
    Calls Try.prog 33 #[.agg #[.int .i64 a, .int .i64 b, .int .i64 c, .int .i64 d], .int .i64 seg, .int .i64 row] w fun e w' => e = .returned (.int .i64 (ParOf a c seg row)) ∧ Below w.heap.size w w' := by
  obtain ⟨g1, g2, g3, g4, g5, g6, g7, g8, g9⟩ := hg
  obtain ⟨m1, m2⟩ := mul_bd h0 h1 (show 0 ≤ c by omega) (show c ≤ 32 by omega)
  clear g3 g4 g7 g8 g9
  go_enter Try.func33, Try.ntmps33
  go_wp2
  go_ret
  exact ⟨ret_int rfl, bel_alloc (Below.refl _ w) _⟩

theorem GS.grown {W x y : World} {B : Nat} {a b c d : Int} {row : Option Nat} (h : GS W B a b c d x) (hr : ∀ q, row = some q → B < q) (hg : x.grownBy y row) (hB : W.heap.size ≤ B := by omega) : GS W B a b c d y := by
  obtain ⟨h0, h1, h2, h3, h4⟩ := h
  have hne : some B ≠ row := fun e => by have := hr B e.symm; omega
  exact ⟨hg.cell h0 hne, hg.cell h1 hne, hg.cell h2 hne, hg.cell h3 hne, h4.grown hg h4.size (fun k e => by have := hr k e; omega)⟩
/-- The first k members but p. -/
def memsTo (p k : Nat) : List Nat := (List.range k).filter (· ≠ p)
theorem memsTo_succ (p k : Nat) : memsTo p (k + 1) = memsTo p k ++ (if k = p then [] else [k]) := by
  unfold memsTo
  rw [List.range_succ, List.filter_append]
  by_cases h : k = p <;> simp [h]
theorem memsTo_le (p k : Nat) : (memsTo p k).length ≤ k := by
  unfold memsTo
  have := List.length_filter_le (fun x : Nat => decide (x ≠ p)) (List.range k)
  simpa using this
theorem memsTo_low (p k : Nat) (h : k ≤ p) : memsTo p k = List.range k := by
  unfold memsTo
  rw [List.filter_eq_self]
  intro x hx
  have := List.mem_range.1 hx
  simp; omega
theorem memsTo_all (p k : Nat) : memsTo p k = upto (memOf p) (if k ≤ p then k else k - 1) := by
  induction k with
  | zero => simp [memsTo, upto]
  | succ k ih =>
    rw [memsTo_succ, ih]
    by_cases h : k = p
    · subst h
      rw [if_pos rfl, if_pos (Nat.le_refl _), if_neg (by omega), List.append_nil, Nat.add_sub_cancel]
    · rw [if_neg h]
      by_cases h2 : k < p
      · rw [if_pos (by omega), if_pos (by omega), upto_succ]
        unfold memOf; rw [if_pos h2]
      · rw [if_neg (by omega), if_neg (by omega), show k + 1 - 1 = k - 1 + 1 by omega, upto_succ]
        unfold memOf; rw [if_neg (by omega), show k - 1 + 1 = k by omega]
theorem memsTo_end (p n : Nat) (h : p ≤ n) : memsTo p (n + 1) = upto (memOf p) n := by rw [memsTo_all, if_neg (by omega), Nat.add_sub_cancel]

def vals (l : List Nat) : List Value := l.map fun (x : Nat) => Value.int .i64 (x : Int)
theorem info_int2 : (Try.prog.info? 3).map (fun i => (i.zero, i.size, i.bytes)) = some (some (.int .i64 0), 1, 8) := by kernel_rfl
theorem wpList_appI {w : World} {ops : Array Oper} {rest : List Oper} {o : Oper} {a : Act} {Q : Exit → Act → World → Prop} (hgd : o.guard = none) (s x : Operand)
    (ho : o.op = .call { callee := .builtin .append, args := #[s, x], argTypes := #[65, 65] })
    (B : Nat) (sv : Value) (xs : List Nat) (hs : a.eval s = sv) (hown : w.ownsRow B 3 1 sv xs.length (vals xs)) (ad : Addr) (y c : Nat) (hx : a.eval x = .slice (some ad) 1 c)
    (hc : w.cell? ad = some (.int .i64 (y : Int))) (hB : B ≤ w.heap.size) (hlen : xs.length ≤ 1000000)
    (h : ∀ v' w', w'.ownsRow B 3 1 v' (xs ++ [y]).length (vals (xs ++ [y])) → w.grownBy w' sv.ownBlock → (v'.ownBlock = sv.ownBlock ∨ v'.ownBlock = some w.heap.size) → wpList Try.prog ops Q rest (a.put o.dst v') w') : wpList Try.prog ops Q (o :: rest) a w := by
  obtain ⟨i0, hi, hz0, hz1, hz2⟩ := info_parts info_int2
  refine wpList_append_own_at w hgd s x 65 ho B 3 i0 (.int .i64 0) 1 8 Try.underlying65 hi hz0 hz1 hz2 rfl (by decide) sv _ _ hs hown ad 1 c (vals [y]) hx (by simp [vals]) ?_ ?_ (by unfold maxLen; omega) (by omega) hB ?_
  · intro j u hj
    have hj0 : j = 0 := by
      rcases Nat.eq_zero_or_pos j with h | h
      · exact h
      · rw [List.getElem?_eq_none (by simp [vals]; omega)] at hj; cases hj
    subst hj0
    simp [vals] at hj
    subst hj
    simpa [Addr.add] using hc
  · intro u hu
    simp [vals] at hu
    subst hu; rfl
  · intro v' w' h2 h3 _ h5
    refine h v' w' ?_ h3 h5
    have e : vals (xs ++ [y]) = vals xs ++ vals [y] := by simp [vals]
    rw [e, List.length_append]
    exact h2
/-- What Members hands back. -/
def MemsRet (p n : Nat) (w : World) (e : Ending) (w' : World) : Prop :=
  ∃ v, e = .returned v ∧ w'.ownsRow w.heap.size 3 1 v n (vals (upto (memOf p) n)) ∧ Below w.heap.size w w'
set_option maxRecDepth 100000 in
set_option maxHeartbeats 3200000 in
theorem refMembers_any (b c d seg row : Int) (p n : Nat) (w : World) (hg : GoodG ((n : Int) + 1) b c d) (h0 : 0 ≤ seg) (h1 : seg ≤ 2000) (h2 : 0 ≤ row) (h3 : row ≤ 2000) (hp : ((p : Nat) : Int) = ParOf ((n : Int) + 1) c seg row) (hpn : p ≤ n) (hn : n ≤ 1000) :
    Calls Try.prog 31 #[.agg #[.int .i64 ((n : Int) + 1), .int .i64 b, .int .i64 c, .int .i64 d], .int .i64 seg, .int .i64 row] w (MemsRet p n w) := by
  have HP := Lib.hid fun x : World => refPar_any ((n : Int) + 1) b c d seg row x hg h0 h1 h2 h3
  rw [← hp] at HP
  have HS := Lib.hid (gs_new w ((n : Int) + 1) b c d)
  have HE := Lib.hid (memsTo_end p n hpn)
  clear hg h0 h1 h2 h3 hp
  go_enter Try.func31, Try.ntmps31
  go_wp2_with fail
  obtain ⟨w1, hw1⟩ : ∃ w1, w1 = w.alloc (.cells #[.int .i64 ((n : Int) + 1), .int .i64 b, .int .i64 c, .int .i64 d] 54) := ⟨_, rfl⟩
  rw [← hw1] at HS ⊢
  clear hw1
  go_loopw [7, 8] (fun v i wr => ∃ k : Nat, k ≤ n + 1 ∧ i = .int .i64 (k : Int) ∧ GS w w.heap.size ((n : Int) + 1) b c d wr ∧ wr.ownsRow w.heap.size 3 1 v (memsTo p k).length (vals (memsTo p k)) ∧ (∀ q, v.ownBlock = some q → w.heap.size < q)) (fun _ i _ => n + 1 - (intOf i).toNat)
  case atStart => exact ⟨0, Nat.zero_le _, rfl, HS.out, World.ownsRow_nil _ _ _ _, fun q hq => by simp [Value.ownBlock] at hq⟩
  case round =>
    obtain ⟨k, hk, rfl, hgs, hrow, hfar⟩ := hrel
    have HGS := Lib.hid hgs
    have HROW := Lib.hid hrow
    have HFAR := Lib.hid hfar
    clear hgs hrow hfar
    obtain ⟨c0, c1, c2, c3, _⟩ := HGS.out
    by_cases hlt : k < n + 1
    · have t1 : decide ((k : Int) < (n : Int) + 1) = true := by simp; omega
      by_cases hkp : k = p
      · have t2 : ((k : Int) != (p : Int)) = false := by simp; omega
        have hs : memsTo p (k + 1) = memsTo p k := by rw [memsTo_succ, if_pos hkp, List.append_nil]
        have HSS := Lib.hid hs
        clear hs hkp
        go_wp2_with fail
        ((with_reducible refine (HP.out _).mono ?_))
        rintro e w2 ⟨rfl, hb⟩
        have HGS2 := Lib.hid (HGS.out.step hb)
        have HROW2 := Lib.hid (ownsRow_below HROW.out hb)
        clear hb c0 c1 c2 c3 HGS HROW
        go_wp2
        go_roundw
        case rel => exact ⟨k + 1, by omega, by go_num, HGS2.out, by rw [HSS.out]; exact HROW2.out, HFAR.out⟩
        case measure => simp [intOf]; omega
      · have t2 : ((k : Int) != (p : Int)) = true := by simp; omega
        have hs : memsTo p (k + 1) = memsTo p k ++ [k] := by rw [memsTo_succ, if_neg hkp]
        have HSS := Lib.hid hs
        have hle := memsTo_le p k
        clear hs hkp
        go_wp2_with fail
        ((with_reducible refine (HP.out _).mono ?_))
        rintro e w2 ⟨rfl, hb⟩
        have HGS2 := Lib.hid (HGS.out.step hb)
        have hrow2 := ownsRow_below HROW.out hb
        clear hb c0 c1 c2 c3 HGS HROW
        obtain ⟨M, hM⟩ : ∃ M, M = memsTo p k := ⟨_, rfl⟩
        rw [← hM] at HSS hrow2 hle
        have HR2 := Lib.hid hrow2
        clear hM hrow2
        go_wp2_with (at_builtin; refine wpList_appI rfl _ _ rfl w.heap.size _ M rfl (HR2.out.alloc _) ⟨w2.heap.size, 0, none⟩ k 1 rfl (cell_new1 _ _ _) (Nat.le_trans HGS2.out.2.2.2.2.size (by simp)) (by omega) ?_; intro v' w3 hown hgrow hat)
        have HGS3 := Lib.hid ((HGS2.out.step (bel_alloc (Below.refl _ w2) _)).grown HFAR.out hgrow)
        have HF3 : Hid (∀ q, v'.ownBlock = some q → w.heap.size < q) := Lib.hid fun q hq => by
          rcases hat with h | h
          · exact HFAR.out q (h.symm.trans hq)
          · rw [h] at hq
            have := HGS2.out.2.2.2.2.size
            have h5 := World.block_lt_of_cell? w2 _ HGS2.out.1
            simp at hq h5
            omega
        have HO3 := Lib.hid hown
        clear hown hgrow hat
        go_wp2
        go_roundw
        case rel => exact ⟨k + 1, by omega, by go_num, HGS3.out, by rw [HSS.out]; exact HO3.out, HF3.out⟩
        case measure => simp [intOf]; omega
    · obtain rfl : k = n + 1 := by omega
      rw [HE.out] at HROW
      go_wp2
      go_ret
      exact ⟨_, rfl, by have h := HROW.out; rw [upto_length] at h; exact h, HGS.out.2.2.2.2⟩

end Go.Proofs.Ytallambldbhibaa
