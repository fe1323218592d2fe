/- The reader's methods. -/
import Derived.Test.YtallambldbhibaaReader
namespace Go.Proofs.Ytallambldbhibaa
open Go.RowKit

theorem rd_cells {w : World} {pr pg c : Nat} {a : Option Addr} {bs : List Nat} (h : RD w pr pg a c bs) : w.cell? ⟨pr, 0, none⟩ = some (.slice a bs.length c) ∧ w.cell? ⟨pr, 1, none⟩ = some (.pointer (some ⟨pg, 0, none⟩)) ∧ w.frozen? ⟨pr, 0, none⟩ = false := by
  obtain ⟨h, _⟩ := h
  refine ⟨?_, ?_, ?_⟩ <;> simp [World.cell?, World.frozen?, h]
theorem left_ok {w : World} {pr pg c : Nat} {a : Option Addr} {bs : List Nat} (h : RD w pr pg a c bs) :
    Calls Try.prog 151 #[.pointer (some ⟨pr, 0, none⟩)] w fun e w' => e = .returned (.int .i64 (bs.length : Int)) ∧ w' = w := by
  obtain ⟨h0, h1, h2⟩ := rd_cells h
  go_enter Try.func151, Try.ntmps151
  go_wp2
  go_ret
  exact ⟨rfl, rfl⟩
theorem setcell_reader {w : World} {pr : Nat} {v p u : Value} {t : TypeId} (h : w.heap[pr]? = some (.cells #[v, p] t (0, 0))) : (w.setCell ⟨pr, 0, none⟩ u).heap[pr]? = some (.cells #[u, p] t (0, 0)) := by
  have hlt : pr < w.heap.size := by
    rcases Nat.lt_or_ge pr w.heap.size with h1 | h1
    · exact h1
    · rw [Array.getElem?_eq_none h1] at h; cases h
  simp [World.setCell, Array.getElem?_modify, h]
theorem add_off (b off n : Nat) : Addr.add ⟨b, off, none⟩ n = ⟨b, off + n, none⟩ := by
  unfold Addr.add; split
  · subst_vars; rfl
  · rfl
theorem add_block (x : Addr) (n : Nat) : (Addr.add x n).block = x.block := by
  unfold Addr.add; split <;> rfl
theorem rd_advance {w : World} {pr pg c : Nat} {a a2 : Option Addr} {bs : List Nat} (h : RD w pr pg a c bs) (n : Nat) (hn : n ≤ bs.length)
    (ha : (a = none ∧ a2 = none) ∨ ∃ b off sp, a = some ⟨b, off, sp⟩ ∧ (a2 = some (Addr.add ⟨b, off, sp⟩ n) ∨ (c = n ∧ a2 = some ⟨b, off, sp⟩))) :
    RD (w.setCell ⟨pr, 0, none⟩ (.slice a2 (bs.length - n) (c - n))) pr pg a2 (c - n) (bs.drop n) ∧ Row (w.setCell ⟨pr, 0, none⟩ (.slice a2 (bs.length - n) (c - n))) a n (bs.take n) := by
  obtain ⟨h0, hrow, hnil, hlc, hcm, hne⟩ := h
  have hk : ∀ k, k ≠ pr → (w.setCell ⟨pr, 0, none⟩ (.slice a2 (bs.length - n) (c - n))).heap[k]? = w.heap[k]? := fun k hk => Below.heap_setCell _ _ _ _ hk
  have hcell : ∀ b off, b ≠ pr → (w.setCell ⟨pr, 0, none⟩ (.slice a2 (bs.length - n) (c - n))).cell? ⟨b, off, none⟩ = w.cell? ⟨b, off, none⟩ := fun b off hb => World.cell?_of_block (w := w) (a := ⟨b, off, none⟩) (hk b hb)
  obtain ⟨hl, hx, hr⟩ := hrow
  have hd : (bs.drop n).length = bs.length - n := by simp
  refine ⟨⟨?_, ⟨rfl, fun x hm => hx x (List.mem_of_mem_drop hm), fun h0 => ?_⟩, fun he => ?_, by omega, by omega, fun x hx2 => ?_⟩, ⟨by simp; omega, fun x hm => hx x (List.mem_of_mem_take hm), fun h0 => ?_⟩⟩
  · rw [hd]; exact setcell_reader h0
  · rw [hd] at h0
    obtain ⟨b, off, rfl, hcs⟩ := hr (by omega)
    have hbp : b ≠ pr := hne _ rfl
    rcases ha with ⟨h1, _⟩ | ⟨b', off', sp, h1, h2 | ⟨h2, _⟩⟩
    · cases h1
    · cases h1
      refine ⟨b, off + n, by rw [h2, add_off], fun i hi => ?_⟩
      rw [hd] at hi
      rw [hcell _ _ hbp, Nat.add_assoc, hcs (n + i) (by omega)]
      simp [List.getD_eq_getElem?_getD, List.getElem?_drop]
    · omega
  · rcases ha with ⟨h1, _⟩ | ⟨b', off', sp, h1, h2 | ⟨h2, h3⟩⟩
    · have := hnil h1; omega
    · rw [he] at h2; cases h2
    · rw [he] at h3; cases h3
  · rcases ha with ⟨_, h1⟩ | ⟨b', off', sp, h1, h2 | ⟨h2, h3⟩⟩
    · rw [h1] at hx2; cases hx2
    · rw [h2] at hx2; cases hx2; rw [add_block]; exact hne _ h1
    · rw [h3] at hx2; cases hx2; exact hne _ h1
  · obtain ⟨b, off, rfl, hcs⟩ := hr (by omega)
    have hbp : b ≠ pr := hne _ rfl
    refine ⟨b, off, rfl, fun i hi => ?_⟩
    rw [hcell _ _ hbp, hcs i (by omega)]
    simp [List.getD_eq_getElem?_getD, hi]
/-- What a taking ends with. -/
def Took (w : World) (pr pg : Nat) (a : Option Addr) (c : Nat) (bs : List Nat) (n : Nat) (e : Ending) (w' : World) : Prop :=
  ∃ a2, e = .returned (.slice a n c) ∧ w' = w.setCell ⟨pr, 0, none⟩ (.slice a2 (bs.length - n) (c - n)) ∧ RD w' pr pg a2 (c - n) (bs.drop n) ∧ Row w' a n (bs.take n)
theorem took_of {w w' : World} {pr pg c n : Nat} {a a2 : Option Addr} {bs : List Nat} {v : Value} (h : RD w pr pg a c bs) (hn : n ≤ bs.length)
    (ha : (a = none ∧ a2 = none) ∨ ∃ b off sp, a = some ⟨b, off, sp⟩ ∧ (a2 = some (Addr.add ⟨b, off, sp⟩ n) ∨ (c = n ∧ a2 = some ⟨b, off, sp⟩)))
    (hv : v = .slice a n c) (hw : w' = w.setCell ⟨pr, 0, none⟩ (.slice a2 (bs.length - n) (c - n))) : Took w pr pg a c bs n (.returned v) w' := by
  have hr := rd_advance h n hn ha
  exact ⟨a2, by rw [hv], hw, by rw [hw]; exact hr.1, by rw [hw]; exact hr.2⟩
set_option maxHeartbeats 400000 in
theorem take_ok {w : World} {pr pg c : Nat} {a : Option Addr} {bs : List Nat} (n : Nat) (h : RD w pr pg a c bs) (hn : n ≤ bs.length) :
    Calls Try.prog 149 #[.pointer (some ⟨pr, 0, none⟩), .int .i64 (n : Int)] w (Took w pr pg a c bs n) := by
  obtain ⟨h0, h1, h2⟩ := rd_cells h
  have hc : bs.length ≤ c ∧ c ≤ maxLen := ⟨h.2.2.2.1, h.2.2.2.2.1⟩
  have HN := Lib.hid hn
  unfold maxLen at hc
  cases a with
  | none =>
    obtain rfl : c = 0 := h.2.2.1 rfl
    obtain rfl : n = 0 := by omega
    have hb0 : bs.length = 0 := by omega
    have HH := Lib.hid h
    clear h
    go_enter Try.func149, Try.ntmps149
    go_wp2_with (go_at_call 151; refine (left_ok HH.out).mono ?_; rintro e w1 ⟨rfl, rfl⟩)
    go_ret
    exact took_of (a2 := none) HH.out HN.out (Or.inl ⟨rfl, rfl⟩) rfl (by rw [hb0])
  | some x =>
    obtain ⟨b, off, sp⟩ := x
    have HH := Lib.hid h
    clear h
    go_enter Try.func149, Try.ntmps149
    go_wp2_with (go_at_call 151; refine (left_ok HH.out).mono ?_; rintro e w1 ⟨rfl, rfl⟩)
    · have hcn : c = n := by assumption
      subst hcn
      go_ret
      exact took_of (a2 := some ⟨b, off, sp⟩) HH.out HN.out (Or.inr ⟨b, off, sp, rfl, Or.inr ⟨rfl, rfl⟩⟩) rfl (by rw [Nat.sub_self])
    · go_ret
      exact took_of (a2 := some (Addr.add ⟨b, off, sp⟩ n)) HH.out HN.out (Or.inr ⟨b, off, sp, rfl, Or.inl rfl⟩) rfl rfl

/-- What the reader's Raw ends with. -/
def RawRet (w : World) (pr pg : Nat) (c : Nat) (bs : List Nat) (n : Nat) (e : Ending) (w' : World) : Prop :=
  ∃ a2 w1, w1 = w.setCell ⟨pr, 0, none⟩ (.slice a2 (bs.length - n) (c - n)) ∧ RD w' pr pg a2 (c - n) (bs.drop n) ∧ Below w1.heap.size w1 w' ∧ ∃ sv, e = .returned sv ∧ Own w1.heap.size w' sv (bs.take n)
theorem rd_below {w w' : World} {pr pg c : Nat} {a : Option Addr} {bs : List Nat} (h : RD w pr pg a c bs) (hb : Below w.heap.size w w') : RD w' pr pg a c bs := by
  obtain ⟨h0, h1, h2, h3, h4, h5⟩ := h
  have hlt : pr < w.heap.size := by
    rcases Nat.lt_or_ge pr w.heap.size with h1 | h1
    · exact h1
    · rw [Array.getElem?_eq_none h1] at h0; cases h0
  exact ⟨by rw [hb.block pr hlt]; exact h0, row_keep h1 hb (Nat.le_refl _), h2, h3, h4, h5⟩
end Go.Proofs.Ytallambldbhibaa
