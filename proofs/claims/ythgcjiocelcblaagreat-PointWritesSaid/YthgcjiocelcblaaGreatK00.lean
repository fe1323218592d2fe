/- Parts of the proof: Base, Append, RefPart. -/
import Derived.Test.YthgcjiocelcblaaGreatProg
import Derived.WalkKit
import Derived.WalkSpells
import Derived.WalkLawsBesides
import Derived.Laws.BitsAllLaws
import Derived.Lib.Hide
import Derived.IntWalk
import Derived.Deep.QuietTactic
import Derived.BigQuiet
import Derived.Maps.AppendAt
import Derived.Laws.AppendOwnNone
namespace Go.Proofs.YthgcjiocelcblaaGreat
open Go.RowKit

theorem ret_int {k : IntKind} {a b : Int} (h : a = b) : Ending.returned (.int k a) = .returned (.int k b) := by rw [h]
theorem ret_bool {a b : Bool} (h : a = b) : Ending.returned (.bool a) = .returned (.bool b) := by rw [h]
theorem ret_val {a b : Value} (h : a = b) : Ending.returned a = .returned b := by rw [h]

theorem cell_new1 (w : World) (v : Value) (t : TypeId) : (w.alloc (.cells #[v] t)).cell? ⟨w.heap.size, 0, none⟩ = some v := by
  rw [World.cell?_alloc_mark w #[v] t (0, 0) 0]; rfl

theorem cell_new1_at {w : World} {v : Value} {t : TypeId} {n : Nat} (h : w.heap.size = n) : (w.alloc (.cells #[v] t)).cell? ⟨n, 0, none⟩ = some v := by
  subst h; exact cell_new1 w v t
theorem cell_new2 (w : World) (v0 v1 : Value) (t : TypeId) : (w.alloc (.cells #[v0, v1] t)).cell? ⟨w.heap.size, 0, none⟩ = some v0 ∧ (w.alloc (.cells #[v0, v1] t)).cell? ⟨w.heap.size, 1, none⟩ = some v1 := by
  constructor
  · rw [World.cell?_alloc_mark w #[v0, v1] t (0, 0) 0]; rfl
  · rw [World.cell?_alloc_mark w #[v0, v1] t (0, 0) 1]; rfl

/-- A slice of bytes in memory: 'bs' are its elements. -/
def Row (w : World) (a : Option Addr) (len : Nat) (bs : List Nat) : Prop :=
  bs.length = len ∧ (∀ x ∈ bs, x < 256) ∧ (0 < len → ∃ b off, a = some ⟨b, off, none⟩ ∧ ∀ i, i < len → w.cell? ⟨b, off + i, none⟩ = some (.int .u8 ((bs.getD i 0 : Nat) : Int)))
def u8v (x : Nat) : Value := .int .u8 (x : Int)
/-- A slice of bytes of the call's own: nil, or a row in a block from B on. -/
def Own (B : Nat) (w : World) (sv : Value) (bs : List Nat) : Prop := w.ownsRow B 5 1 sv bs.length (bs.map u8v) ∧ ∀ x ∈ bs, x < 256
/-- What a function ends with that answers bytes of its own. -/
def RetOwn (w : World) (bs : List Nat) (e : Ending) (w' : World) : Prop := ∃ sv, e = .returned sv ∧ Own w.heap.size w' sv bs ∧ Below w.heap.size w w'
theorem info_u8 : (Tryz.prog.info? 5).map (fun i => (i.zero, i.size, i.bytes)) = some (some (.int .u8 0), 1, 1) := by kernel_rfl
theorem getD_in (bs : List Nat) (i : Nat) (h : i < bs.length) : bs.getD i 0 = bs[i] := by
  simp [List.getD, h]
theorem getD_lt {bs : List Nat} (h : ∀ x ∈ bs, x < 256) (i : Nat) : bs.getD i 0 < 256 := by
  by_cases hi : i < bs.length
  · rw [getD_in _ _ hi]; exact h _ (List.getElem_mem _)
  · simp [List.getD, List.getElem?_eq_none (Nat.le_of_not_lt hi)]
theorem row_of_own {B : Nat} {w : World} {sv : Value} {bs : List Nat} (h : Own B w sv bs) : ∃ a cap, sv = .slice a bs.length cap ∧ Row w a bs.length bs ∧ bs.length ≤ maxLen := by
  obtain ⟨⟨_, h⟩, hb⟩ := h
  rcases h with ⟨rfl, h0⟩ | ⟨g, cap, cur, rfl, _, hg, hc, hm, hs, ht⟩
  · exact ⟨none, 0, by rw [h0], ⟨rfl, hb, fun h => by omega⟩, by omega⟩
  · refine ⟨_, cap, rfl, ⟨rfl, hb, fun _ => ⟨g, 0, rfl, fun i hi => ?_⟩⟩, by omega⟩
    have h1 : w.cell? ⟨g, 0 + i, none⟩ = cur[i]? := by simp [World.cell?, hg]
    have h2 : cur[i]? = (cur.toList.take (bs.length * 1))[i]? := by
      rw [List.getElem?_take_of_lt (by omega), Array.getElem?_toList]
    rw [h1, h2, ht, List.getElem?_map, List.getElem?_eq_getElem hi, getD_in _ _ hi]
    rfl
theorem own_nil (B : Nat) (w : World) : Own B w (.slice none 0 0) [] := ⟨World.ownsRow_nil w B _ 1, fun x hx => by cases hx⟩
theorem take_snoc_getD (bs : List Nat) (i : Nat) (h : i < bs.length) : bs.take (i + 1) = bs.take i ++ [bs.getD i 0] := by
  rw [List.take_succ_eq_append_getElem h, getD_in _ _ h]

end Go.Proofs.YthgcjiocelcblaaGreat

namespace Go.Proofs.YthgcjiocelcblaaGreat
open Go.RowKit

/-- What append onto sv leaves. -/
structure Apd (B : Nat) (w : World) (sv : Value) (bs : List Nat) (sv' : Value) (w' : World) : Prop where
  own : Own B w' sv' bs
  grown : w.grownBy w' sv.ownBlock
  where_ : sv'.ownBlock = sv.ownBlock ∨ sv'.ownBlock = some w.heap.size
  below : Below B w w'

theorem grownBy_refl (w : World) (row : Option Nat) : w.grownBy w row := ⟨rfl, rfl, rfl, Nat.le_refl _, fun _ _ _ => rfl⟩
theorem own_base {B : Nat} {w : World} {sv : Value} {bs : List Nat} (h : Own B w sv bs) : ∀ k, sv.ownBlock = some k → B ≤ k ∧ k < w.heap.size := h.1.lt
theorem own_mono {B B' : Nat} {w : World} {sv : Value} {bs : List Nat} (h : Own B w sv bs) (hB : B' ≤ B) : Own B' w sv bs := by
  refine ⟨⟨h.1.1, ?_⟩, h.2⟩
  rcases h.1.2 with h0 | ⟨g, cap, cur, h1, h2, h3⟩
  · exact .inl h0
  · exact .inr ⟨g, cap, cur, h1, Nat.le_trans hB h2, h3⟩

theorem wpList_app {w : World} {ops : Array Oper} {rest : List Oper} {o : Oper} {a : Act} {Q : Exit → Act → World → Prop} (hgd : o.guard = none) (s x : Operand)
    (ho : o.op = .call { callee := .builtin .append, args := #[s, x], argTypes := #[28, 28] })
    (B : Nat) (sv : Value) (bs : List Nat) (hs : a.eval s = sv) (hown : Own B w sv bs) (xa : Option Addr) (m c : Nat) (cs : List Nat) (hx : a.eval x = .slice xa m c)
    (hr : Row w xa m cs) (hc : xa = none → c = 0) (hB : B ≤ w.heap.size) (hlen : bs.length + m ≤ 140737488355328)
    (h : ∀ v' w', Apd B w sv (bs ++ cs) v' w' → wpList Tryz.prog ops Q rest (a.put o.dst v') w') : wpList Tryz.prog ops Q (o :: rest) a w := by
  obtain ⟨i0, hi, hz0, hz1, hz2⟩ := info_parts info_u8
  obtain ⟨hrow, hby⟩ := hown
  obtain ⟨hm, hcs, hcell⟩ := hr
  cases xa with
  | none =>
    have h0 : m = 0 := by
      rcases Nat.eq_zero_or_pos m with h | h
      · exact h
      · obtain ⟨_, _, h1, _⟩ := hcell h
        cases h1
    obtain rfl := hc rfl
    subst h0
    obtain rfl : cs = [] := List.eq_nil_of_length_eq_zero hm
    refine wpList_append_own_none hgd s x 28 ho B 5 i0 1 Tryz.underlying28 hi sv _ _ hs hrow hx ?_
    refine h sv w ⟨?_, grownBy_refl _ _, .inl rfl, Below.refl _ _⟩
    rw [List.append_nil]
    exact ⟨hrow, hby⟩
  | some ad =>
    refine wpList_append_own_at w hgd s x 28 ho B 5 i0 (.int .u8 0) 1 1 Tryz.underlying28 hi hz0 hz1 hz2 rfl (by decide) sv _ _ hs hrow ad m c (cs.map u8v) hx (by simp [hm]) ?_ ?_ (by unfold maxLen; omega) (by omega) hB ?_
    · intro j u hj
      have hjm : j < m := by
        rcases Nat.lt_or_ge j m with h | h
        · exact h
        · rw [List.getElem?_eq_none (by simp; omega)] at hj; cases hj
      obtain ⟨b, off, h1, h2⟩ := hcell (by omega)
      cases h1
      have h3 := h2 j hjm
      rw [List.getElem?_map, List.getElem?_eq_getElem (by omega)] at hj
      simp only [Option.map_some, Option.some.injEq] at hj
      rw [getD_in _ _ (by omega)] at h3
      rw [← hj]
      unfold Addr.add
      split
      · rename_i h0; subst h0; exact h3
      · exact h3
    · intro u hu
      rw [List.mem_map] at hu
      obtain ⟨y, _, rfl⟩ := hu
      rfl
    · intro v' w' h2 h3 _ h5
      refine h v' w' ⟨⟨?_, ?_⟩, h3, h5, (Below.refl B w).grown h3 hB (fun k hk => (hrow.lt k hk).1)⟩
      · rw [List.map_append, List.length_append, hm]; exact h2
      · intro y hy
        rw [List.mem_append] at hy
        rcases hy with hy | hy
        · exact hby y hy
        · exact hcs y hy

/-- One byte, laid in a block of its own ahead of an append. -/
theorem row_one (w : World) (x : Nat) (hx : x < 256) : Row (w.alloc (.cells #[.int .u8 (x : Int)] 5)) (some ⟨w.heap.size, 0, none⟩) 1 [x] :=
  ⟨rfl, fun y hy => by simp at hy; omega, fun _ => ⟨_, 0, rfl, fun i hi => by obtain rfl : i = 0 := by omega
                                                                              exact cell_new1 _ _ _⟩⟩
theorem own_alloc {B : Nat} {w : World} {sv : Value} {bs : List Nat} (h : Own B w sv bs) (o : Obj) : Own B (w.alloc o) sv bs := ⟨h.1.alloc o, h.2⟩
/-- Bytes are there still when something else has grown. -/
theorem own_kept {B : Nat} {w w' : World} {row : Option Nat} {sv : Value} {bs : List Nat} (h : Own B w sv bs) (hg : w.grownBy w' row) (hne : sv.ownBlock = none ∨ sv.ownBlock ≠ row) : Own B w' sv bs :=
  ⟨h.1.kept hg hne, h.2⟩
theorem row_grown {w w' : World} {row : Option Nat} {a : Option Addr} {len : Nat} {bs : List Nat} (h : Row w a len bs) (hg : w.grownBy w' row) (hne : ∀ x, a = some x → some x.block ≠ row) : Row w' a len bs := by
  obtain ⟨h1, h2, h3⟩ := h
  refine ⟨h1, h2, fun h0 => ?_⟩
  obtain ⟨b, off, h4, h5⟩ := h3 h0
  exact ⟨b, off, h4, fun i hi => hg.cell (h5 i hi) (hne ⟨b, off, none⟩ h4)⟩
theorem row_below {B : Nat} {w w' : World} {a : Option Addr} {len : Nat} {bs : List Nat} (h : Row w a len bs) (hb : Below B w w') (hlt : ∀ x, a = some x → x.block < B) : Row w' a len bs := by
  obtain ⟨h1, h2, h3⟩ := h
  refine ⟨h1, h2, fun h0 => ?_⟩
  obtain ⟨b, off, h4, h5⟩ := h3 h0
  exact ⟨b, off, h4, fun i hi => by rw [hb.cell (p := ⟨b, off + i, none⟩) (hlt ⟨b, off, none⟩ h4)]; exact h5 i hi⟩
theorem row_lt {w : World} {a : Option Addr} {len : Nat} {bs : List Nat} (h : Row w a len bs) (h0 : 0 < len) : ∀ x, a = some x → x.block < w.heap.size := by
  obtain ⟨b, off, h4, h5⟩ := h.2.2 h0
  intro x hx
  rw [h4] at hx
  cases hx
  exact World.block_lt_of_cell? w _ (h5 0 h0)
theorem row_keep {B : Nat} {w w' : World} {a : Option Addr} {len : Nat} {bs : List Nat} (h : Row w a len bs) (hb : Below B w w') (hB : w.heap.size ≤ B) : Row w' a len bs := by
  rcases Nat.eq_zero_or_pos len with h0 | h0
  · exact ⟨h.1, h.2.1, fun h1 => by omega⟩
  · exact row_below h hb (fun x hx => Nat.lt_of_lt_of_le (row_lt h h0 x hx) hB)

theorem row_alloc {w : World} {a : Option Addr} {len : Nat} {bs : List Nat} (h : Row w a len bs) (o : Obj) : Row (w.alloc o) a len bs :=
  row_keep h ((Below.refl _ w).alloc (Nat.le_refl _) o) (Nat.le_refl _)
theorem eq_true_of {x y : Nat} (h : x = y) : ((x : Int) == (y : Int)) = true := by rw [h]; simp
theorem bel_trans {w a b : World} (h : Below w.heap.size w a) (k : Below a.heap.size a b) : Below w.heap.size w b := h.trans (k.mono h.size)
theorem bel_alloc {w a : World} (h : Below w.heap.size w a) (o : Obj) : Below w.heap.size w (a.alloc o) := h.alloc h.size o

theorem row_cell {w : World} {a : Option Addr} {len k : Nat} {bs : List Nat} (h : Row w a len bs) (hk : k < len) :
    ∃ (b off x : Nat), a = some ⟨b, off, none⟩ ∧ w.cell? ⟨b, off + k, none⟩ = some (.int .u8 (x : Int)) ∧ x < 256 ∧ Hid (x = bs.getD k 0) := by
  obtain ⟨h1, h2, h3⟩ := h
  obtain ⟨b, off, h4, h5⟩ := h3 (by omega)
  exact ⟨b, off, _, h4, h5 k hk, getD_lt h2 k, rfl⟩

end Go.Proofs.YthgcjiocelcblaaGreat

namespace Go.Proofs.YthgcjiocelcblaaGreat.Crc
def stp (n : Nat) : Nat := if n % 2 = 1 then (n / 2) ^^^ 2197175160 else n / 2
def stps : Nat → Nat → Nat
  | 0, n => n
  | k + 1, n => stps k (stp n)
def run (s : Nat) (l : List Nat) : Nat := l.foldl (fun s x => stps 8 (s ^^^ x)) s
def val (l : List Nat) : Nat := l.foldr (fun x v => x + 256 * v) 0
def of (l : List Nat) : Nat := 4294967295 - run 4294967295 l

theorem xor_half (a b : Nat) : (a ^^^ b) / 2 = (a / 2) ^^^ (b / 2) := by
  apply Nat.eq_of_testBit_eq
  intro i
  rw [Nat.testBit_xor, Nat.testBit_div_two, Nat.testBit_div_two, Nat.testBit_div_two, Nat.testBit_xor]
theorem xor_mod (a b : Nat) : (a ^^^ b) % 2 = (a % 2 + b % 2) % 2 := by
  have h : (a ^^^ b).testBit 0 = (a.testBit 0 ^^ b.testBit 0) := Nat.testBit_xor a b 0
  rw [Nat.testBit_zero, Nat.testBit_zero, Nat.testBit_zero] at h
  rcases Nat.mod_two_eq_zero_or_one a with ha | ha <;> rcases Nat.mod_two_eq_zero_or_one b with hb | hb <;> simp [ha, hb] at h ⊢ <;> first | assumption | (rw [← Nat.mod_two_ne_one] ; simp [ha, hb]) | omega
theorem stp_xor (a b : Nat) : stp (a ^^^ b) = stp a ^^^ stp b := by
  unfold stp
  rw [xor_mod, xor_half]
  rcases Nat.mod_two_eq_zero_or_one a with ha | ha <;> rcases Nat.mod_two_eq_zero_or_one b with hb | hb <;> simp [ha, hb]
  · rw [Nat.xor_assoc]
  · rw [Nat.xor_assoc, Nat.xor_assoc, Nat.xor_comm (b / 2)]
  · rw [Nat.xor_comm (b / 2), Nat.xor_assoc, ← Nat.xor_assoc 2197175160, Nat.xor_self, Nat.zero_xor]
theorem stps_xor (k a b : Nat) : stps k (a ^^^ b) = stps k a ^^^ stps k b := by
  induction k generalizing a b with
  | zero => rfl
  | succ k ih => simp only [stps]; rw [stp_xor, ih]
theorem stps_zero (k : Nat) : stps k 0 = 0 := by
  induction k with
  | zero => rfl
  | succ k ih => simp only [stps]; rw [show stp 0 = 0 from rfl, ih]
theorem stp_two (m : Nat) : stp (2 * m) = m := by
  unfold stp; rw [if_neg (by omega)]; omega
theorem stps_shl (k m : Nat) : stps k (2 ^ k * m) = m := by
  induction k with
  | zero => simp [stps]
  | succ k ih => simp only [stps]; rw [show 2 ^ (k + 1) * m = 2 * (2 ^ k * m) by rw [Nat.pow_succ, Nat.mul_comm (2 ^ k) 2, Nat.mul_assoc], stp_two, ih]
theorem stps_add (j k n : Nat) : stps (j + k) n = stps k (stps j n) := by
  induction j generalizing n with
  | zero => simp [stps]
  | succ j ih => rw [show j + 1 + k = (j + k) + 1 by omega]; simp only [stps]; exact ih _
theorem stp_lt {n : Nat} (h : n < 4294967296) : stp n < 4294967296 := by
  unfold stp
  split
  · exact Nat.xor_lt_two_pow (n := 32) (by omega) (by omega)
  · omega
theorem stps_lt {n : Nat} (k : Nat) (h : n < 4294967296) : stps k n < 4294967296 := by
  induction k generalizing n with
  | zero => exact h
  | succ k ih => exact ih (stp_lt h)
theorem stp_pos {n : Nat} (h : n < 4294967296) (h0 : n ≠ 0) : stp n ≠ 0 := by
  unfold stp
  split
  · intro e
    have e' : n / 2 = 2197175160 := by
      have := congrArg (· ^^^ 2197175160) e
      simpa [Nat.xor_assoc] using this
    omega
  · omega
theorem stps_pos {n : Nat} (k : Nat) (h : n < 4294967296) (h0 : n ≠ 0) : stps k n ≠ 0 := by
  induction k generalizing n with
  | zero => exact h0
  | succ k ih => exact ih (stp_lt h) (stp_pos h h0)
theorem low_add (i x y : Nat) (hx : x < 2 ^ i) : x + 2 ^ i * y = x ^^^ (2 ^ i * y) := by
  apply Nat.eq_of_testBit_eq
  intro j
  rw [Nat.testBit_xor, Nat.add_comm, Nat.testBit_two_pow_mul_add _ hx, Nat.testBit_two_pow_mul]
  by_cases h : j < i
  · have h' : ¬ i ≤ j := by omega
    simp [h, h']
  · have : x.testBit j = false := Nat.testBit_lt_two_pow (Nat.lt_of_lt_of_le hx (Nat.pow_le_pow_right (by omega) (by omega)))
    simp [h, this]; omega
theorem val_cons (x : Nat) (l : List Nat) : val (x :: l) = x + 256 * val l := by unfold val; rw [List.foldr_cons]
theorem run_cons (s x : Nat) (l : List Nat) : run s (x :: l) = run (stps 8 (s ^^^ x)) l := by unfold run; rw [List.foldl_cons]
theorem val_cons_xor (x : Nat) (l : List Nat) (hx : x < 256) : val (x :: l) = x ^^^ (256 * val l) := by
  have h := low_add 8 x (val l) (by simpa using hx)
  rw [val_cons]; simpa using h
theorem stps8_shl (m : Nat) : stps 8 (256 * m) = m := by have h := stps_shl 8 m; simpa using h
theorem run_eq (s : Nat) (l : List Nat) (hl : ∀ x ∈ l, x < 256) : run s l = stps (8 * l.length) (s ^^^ val l) := by
  induction l generalizing s with
  | nil => simp [run, val, stps]
  | cons x l ih =>
    rw [run_cons, ih _ (fun y hy => hl y (List.mem_cons_of_mem _ hy)), val_cons_xor x l (hl x (by simp)), List.length_cons, show 8 * (l.length + 1) = 8 + 8 * l.length by omega, stps_add, ← Nat.xor_assoc, stps_xor 8 (s ^^^ x) (256 * val l), stps8_shl]
theorem run_append (s : Nat) (a b : List Nat) : run s (a ++ b) = run (run s a) b := by
  induction a generalizing s with
  | nil => rfl
  | cons x a ih => rw [List.cons_append, run_cons, run_cons]; exact ih _
theorem run_lt {s : Nat} (l : List Nat) (hs : s < 4294967296) (hl : ∀ x ∈ l, x < 256) : run s l < 4294967296 := by
  induction l generalizing s with
  | nil => exact hs
  | cons x l ih =>
    rw [run_cons]
    refine ih (stps_lt 8 (Nat.xor_lt_two_pow (n := 32) hs ?_)) (fun y hy => hl y (List.mem_cons_of_mem _ hy))
    have := hl x (by simp); omega
theorem ones_sub (n : Nat) (h : n < 4294967296) : 4294967295 - n = 4294967295 ^^^ n := by
  have h1 : n ^^^ (4294967295 - n) = 4294967295 := by
    apply Nat.eq_of_testBit_eq
    intro i
    rw [Nat.testBit_xor, show 4294967295 - n = 2 ^ 32 - (n + 1) by omega, Nat.testBit_two_pow_sub_succ (by simpa using h), show 4294967295 = 2 ^ 32 - 1 by rfl, Nat.testBit_two_pow_sub_one]
    by_cases hi : i < 32
    · simp [hi]
    · simp [hi]
      exact Nat.testBit_lt_two_pow (Nat.lt_of_lt_of_le h (show 2 ^ 32 ≤ 2 ^ i from Nat.pow_le_pow_right (by omega) (by omega)))
  calc 4294967295 - n = n ^^^ (n ^^^ (4294967295 - n)) := by rw [← Nat.xor_assoc, Nat.xor_self, Nat.zero_xor]
    _ = 4294967295 ^^^ n := by rw [h1, Nat.xor_comm]

theorem of_eq (l : List Nat) (hl : ∀ x ∈ l, x < 256) : of l = 4294967295 ^^^ stps (8 * l.length) (4294967295 ^^^ val l) := by
  unfold of
  rw [ones_sub _ (run_lt l (by omega) hl), run_eq _ l hl]
theorem of_lt (l : List Nat) : of l < 4294967296 := by unfold of; omega
theorem of_le (l : List Nat) : of l ≤ 4294967295 := by unfold of; omega

/-- bytes changed by one another -/
def xors : List Nat → List Nat → List Nat := List.zipWith (· ^^^ ·)
theorem xors_lt (a b : List Nat) (ha : ∀ x ∈ a, x < 256) (hb : ∀ x ∈ b, x < 256) : ∀ x ∈ xors a b, x < 256 := by
  unfold xors
  intro x hx
  rw [List.mem_iff_getElem] at hx
  obtain ⟨i, hi, rfl⟩ := hx
  rw [List.getElem_zipWith]
  exact Nat.xor_lt_two_pow (n := 8) (ha _ (List.getElem_mem _)) (hb _ (List.getElem_mem _))
theorem val_xors (a b : List Nat) (h : a.length = b.length) (ha : ∀ x ∈ a, x < 256) (hb : ∀ x ∈ b, x < 256) : val (xors a b) = val a ^^^ val b := by
  induction a generalizing b with
  | nil => cases b with
    | nil => rfl
    | cons y b => simp at h
  | cons x a ih => cases b with
    | nil => simp at h
    | cons y b =>
      have hx := ha x (by simp)
      have hy := hb y (by simp)
      have hxy : x ^^^ y < 256 := Nat.xor_lt_two_pow (n := 8) hx hy
      show val ((x ^^^ y) :: xors a b) = _
      rw [val_cons_xor _ _ hxy, val_cons_xor _ _ hx, val_cons_xor _ _ hy, ih b (by simpa using h) (fun z hz => ha z (List.mem_cons_of_mem _ hz)) (fun z hz => hb z (List.mem_cons_of_mem _ hz))]
      have e : 256 * (val a ^^^ val b) = 256 * val a ^^^ 256 * val b := by
        have h1 := Nat.shiftLeft_xor_distrib (a := val a) (b := val b) (i := 8)
        rw [Nat.shiftLeft_eq, Nat.shiftLeft_eq, Nat.shiftLeft_eq] at h1
        rw [Nat.mul_comm 256, Nat.mul_comm 256, Nat.mul_comm 256]
        simpa using h1
      rw [e]
      generalize 256 * val a = p
      generalize 256 * val b = q
      rw [Nat.xor_assoc, Nat.xor_assoc, ← Nat.xor_assoc y p q, Nat.xor_comm y p, Nat.xor_assoc p y q]
theorem goes (a b c : List Nat) (hab : a.length = b.length) (hac : a.length = c.length) (ha : ∀ x ∈ a, x < 256) (hb : ∀ x ∈ b, x < 256) (hc : ∀ x ∈ c, x < 256) :
    (of a ^^^ of b) ^^^ of c = of (xors (xors a b) c) := by
  have hl : (xors a b).length = a.length := by simp [xors, hab]
  have hl2 : (xors (xors a b) c).length = a.length := by simp [xors, hab]; omega
  have h1 := xors_lt a b ha hb
  have h2 := xors_lt _ c h1 hc
  rw [of_eq a ha, of_eq b hb, of_eq c hc, of_eq _ h2, hl2, ← hab, ← hac, val_xors _ _ (by omega) h1 hc, val_xors _ _ hab ha hb]
  rw [stps_xor, stps_xor, stps_xor, stps_xor, stps_xor, stps_xor]
  generalize stps (8 * a.length) 4294967295 = t
  generalize stps (8 * a.length) (val a) = x
  generalize stps (8 * a.length) (val b) = y
  generalize stps (8 * a.length) (val c) = z
  generalize 4294967295 = o
  apply Nat.eq_of_testBit_eq
  intro i
  simp only [Nat.testBit_xor]
  cases o.testBit i <;> cases t.testBit i <;> cases x.testBit i <;> cases y.testBit i <;> cases z.testBit i <;> rfl

/-- a number's bytes, the lowest first -/
def les : Nat → Nat → List Nat
  | 0, _ => []
  | k + 1, v => v % 256 :: les k (v / 256)
theorem les_len (k v : Nat) : (les k v).length = k := by
  induction k generalizing v with
  | zero => rfl
  | succ k ih => simp [les, ih]
theorem les_lt (k v : Nat) : ∀ x ∈ les k v, x < 256 := by
  induction k generalizing v with
  | zero => intro x hx; cases hx
  | succ k ih =>
    intro x hx
    simp only [les, List.mem_cons] at hx
    rcases hx with rfl | hx
    · omega
    · exact ih _ x hx
theorem val_les (k v : Nat) (h : v < 256 ^ k) : val (les k v) = v := by
  induction k generalizing v with
  | zero => simp at h; subst h; rfl
  | succ k ih =>
    simp only [les]
    rw [val_cons, ih (v / 256) (by rw [Nat.pow_succ] at h; omega)]
    omega
theorem val_zeros (k : Nat) : val (List.replicate k 0) = 0 := by
  induction k with
  | zero => rfl
  | succ k ih => rw [List.replicate_succ, val_cons, ih]
theorem ends (b : List Nat) (hb : ∀ x ∈ b, x < 256) : of (b ++ les 4 (of b)) = of (List.replicate 4 0) := by
  have h0 : ∀ x ∈ List.replicate 4 0, x < 256 := by intro x hx; rw [List.eq_of_mem_replicate hx]; omega
  have hr := run_lt (s := 4294967295) b (by omega) hb
  have hx : run 4294967295 b ^^^ of b = 4294967295 := by
    unfold of
    rw [ones_sub _ hr, Nat.xor_comm, Nat.xor_assoc, Nat.xor_self, Nat.xor_zero]
  have e : run 4294967295 (b ++ les 4 (of b)) = run 4294967295 (List.replicate 4 0) := by
    rw [run_append, run_eq _ _ (les_lt 4 _), run_eq _ _ h0, val_zeros, val_les 4 (of b) (by have := of_lt b; simpa using this), les_len, List.length_replicate, hx, Nat.xor_zero]
  unfold of at *
  rw [e]

/-- bits within a row of 32 that are turned -/
theorem turns (b c : List Nat) (hl : b.length = c.length) (hb : ∀ x ∈ b, x < 256) (hc : ∀ x ∈ c, x < 256) (from_ bits : Nat) (hv : val c = val b ^^^ (2 ^ from_ * bits)) (hbits : bits < 4294967296) (h0 : bits ≠ 0) (hf : from_ ≤ 8 * b.length) : of c ≠ of b := by
  rw [of_eq b hb, of_eq c hc, hv, ← hl]
  intro e
  have e2 : stps (8 * b.length) (2 ^ from_ * bits) = 0 := by
    rw [stps_xor, stps_xor, stps_xor] at e
    have := congrArg (fun z => (stps (8 * b.length) (val b)) ^^^ ((stps (8 * b.length) 4294967295) ^^^ (4294967295 ^^^ z))) e
    generalize stps (8 * b.length) 4294967295 = t at this
    generalize stps (8 * b.length) (val b) = x at this
    generalize stps (8 * b.length) (2 ^ from_ * bits) = y at this ⊢
    generalize 4294967295 = o at this
    have h3 : y = x ^^^ (t ^^^ (o ^^^ (o ^^^ (t ^^^ (x ^^^ y))))) := by
      apply Nat.eq_of_testBit_eq
      intro i
      simp only [Nat.testBit_xor]
      cases o.testBit i <;> cases t.testBit i <;> cases x.testBit i <;> cases y.testBit i <;> rfl
    have h4 : x ^^^ (t ^^^ (o ^^^ (o ^^^ (t ^^^ x)))) = 0 := by
      apply Nat.eq_of_testBit_eq
      intro i
      simp only [Nat.testBit_xor, Nat.zero_testBit]
      cases o.testBit i <;> cases t.testBit i <;> cases x.testBit i <;> rfl
    rw [h3, this, h4]
  rw [show 8 * b.length = from_ + (8 * b.length - from_) by omega, stps_add, stps_shl] at e2
  exact stps_pos _ hbits h0 e2
end Go.Proofs.YthgcjiocelcblaaGreat.Crc

namespace Go.Proofs.YthgcjiocelcblaaGreat
open Go.RowKit

theorem les_snoc (k v : Nat) : Crc.les (k + 1) v = Crc.les k v ++ [v / 256 ^ k % 256] := by
  induction k generalizing v with
  | zero => simp [Crc.les]
  | succ k ih =>
    rw [Crc.les, ih, Crc.les, List.cons_append, Nat.div_div_eq_div_mul, Nat.pow_succ, Nat.mul_comm 256]
set_option maxHeartbeats 400000 in
theorem bytes_any (v n : Nat) (w : World) (hv : v < 18446744073709551616) (hn : n ≤ 1000) :
    Calls Tryz.prog 18 #[.int .u64 (v : Int), .int .i64 (n : Int)] w (RetOwn w (Crc.les n v)) := by
  obtain ⟨i0, hi, hz0, hz1, hz2⟩ := info_parts info_u8
  go_enter Tryz.func18, Tryz.ntmps18
  go_wp2
  go_loopw [0, 5, 6] (fun x out i wr => ∃ k : Nat, k ≤ n ∧ i = .int .i64 k ∧ x = .int .u64 ((v / 256 ^ k : Nat) : Int) ∧ Own w.heap.size wr out (Crc.les k v) ∧ Below w.heap.size w wr) (fun _ _ i _ => n - (intOf i).toNat)
  case atStart => exact ⟨0, by omega, rfl, by simp, own_nil _ _, Below.refl _ _⟩
  case round =>
    obtain ⟨k, hk, rfl, rfl, hown, hbel⟩ := hrel
    by_cases hlt : k < n
    · have hq : v / 256 ^ k < 18446744073709551616 := Nat.lt_of_le_of_lt (Nat.div_le_self _ _) hv
      have HD := Lib.hid (Nat.div_div_eq_div_mul v (256 ^ k) 256)
      have HS := Lib.hid (les_snoc k v)
      generalize hqq : v / 256 ^ k = q at *
      have HQ := Lib.hid hqq
      clear hqq
      have hlk : (Crc.les k v).length ≤ k := by rw [Crc.les_len]; omega
      have hq2 : q % 256 < 256 := Nat.mod_lt _ (by omega)
      have HE : Hid ((q : Int) % 256 = ((q % 256 : Nat) : Int)) := by unfold Hid; omega
      go_wp2_with (at_builtin; refine wpList_app rfl _ _ rfl w.heap.size _ _ rfl (own_alloc hown _) _ _ _ [q % 256] rfl ?c1 ?c2 ?c3 ?c4 ?_)
      case c1 => exact row_one _ _ hq2
      case c2 => intro h; cases h
      case c3 => have := hbel.size; simp; omega
      case c4 => omega
      intro v1 w1 hap
      clear hown
      go_wp2
      go_roundw
      case rel => exact ⟨k + 1, by omega, by go_num, by rw [Nat.pow_succ, ← HD.out]; go_num, by rw [HS.out]; exact hap.own, (hbel.alloc hbel.size _).trans hap.below⟩
      case measure => simp [intOf]; omega
    · obtain rfl : k = n := by omega
      go_wp2
      go_ret
      exact ⟨_, rfl, hown, hbel⟩

theorem own_zeros {B : Nat} {w : World} {sv : Value} {n : Nat} (h : w.ownsRow B 5 1 sv n (madeCells #[Value.int .u8 0] n).toList) : Own B w sv (List.replicate n 0) := by
  refine ⟨?_, fun x hx => by rw [List.eq_of_mem_replicate hx]; omega⟩
  have e : (madeCells #[Value.int .u8 0] n).toList = (List.replicate n 0).map u8v := by
    rw [toList_madeCells_one, List.map_replicate]; rfl
  rw [e] at h
  rw [List.length_replicate]
  exact h

set_option maxHeartbeats 400000 in
theorem zeros_any (n : Nat) (w : World) (hn : n ≤ 100000) :
    Calls Tryz.prog 12 #[.int .i64 (n : Int)] w (RetOwn w (List.replicate n 0)) := by
  obtain ⟨i0, hi, hz0, hz1, hz2⟩ := info_parts info_u8
  go_enter Tryz.func12, Tryz.ntmps12
  go_wp2_with (refine wpList_make_full w rfl _ _ 28 rfl w.heap.size 5 i0 (.int .u8 0) 1 Tryz.underlying28 hi hz0 hz1 .i64 .i64 _ _ n rfl rfl rfl rfl ?c1 ?c2 ?c3 ?_)
  case c1 => rw [hz2]; omega
  case c2 => unfold maxLen; omega
  case c3 => exact Nat.le_refl _
  intro w1 hown hg
  go_wp2
  go_ret
  exact ⟨_, rfl, own_zeros hown, (Below.refl _ w).grown hg (Nat.le_refl _) (fun k hk => by cases hk)⟩

end Go.Proofs.YthgcjiocelcblaaGreat

namespace Go.Proofs.YthgcjiocelcblaaGreat
open Go.RowKit

set_option maxHeartbeats 400000 in
theorem part_any (a : Option Addr) (len cap : Nat) (bs : List Nat) (w : World) (hr : Row w a len bs) (hlc : len ≤ cap) (hcm : cap ≤ maxLen) (hn : a = none → cap = 0) (hl : len ≤ 100000) :
    Calls Tryz.prog 105 #[.slice a len cap, .int .i64 0, .int .i64 (len : Int)] w (RetOwn w bs) := by
  unfold maxLen at hcm
  have hlen := hr.1
  cases a with
  | none =>
    obtain rfl := hn rfl
    obtain rfl : len = 0 := by omega
    obtain rfl : bs = [] := List.eq_nil_of_length_eq_zero hlen
    go_enter Tryz.func105, Tryz.ntmps105
    go_wp2_with (at_builtin; refine wpList_app rfl _ _ rfl w.heap.size _ _ rfl (own_nil _ _) none 0 0 [] rfl hr (fun _ => rfl) (Nat.le_refl _) (by simp) ?_)
    intro v1 w1 hap
    go_wp2
    go_ret
    exact ⟨_, rfl, hap.own, hap.below⟩
  | some x =>
    obtain ⟨b, off, spot⟩ := x
    have HL := Lib.hid hlen
    clear hlen
    go_enter Tryz.func105, Tryz.ntmps105
    go_wp2_with (at_builtin; refine wpList_app rfl _ _ rfl w.heap.size _ _ rfl (own_nil _ _) _ _ _ bs rfl ?c1 ?c2 (Nat.le_refl _) (by simp; omega) ?_)
    case c1 => exact hr
    case c2 => exact hn
    intro v1 w1 hap
    go_wp2
    go_ret
    exact ⟨_, rfl, hap.own, hap.below⟩

end Go.Proofs.YthgcjiocelcblaaGreat
