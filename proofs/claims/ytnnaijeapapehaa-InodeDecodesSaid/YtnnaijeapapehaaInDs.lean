/- InodeDecodes: both readings of bytes. -/
import Derived.Test.YtnnaijeapapehaaInRefDecY
import Derived.Test.YtnnaijeapapehaaInCodes
namespace Go.Proofs.Ytnnaijeapapehaa
open Go.RowKit

/-- Are bytes an inode? -/
def okL (bs : List Nat) : Bool := decide (bs.length = 64) && okI bs
theorem decOk_any (a : Option Addr) (len cap : Nat) (bs : List Nat) (w : World) (hr : Row w a len bs) (hn : a = none → cap = 0) (h : okL bs = true) :
    Calls Try.prog 14 #[.slice a len cap] w fun e w' => e = .returned (.tuple #[.agg (inoOf bs).cl, .int .i64 0]) ∧ Below w.heap.size w w' := by
  unfold okL at h
  rw [Bool.and_eq_true, decide_eq_true_iff] at h
  have h2 := inDecode_any a len cap bs w (by rw [← hr.1, h.1]) hr hn
  unfold decV at h2
  rw [h.2, if_pos rfl] at h2
  exact h2
theorem decNo_any (a : Option Addr) (len cap : Nat) (bs : List Nat) (w : World) (hr : Row w a len bs) (hn : a = none → cap = 0) (h : okL bs = false) :
    Calls Try.prog 14 #[.slice a len cap] w fun e w' => e = .returned (.tuple #[.agg #[.int .u8 0, .int .u16 0, .int .u32 0, .int .u32 0, .int .u32 0, .int .u32 0, .int .u32 0, .int .u32 0, .int .u32 0, .int .u32 0, .int .u32 0, .int .u32 0, .int .u32 0], .int .i64 62]) ∧ Below w.heap.size w w' := by
  by_cases hl : len = 64
  · have h2 := inDecode_any a len cap bs w hl hr hn
    unfold okL at h
    rw [show decide (bs.length = 64) = true by rw [decide_eq_true_iff, hr.1, hl], Bool.true_and] at h
    unfold decV at h2
    rw [h, if_neg (by decide)] at h2
    exact h2
  · exact inDecode_len a len cap w hl
theorem refOk_any (a : Option Addr) (len cap : Nat) (bs : List Nat) (w : World) (hr : Row w a len bs) (hc : len ≤ cap) (h : okL bs = true) :
    Calls Try.prog 15 #[.slice a len cap] w fun e w' => ∃ a c, e = .returned (.tuple #[.agg #[.int .i64 ((inoOf bs).ki : Int), .int .i64 ((inoOf bs).ln : Int), .int .i64 ((inoOf bs).sz : Int), .slice a 10 c], .int .i64 0]) ∧ RowK .i64 4294967296 w' a 10 (inoOf bs).at_ ∧ Below w.heap.size w w' := by
  unfold okL at h
  rw [Bool.and_eq_true, decide_eq_true_iff] at h
  have hl : len = 64 := by rw [← hr.1, h.1]
  subst hl
  obtain ⟨b, off, rfl, _⟩ := hr.2.2 (by omega)
  exact refDec_yes b off cap bs w hr hc ((okI_bad bs h.1).1 h.2)
theorem refNo_any (a : Option Addr) (len cap : Nat) (bs : List Nat) (w : World) (hr : Row w a len bs) (hc : len ≤ cap) (h : okL bs = false) :
    Calls Try.prog 15 #[.slice a len cap] w fun e w' => e = .returned (.tuple #[.agg #[.int .i64 0, .int .i64 0, .int .i64 0, .slice none 0 0], .int .i64 62]) ∧ Below w.heap.size w w' := by
  by_cases hl : len = 64
  · subst hl
    obtain ⟨b, off, rfl, _⟩ := hr.2.2 (by omega)
    unfold okL at h
    rw [show decide (bs.length = 64) = true by rw [decide_eq_true_iff, hr.1], Bool.true_and] at h
    refine refDec_no b off cap bs w hr hc ?_
    refine Classical.byContradiction fun hb => ?_
    rw [(okI_bad bs hr.1).2 hb] at h
    cases h
  · exact refDec_len a len cap w hl
theorem okL_fits {bs : List Nat} (h : ∀ x ∈ bs, x < 256) : (inoOf bs).Fits := inoOf_fits h
theorem les_of (l : List Nat) (h : ∀ x ∈ l, x < 256) : Crc.les l.length (leVal l) = l := by
  induction l with
  | nil => rfl
  | cons x xs ih =>
    have h1 := ih fun y hy => h y (List.mem_cons_of_mem _ hy)
    have h2 := h x List.mem_cons_self
    show (leVal (x :: xs)) % 256 :: Crc.les xs.length (leVal (x :: xs) / 256) = _
    rw [show leVal (x :: xs) = x + 256 * leVal xs from rfl, show (x + 256 * leVal xs) % 256 = x by omega, show (x + 256 * leVal xs) / 256 = leVal xs by omega, h1]
theorem les_cut (bs : List Nat) (k m : Nat) (h : ∀ x ∈ bs, x < 256) (hk : k + m ≤ bs.length) : Crc.les m (leVal ((bs.drop k).take m)) ++ bs.drop (k + m) = bs.drop k := by
  have h1 := les_of ((bs.drop k).take m) fun x hx => h x (List.mem_of_mem_drop (List.mem_of_mem_take hx))
  rw [List.length_take, List.length_drop, Nat.min_eq_left (by omega)] at h1
  rw [h1, ← List.drop_drop, List.take_append_drop]
theorem zeros_rep_of (l : List Nat) (h : zeros l = true) : l = List.replicate l.length 0 := by
  induction l with
  | nil => rfl
  | cons x xs ih =>
    have : zeros (x :: xs) = ((x == 0) && zeros xs) := rfl
    rw [this, Bool.and_eq_true, beq_iff_eq] at h
    rw [List.length_cons, List.replicate_succ, ← ih h.2, h.1]
set_option maxRecDepth 100000 in
theorem encI_flat (n : Ino) : encI n = n.ki :: 0 :: (Crc.les 2 n.ln ++ (Crc.les 4 n.sz ++ (Crc.les 4 n.d0 ++ (Crc.les 4 n.d1 ++ (Crc.les 4 n.d2 ++ (Crc.les 4 n.d3 ++ (Crc.les 4 n.d4 ++ (Crc.les 4 n.d5 ++ (Crc.les 4 n.d6 ++ (Crc.les 4 n.d7 ++ (Crc.les 4 n.si ++ (Crc.les 4 n.db ++ List.replicate 16 0)))))))))))) := rfl
set_option maxRecDepth 100000 in
/-- Bytes that are an inode are its bytes. -/
theorem encI_back (bs : List Nat) (h : okL bs = true) (hb : ∀ x ∈ bs, x < 256) : encI (inoOf bs) = bs := by
  unfold okL okI at h
  simp only [Bool.and_eq_true, decide_eq_true_iff, beq_iff_eq] at h
  obtain ⟨hl, ⟨h1, hz⟩, -⟩ := h
  have h48 := zeros_rep_of _ hz
  rw [List.length_drop, hl] at h48
  rw [encI_flat, inoOf_flat]
  simp only []
  rw [show List.replicate 16 0 = bs.drop (44 + 4) from h48.symm]
  rw [les_cut bs 44 4 hb (by omega)]
  rw [les_cut bs 40 4 hb (by omega), les_cut bs 36 4 hb (by omega), les_cut bs 32 4 hb (by omega), les_cut bs 28 4 hb (by omega), les_cut bs 24 4 hb (by omega), les_cut bs 20 4 hb (by omega), les_cut bs 16 4 hb (by omega), les_cut bs 12 4 hb (by omega), les_cut bs 8 4 hb (by omega), les_cut bs 4 4 hb (by omega), les_cut bs 2 2 hb (by omega)]
  match bs, hl, h1 with
  | x :: y :: t, _, h1 =>
    have : y = 0 := h1
    subst this
    rfl
end Go.Proofs.Ytnnaijeapapehaa
