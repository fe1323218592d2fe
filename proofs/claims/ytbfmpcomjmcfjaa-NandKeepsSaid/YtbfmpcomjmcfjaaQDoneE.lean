/- gabionlaw04.done: any operation that spares the page that is kept. -/
import Derived.Test.YtbfmpcomjmcfjaaQDoneD
namespace Go.Proofs.Ytbfmpcomjmcfjaa
open Go.RowKit Go.Deep
section
variable {w0 w : World} {pa pq k ci cj : Nat} {bs : List Nat} {sd : Nat → Option Obj}
theorem dret_mono {m : Nat} (hm : k ≤ m) {e : Ending} {w' : World} (h : DRet w0 pa pq k ci cj bs sd e w') : DRet w0 pa pq m ci cj bs sd e w' := ⟨h.1, h.2.mono hm⟩
theorem done_any (h : J w0 pa pq k ci cj bs sd w) (hk : k ≤ 900) (ki ch bl pg : Int) (dt : Nat) (hdt : dt < 256) (sh : Bool) (hne : ¬ ((ci : Int) = ch ∧ (cj : Int) = bl)) (hne5 : ki = 5 → (ci : Int) ≠ ch) :
    Calls Try.prog 22 #[.pointer (some ⟨pa, 0, none⟩), .pointer (some ⟨pq, 0, none⟩), .agg #[.int .i64 ki, .int .i64 ch, .int .i64 bl, .int .i64 pg, .int .u8 (dt : Int), .bool sh]] w (DRet w0 pa pq (k + 4) ci cj bs sd) := by
  by_cases h1 : ki = 1
  · subst h1; exact (done_read h hk ch bl pg dt sh hne).mono fun _ _ q => dret_mono (by omega) q
  by_cases h2 : ki = 2
  · subst h2; exact done_program h hk ch bl pg dt hdt sh hne
  by_cases h3 : ki = 3
  · subst h3; exact done_erase h hk ch bl pg dt sh hne
  by_cases h4 : ki = 4
  · subst h4; exact (done_boot h ch bl pg dt sh).mono fun _ _ q => dret_mono (by omega) q
  by_cases h5 : ki = 5
  · subst h5; exact (done_kill h ch bl pg dt sh (hne5 rfl)).mono fun _ _ q => dret_mono (by omega) q
  · exact (done_else h ki ch bl pg dt sh ⟨h1, h2, h3, h4, h5⟩).mono fun _ _ q => dret_mono (by omega) q
end
/-- A slice of operations. -/
structure OpV where
  ki : Int
  ch : Int
  bl : Int
  pg : Int
  dt : Nat
  sh : Bool
def OpCells (w : World) (b off : Nat) (o : OpV) : Prop :=
  w.cell? ⟨b, off, none⟩ = some (.int .i64 o.ki) ∧ w.cell? ⟨b, off + 1, none⟩ = some (.int .i64 o.ch) ∧ w.cell? ⟨b, off + 2, none⟩ = some (.int .i64 o.bl) ∧ w.cell? ⟨b, off + 3, none⟩ = some (.int .i64 o.pg) ∧ w.cell? ⟨b, off + 4, none⟩ = some (.int .u8 (o.dt : Int)) ∧ w.cell? ⟨b, off + 5, none⟩ = some (.bool o.sh)
def RowO (w : World) (a : Option Addr) (len : Nat) (ops : Nat → OpV) : Prop :=
  len ≤ maxLen ∧ (∀ i, (ops i).dt < 256) ∧ (0 < len → ∃ b off, a = some ⟨b, off, none⟩ ∧ b < w.heap.size ∧ ∀ i, i < len → OpCells w b (off + i * 6) (ops i))
theorem rowO_below {w0 w : World} {a : Option Addr} {len : Nat} {ops : Nat → OpV} (h : RowO w0 a len ops) (hb : Below w0.heap.size w0 w) : RowO w a len ops := by
  refine ⟨h.1, h.2.1, fun h0 => ?_⟩
  obtain ⟨b, off, e, hl, hc⟩ := h.2.2 h0
  refine ⟨b, off, e, Nat.lt_of_lt_of_le hl hb.size, fun i hi => ?_⟩
  obtain ⟨c0, c1, c2, c3, c4, c5⟩ := hc i hi
  have t : ∀ o, w.cell? ⟨b, o, none⟩ = w0.cell? ⟨b, o, none⟩ := fun o => hb.cell (p := ⟨b, o, none⟩) hl
  exact ⟨(t _).trans c0, (t _).trans c1, (t _).trans c2, (t _).trans c3, (t _).trans c4, (t _).trans c5⟩
theorem atM (x : Int) (m : Nat) (hm : 0 < m ∧ m ≤ 100) : ∃ r : Nat, wrap64 ((IntKind.u64.wrap x).tmod (m : Int)) = (r : Int) ∧ r < m := by
  have h0 := wrap_u64_nonneg x
  have e : (IntKind.u64.wrap x).tmod (m : Int) = (IntKind.u64.wrap x) % (m : Int) := Int.tmod_eq_emod_of_nonneg h0
  rw [e]
  have h1 := Int.emod_nonneg (IntKind.u64.wrap x) (show (m : Int) ≠ 0 by omega)
  have h2 := Int.emod_lt_of_pos (IntKind.u64.wrap x) (show (0 : Int) < m by omega)
  refine ⟨((IntKind.u64.wrap x) % (m : Int)).toNat, ?_, by omega⟩
  rw [IntWalk.wrap64_in _ ⟨by omega, by omega⟩]; omega
end Go.Proofs.Ytbfmpcomjmcfjaa
