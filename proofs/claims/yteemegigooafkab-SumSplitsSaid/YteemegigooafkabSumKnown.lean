/- The contract of gabionlaw02.known: it answers true, and writes nothing that was there. -/
import Derived.Test.YteemegigooafkabSumOf
import Derived.Lib.SlBytesConst
namespace Go.Proofs.Yteemegigooafkab
open Go.RowKit

def nine : Obj := .cells #[.int .u8 49, .int .u8 50, .int .u8 51, .int .u8 52, .int .u8 53, .int .u8 54, .int .u8 55, .int .u8 56, .int .u8 57] 5 (9, 10)
def nineList : List Nat := [49, 50, 51, 52, 53, 54, 55, 56, 57]
theorem nine_row (w : World) (o : Obj) : Row ((w.alloc nine).alloc o) (some ⟨w.heap.size, 0, none⟩) 9 nineList := by
  refine ⟨rfl, by decide, fun _ => ⟨_, 0, rfl, fun i hi => ?_⟩⟩
  refine Lib.cell?_alloc_marked _ ?_
  unfold nine
  rw [World.cell?_alloc_mark]
  rcases (show i = 0 ∨ i = 1 ∨ i = 2 ∨ i = 3 ∨ i = 4 ∨ i = 5 ∨ i = 6 ∨ i = 7 ∨ i = 8 from by omega) with rfl | rfl | rfl | rfl | rfl | rfl | rfl | rfl | rfl <;> rfl
theorem nine_sum : Crc.of nineList = 3808858755 := by decide +kernel

/-- sum.Of of one part. -/
theorem of_one (b : Nat) (o : Nat) (cap : Nat) (a : Option Addr) (len c : Nat) (bs : List Nat) (w : World)
    (hp : w.cell? ⟨b, o, none⟩ = some (.slice a len c)) (hl : len ≤ maxLen) (hr : Row w a len bs) :
    Calls Try.prog 6 #[.slice (some ⟨b, o, none⟩) 1 cap] w fun e w' => e = .returned (.int .u32 ((Crc.of bs : Nat) : Int)) ∧ w = w' := by
  have h := of_any 1 (some ⟨b, o, none⟩) cap (fun _ => a) (fun _ => len) (fun _ => c) (fun _ => bs) w (by unfold maxLen; omega)
    (fun _ => ⟨b, o, rfl, fun i hi => by rw [show i = 0 by omega]; exact hp⟩) (fun _ _ => ⟨hl, hr⟩)
  have e : flat (fun _ => bs) 1 = bs := by simp [flat]
  rw [e] at h
  exact h
/-- sum.Of of two parts. -/
theorem of_two (b : Nat) (cap : Nat) (a a' : Option Addr) (len len' c c' : Nat) (bs bs' : List Nat) (w : World)
    (hp : w.cell? ⟨b, 0, none⟩ = some (.slice a len c)) (hp' : w.cell? ⟨b, 1, none⟩ = some (.slice a' len' c')) (hl : len ≤ maxLen) (hl' : len' ≤ maxLen) (hr : Row w a len bs) (hr' : Row w a' len' bs') :
    Calls Try.prog 6 #[.slice (some ⟨b, 0, none⟩) 2 cap] w fun e w' => e = .returned (.int .u32 ((Crc.of (bs ++ bs') : Nat) : Int)) ∧ w = w' := by
  have h := of_any 2 (some ⟨b, 0, none⟩) cap (fun i => if i = 0 then a else a') (fun i => if i = 0 then len else len') (fun i => if i = 0 then c else c') (fun i => if i = 0 then bs else bs') w (by unfold maxLen; omega)
    (fun _ => ⟨b, 0, rfl, fun i hi => by rcases (show i = 0 ∨ i = 1 by omega) with rfl | rfl <;> assumption⟩)
    (fun i hi => by rcases (show i = 0 ∨ i = 1 by omega) with rfl | rfl <;> exact ⟨by assumption, by assumption⟩)
  have e : flat (fun i => if i = 0 then bs else bs') 2 = bs ++ bs' := by simp [flat]
  rw [e] at h
  exact h
theorem of_none (w : World) : Calls Try.prog 6 #[.slice none 0 0] w fun e w' => e = .returned (.int .u32 0) ∧ w = w' :=
  of_any 0 none 0 (fun _ => none) (fun _ => 0) (fun _ => 0) (fun _ => []) w (by omega) (fun h => by omega) (fun i hi => by omega)

set_option maxHeartbeats 400000 in
theorem known_any (w : World) :
    Calls Try.prog 5 #[] w fun e w' => e = .returned (.bool true) ∧ Below w.heap.size w w' := by
  have kc := fun (w : World) (C : Array Value) (n c : Nat) => Lib.run_convert_bytes_const (P := Try.prog) w 22 5 C n c Try.underlying22 Try.underlying5
  have HR := nine_row w (.cells #[.slice (some ⟨w.heap.size, 0, none⟩) 9 9] 22)
  have HC : ((w.alloc nine).alloc (.cells #[.slice (some ⟨w.heap.size, 0, none⟩) 9 9] 22)).cell? ⟨w.heap.size + 1, 0, none⟩ = some (.slice (some ⟨w.heap.size, 0, none⟩) 9 9) := by
    have h := cell_new1 (w.alloc nine) (.slice (some ⟨w.heap.size, 0, none⟩) 9 9) 22
    rwa [World.size_alloc] at h
  have h1 := of_one (w.heap.size + 1) 0 1 (some ⟨w.heap.size, 0, none⟩) 9 9 nineList _ HC (by unfold maxLen; omega) HR
  rw [nine_sum] at h1
  have H1 := Lib.hid h1
  clear h1 HR HC
  unfold nine at H1
  go_enter Try.func5, Try.ntmps5
  go_wp2_with fail
  refine H1.out.mono ?_
  rintro e w' ⟨rfl, rfl⟩
  go_wp2_with fail
  refine (of_none _).mono ?_
  rintro e w' ⟨rfl, rfl⟩
  go_wp2
  go_ret
  exact ⟨rfl, ((Below.refl _ w).alloc (Nat.le_refl _) _).alloc (by simp) _⟩

end Go.Proofs.Yteemegigooafkab
