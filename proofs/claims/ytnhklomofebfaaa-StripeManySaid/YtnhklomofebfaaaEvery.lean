/- stripe: every, and whether all is sealed. -/
import Derived.Test.YtnhklomofebfaaaLine
namespace Go.Proofs.Ytnhklomofebfaaa
open Go.RowKit Go.Deep

theorem sealed1_any (f : FD) (w : World) : Calls Try.prog 43 #[.agg #[.slice f.d.a f.d.n f.d.c, .slice f.o.a f.o.n f.o.c, .int .u8 (f.h.ki : Int), .int .u32 (f.h.ep : Int), .int .u32 (f.h.ba : Int), .int .u16 (f.h.ix : Int), .int .u16 (f.h.ct : Int), .int .u32 (f.h.bl : Int), .int .u32 (f.h.mo : Int), .bool f.b]] w fun e w' => e = .returned (.bool f.b) ∧ Below w.heap.size w w' := by
  go_enter Try.func43, Try.ntmps43
  go_wp2
  go_ret
  exact ⟨rfl, bel_alloc (Below.refl _ _) _⟩
/-- The ten cells of what was found on a member. -/
theorem fd_cells {x : World} {ob n m : Nat} {F : Nat → FD} (h : x.rowIs ob 77 (n * 10) (fdC F)) (hm : m < n) (f : FD) (hf : f = F m) :
    x.cell? ⟨ob, m * 10, none⟩ = some (.slice f.d.a f.d.n f.d.c) ∧ x.cell? ⟨ob, m * 10 + 1, none⟩ = some (.slice f.o.a f.o.n f.o.c) ∧ x.cell? ⟨ob, m * 10 + 2, none⟩ = some (.int .u8 (f.h.ki : Int)) ∧ x.cell? ⟨ob, m * 10 + 3, none⟩ = some (.int .u32 (f.h.ep : Int)) ∧ x.cell? ⟨ob, m * 10 + 4, none⟩ = some (.int .u32 (f.h.ba : Int)) ∧
      x.cell? ⟨ob, m * 10 + 5, none⟩ = some (.int .u16 (f.h.ix : Int)) ∧ x.cell? ⟨ob, m * 10 + 6, none⟩ = some (.int .u16 (f.h.ct : Int)) ∧ x.cell? ⟨ob, m * 10 + 7, none⟩ = some (.int .u32 (f.h.bl : Int)) ∧ x.cell? ⟨ob, m * 10 + 8, none⟩ = some (.int .u32 (f.h.mo : Int)) ∧ x.cell? ⟨ob, m * 10 + 9, none⟩ = some (.bool f.b) := by
  subst hf
  refine ⟨?_, ?_, ?_, ?_, ?_, ?_, ?_, ?_, ?_, ?_⟩
  · exact (h.cell (show m * 10 + 0 < n * 10 by omega)).trans (by rw [fdC_at _ _ _ (by omega)]; rfl)
  all_goals exact (h.cell (by omega)).trans (by rw [fdC_at _ _ _ (by omega)]; rfl)
set_option maxRecDepth 100000 in
set_option maxHeartbeats 1000000 in
theorem every_sealed {V W : World} {lb ob : Nat} {s : RS} {seg row oc : Nat} {mi : Int} {F : Nat → FD} (h : LineI V lb ob s seg row oc mi s.n F W) (hn : s.n ≤ 1000) (hF : ∀ m, m < s.n → (m : Int) ≠ mi → (F m).b = true) :
    Calls Try.prog 40 #[.pointer (some ⟨lb, 0, none⟩), .func (.func 43) #[] #[]] W fun e w' => e = .returned (.bool true) ∧ Below W.heap.size W w' := by
  have HI := Lib.hid h
  have HF := Lib.hid hF
  obtain ⟨c0, c1, c2, c3, c4, c5, c6, c7⟩ := eightL_at h.box
  clear h hF
  go_enter Try.func40, Try.ntmps40
  go_wp2_with fail
  clear c0 c1 c2 c3 c4 c5 c6 c7
  go_loopw [12] (fun iv wr => ∃ k : Nat, k ≤ s.n ∧ iv = .int .i64 (k : Int) ∧ Below W.heap.size W wr) (fun iv _ => (s.n - intOf iv).toNat)
  case atStart => exact ⟨0, Nat.zero_le _, rfl, Below.refl _ _⟩
  case round =>
    obtain ⟨k, hk, rfl, hb⟩ := hrel
    have HB := Lib.hid hb
    have hI := HI.out.step hb
    by_cases hlt : k < s.n
    · have q1 : decide (k < s.n) = true := by simpa using hlt
      obtain ⟨f, hf⟩ : ∃ f, f = F k := ⟨_, rfl⟩
      obtain ⟨z0, z1, z2, z3, z4, z5, z6, z7, z8, z9⟩ := fd_cells hI.on hlt f hf
      obtain ⟨c0, c1, c2, c3, c4, c5, c6, c7⟩ := eightL_at hI.box
      have hlw := (Array.getElem?_eq_some_iff.1 hI.box).1
      have i0 : (0 : Int) ≤ (k : Int) := by omega
      have i1 : (k : Int) < (s.n : Int) := by omega
      have HS1 := Lib.hid (sealed1_any f)
      have HFB : Hid ((k : Int) ≠ mi → f.b = true) := Lib.hid (by rw [hf]; exact HF.out k hlt)
      clear hb hI hf c0 c1 c2 c3 c4 c5 c6
      by_cases hkm : (k : Int) = mi
      · have q2 : ((k : Int) != mi) = false := by simpa using hkm
        clear hkm HFB
        go_wp2
        go_roundw
        case rel => exact ⟨k + 1, by omega, by go_num, bel_alloc HB.out _⟩
        case measure => simp [intOf]; omega
      · have q2 : ((k : Int) != mi) = true := by simpa using hkm
        have hfb := HFB.out hkm
        rw [hfb] at HS1 z9
        have HFT := Lib.hid hfb
        clear hfb hkm HFB
        go_wp2_with fail
        ((with_reducible refine (HS1.out _).mono ?_))
        rintro e w2 ⟨rfl, hb2⟩
        have HB2 := Lib.hid (bel_trans (bel_alloc HB.out _) hb2)
        clear hb2 z0 z1 z2 z3 z4 z5 z6 z7 z8 z9 c7
        go_wp2
        go_roundw
        case rel => exact ⟨k + 1, by omega, by go_num, HB2.out⟩
        case measure => simp [intOf]; omega
    · have q1 : decide (k < s.n) = false := by simpa using hlt
      clear hb hI
      go_wp2
      go_ret
      exact ⟨rfl, HB.out⟩
end Go.Proofs.Ytnhklomofebfaaa
