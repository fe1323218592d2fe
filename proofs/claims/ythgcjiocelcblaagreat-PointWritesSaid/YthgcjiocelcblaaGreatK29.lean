/- Parts of the proof: Every, Complete, Read, ReadDead, ReadBad. -/
import Derived.Test.YthgcjiocelcblaaGreatK28
import Derived.Test.YthgcjiocelcblaaGreatK27
namespace Go.Proofs.YthgcjiocelcblaaGreat
open Go.RowKit Go.Deep

theorem sealed1_any (f : FD) (w : World) : Calls Tryz.prog 101 #[.agg #[.slice f.d.a f.d.n f.d.c, .slice f.o.a f.o.n f.o.c, .int .u8 (f.h.ki : Int), .int .u32 (f.h.ep : Int), .int .u32 (f.h.ba : Int), .int .u16 (f.h.ix : Int), .int .u16 (f.h.ct : Int), .int .u32 (f.h.bl : Int), .int .u32 (f.h.mo : Int), .bool f.b]] w fun e w' => e = .returned (.bool f.b) ∧ Below w.heap.size w w' := by
  go_enter Tryz.func101, Tryz.ntmps101
  go_wp2
  go_ret
  exact ⟨rfl, bel_alloc (Below.refl _ _) _⟩
/-- The ten cells of what was found on a member. -/
theorem fd_cells {x : World} {ob n m : Nat} {F : Nat → FD} (h : x.rowIs ob 184 (n * 10) (fdC F)) (hm : m < n) (f : FD) (hf : f = F m) :
    x.cell? ⟨ob, m * 10, none⟩ = some (.slice f.d.a f.d.n f.d.c) ∧ x.cell? ⟨ob, m * 10 + 1, none⟩ = some (.slice f.o.a f.o.n f.o.c) ∧ x.cell? ⟨ob, m * 10 + 2, none⟩ = some (.int .u8 (f.h.ki : Int)) ∧ x.cell? ⟨ob, m * 10 + 3, none⟩ = some (.int .u32 (f.h.ep : Int)) ∧ x.cell? ⟨ob, m * 10 + 4, none⟩ = some (.int .u32 (f.h.ba : Int)) ∧
      x.cell? ⟨ob, m * 10 + 5, none⟩ = some (.int .u16 (f.h.ix : Int)) ∧ x.cell? ⟨ob, m * 10 + 6, none⟩ = some (.int .u16 (f.h.ct : Int)) ∧ x.cell? ⟨ob, m * 10 + 7, none⟩ = some (.int .u32 (f.h.bl : Int)) ∧ x.cell? ⟨ob, m * 10 + 8, none⟩ = some (.int .u32 (f.h.mo : Int)) ∧ x.cell? ⟨ob, m * 10 + 9, none⟩ = some (.bool f.b) := by
  subst hf
  refine ⟨?_, ?_, ?_, ?_, ?_, ?_, ?_, ?_, ?_, ?_⟩
  · exact (h.cell (show m * 10 + 0 < n * 10 by omega)).trans (by rw [fdC_at _ _ _ (by omega)]; rfl)
  all_goals exact (h.cell (by omega)).trans (by rw [fdC_at _ _ _ (by omega)]; rfl)
set_option maxRecDepth 100000 in
set_option maxHeartbeats 1000000 in
theorem every_sealed {V W : World} {lb ob : Nat} {s : RS} {seg row oc : Nat} {mi : Int} {F : Nat → FD} (h : LineI V lb ob s seg row oc mi s.n F W) (hn : s.n ≤ 1000) (hF : ∀ m, m < s.n → (m : Int) ≠ mi → (F m).b = true) :
    Calls Tryz.prog 98 #[.pointer (some ⟨lb, 0, none⟩), .func (.func 101) #[] #[]] W fun e w' => e = .returned (.bool true) ∧ Below W.heap.size W w' := by
  have HI := Lib.hid h
  have HF := Lib.hid hF
  obtain ⟨c0, c1, c2, c3, c4, c5, c6, c7⟩ := eightL_at h.box
  clear h hF
  go_enter Tryz.func98, Tryz.ntmps98
  go_wp2_with fail
  clear c0 c1 c2 c3 c4 c5 c6 c7
  go_loopw [12] (fun iv wr => ∃ k : Nat, k ≤ s.n ∧ iv = .int .i64 (k : Int) ∧ Below W.heap.size W wr) (fun iv _ => (s.n - intOf iv).toNat)
  case atStart => exact ⟨0, Nat.zero_le _, rfl, Below.refl _ _⟩
  case round =>
    obtain ⟨k, hk, rfl, hb⟩ := hrel
    have HB := Lib.hid hb
    have hI := HI.out.step hb
    by_cases hlt : k < s.n
    · have q1 : decide (k < s.n) = true := by simpa using hlt
      obtain ⟨f, hf⟩ : ∃ f, f = F k := ⟨_, rfl⟩
      obtain ⟨z0, z1, z2, z3, z4, z5, z6, z7, z8, z9⟩ := fd_cells hI.on hlt f hf
      obtain ⟨c0, c1, c2, c3, c4, c5, c6, c7⟩ := eightL_at hI.box
      have hlw := (Array.getElem?_eq_some_iff.1 hI.box).1
      have i0 : (0 : Int) ≤ (k : Int) := by omega
      have i1 : (k : Int) < (s.n : Int) := by omega
      have HS1 := Lib.hid (sealed1_any f)
      have HFB : Hid ((k : Int) ≠ mi → f.b = true) := Lib.hid (by rw [hf]; exact HF.out k hlt)
      clear hb hI hf c0 c1 c2 c3 c4 c5 c6
      by_cases hkm : (k : Int) = mi
      · have q2 : ((k : Int) != mi) = false := by simpa using hkm
        clear hkm HFB
        go_wp2
        go_roundw
        case rel => exact ⟨k + 1, by omega, by go_num, bel_alloc HB.out _⟩
        case measure => simp [intOf]; omega
      · have q2 : ((k : Int) != mi) = true := by simpa using hkm
        have hfb := HFB.out hkm
        rw [hfb] at HS1 z9
        have HFT := Lib.hid hfb
        clear hfb hkm HFB
        go_wp2_with fail
        ((with_reducible refine (HS1.out _).mono ?_))
        rintro e w2 ⟨rfl, hb2⟩
        have HB2 := Lib.hid (bel_trans (bel_alloc HB.out _) hb2)
        clear hb2 z0 z1 z2 z3 z4 z5 z6 z7 z8 z9 c7
        go_wp2
        go_roundw
        case rel => exact ⟨k + 1, by omega, by go_num, HB2.out⟩
        case measure => simp [intOf]; omega
    · have q1 : decide (k < s.n) = false := by simpa using hlt
      clear hb hI
      go_wp2
      go_ret
      exact ⟨rfl, HB.out⟩
end Go.Proofs.YthgcjiocelcblaaGreat

namespace Go.Proofs.YthgcjiocelcblaaGreat
open Go.RowKit Go.Deep

def FD.pg (f : FD) : PG := ⟨f.d, f.o⟩
/-- All pages but two. -/
def restL (F : Nat → FD) (mi p k : Nat) : List PG := ((List.range k).filter fun m => decide (m ≠ mi ∧ m ≠ p)).map fun m => (F m).pg
theorem restL_in (F : Nat → FD) (mi p k : Nat) (h : k ≠ mi ∧ k ≠ p) : restL F mi p (k + 1) = restL F mi p k ++ [(F k).pg] := by
  simp [restL, List.range_succ, List.filter_append, h]
theorem restL_out (F : Nat → FD) (mi p k : Nat) (h : ¬ (k ≠ mi ∧ k ≠ p)) : restL F mi p (k + 1) = restL F mi p k := by
  unfold restL
  rw [List.range_succ, List.filter_append]
  have : [k].filter (fun m => decide (m ≠ mi ∧ m ≠ p)) = [] := by simp only [List.filter_cons, List.filter_nil]; rw [if_neg (by simpa using h)]
  rw [this, List.append_nil]
theorem restL_len (F : Nat → FD) (mi p k : Nat) : (restL F mi p k).length ≤ k := by
  unfold restL
  rw [List.length_map]
  exact Nat.le_trans (List.length_filter_le _ _) (by simp)
theorem restL_mem {F : Nat → FD} {mi p k : Nat} {g : PG} (h : g ∈ restL F mi p k) : ∃ m, m < k ∧ m ≠ mi ∧ m ≠ p ∧ g = (F m).pg := by
  simp only [restL, List.mem_map, List.mem_filter, List.mem_range, decide_eq_true_eq] at h
  obtain ⟨m, ⟨h1, h2⟩, h3⟩ := h
  exact ⟨m, h1, h2.1, h2.2, h3.symm⟩
set_option maxRecDepth 100000 in
set_option maxHeartbeats 1000000 in
/-- Nothing is missing, or the parity's page alone is. -/
theorem complete_plain {V W : World} {lb ob : Nat} {s : RS} {seg row oc : Nat} {mi : Int} {F : Nat → FD} (h : LineI V lb ob s seg row oc mi s.n F W) (hg : GoodG s.n s.bl s.pg s.sz) (hseg : seg ≤ 2000) (hrow : row ≤ 2000) (p : Nat) (hp : ((p : Nat) : Int) = ParOf s.n s.pg seg row)
    (hF : ∀ m, m < s.n → (m : Int) ≠ mi → (F m).b = true) (hmi : mi = -1 ∨ mi = (p : Int)) :
    Calls Tryz.prog 81 #[.pointer (some ⟨lb, 0, none⟩)] W fun e w' => e = .returned (.bool true) ∧ Below W.heap.size W w' := by
  have HE := Lib.hid (every_sealed h (by have := hg.2.1; omega) hF)
  have HP := Lib.hid fun (x : World) => parity_any s.n s.bl s.pg s.sz seg row x hg (by omega) (by omega) (by omega) (by omega)
  rw [← hp] at HP
  have HI := Lib.hid h
  have hlt := (Array.getElem?_eq_some_iff.1 h.box).1
  have HX : Hid (∀ x : World, Below W.heap.size W x → (x.cell? ⟨lb, 0, none⟩ = some (.int .i64 (s.n : Int)) ∧ x.cell? ⟨lb, 1, none⟩ = some (.int .i64 (s.bl : Int)) ∧ x.cell? ⟨lb, 2, none⟩ = some (.int .i64 (s.pg : Int)) ∧ x.cell? ⟨lb, 3, none⟩ = some (.int .i64 (s.sz : Int)) ∧ x.cell? ⟨lb, 4, none⟩ = some (.int .i64 (seg : Int)) ∧ x.cell? ⟨lb, 5, none⟩ = some (.int .i64 (row : Int))) ∧ x.cell? ⟨lb, 7, none⟩ = some (.int .i64 mi)) := Lib.hid fun x hx => by
    obtain ⟨c0, c1, c2, c3, c4, c5, c6, c7⟩ := eightL_at ((hx.block lb hlt).trans h.box)
    exact ⟨⟨c0, c1, c2, c3, c4, c5⟩, c7⟩
  clear h hF hp hg
  go_enter Tryz.func81, Tryz.ntmps81
  go_wp2_with fail
  ((with_reducible refine HE.out.mono ?_))
  rintro e w1 ⟨rfl, hb1⟩
  have HB1 := Lib.hid hb1
  clear hb1
  go_wp2_with fail
  have hS0 := (HX.out w1.drew HB1.out.drew).1
  go_region_held3 (fun x => x.cell? ⟨lb, 0, none⟩ = some (.int .i64 (s.n : Int)) ∧ x.cell? ⟨lb, 1, none⟩ = some (.int .i64 (s.bl : Int)) ∧ x.cell? ⟨lb, 2, none⟩ = some (.int .i64 (s.pg : Int)) ∧ x.cell? ⟨lb, 3, none⟩ = some (.int .i64 (s.sz : Int)) ∧ x.cell? ⟨lb, 4, none⟩ = some (.int .i64 (seg : Int)) ∧ x.cell? ⟨lb, 5, none⟩ = some (.int .i64 (row : Int)))
    (first | with_reducible exact hS0 | with_reducible exact hS1 | go_keep)
    ((go_simp; go_at_call 73; ((with_reducible refine (HP.out _).mono ?_)); (intro e w2 hr; obtain ⟨rfl, hb2⟩ := hr; have HB2 := Lib.hid (bel_trans HB1.out.drew hb2); have hS1 := (HX.out w2 HB2.out).1; clear hb2)))
  all_goals
    clear hS0 hS1
    have c7 := (HX.out w2 HB2.out).2
    rcases hmi with e | e
    · rw [e] at c7
      clear e
      go_wp2
      go_ret
      exact ⟨rfl, HB2.out⟩
    · have q1 : (mi == (p : Int)) = true := by simpa using e
      have q2 : (mi == -1) = false := by rw [e]; simp
      clear e
      go_wp2
      go_ret
      exact ⟨rfl, HB2.out⟩
theorem fdC_u8 {F : Nat → FD} {j : Nat} {v : Int} (h : fdC F j = .int .u8 v) : j % 10 = 2 := by
  unfold fdC at h
  rcases (by omega : j % 10 = 0 ∨ j % 10 = 1 ∨ j % 10 = 2 ∨ j % 10 = 3 ∨ j % 10 = 4 ∨ j % 10 = 5 ∨ j % 10 = 6 ∨ j % 10 = 7 ∨ j % 10 = 8 ∨ j % 10 = 9) with e | e | e | e | e | e | e | e | e | e <;> rw [e] at h ⊢ <;> simp [FD.cell, PS.v] at h
/-- Bytes lie in another block than what was found. -/
theorem part_not_fd {x : World} {q : PS} {ob n : Nat} {F : Nat → FD} (hq : PartOk x q) (h2 : 2 ≤ q.n) (hr : x.rowIs ob 184 (n * 10) (fdC F)) : ∀ a, q.a = some a → a.block ≠ ob := by
  intro a ha e
  obtain ⟨b, off, e', hc⟩ := hq.1.2.2 (by omega)
  rw [e'] at ha
  cases ha
  have e2 : b = ob := e
  subst e2
  have at_ : ∀ i, i < q.n → (off + i) % 10 = 2 := fun i hi => by
    have h1 := hc i hi
    rcases Nat.lt_or_ge (off + i) (n * 10) with hl | hl
    · rw [hr.cell hl] at h1
      exact fdC_u8 (Option.some.inj h1)
    · obtain ⟨cs, hb, hs, _⟩ := hr
      rw [cell_of_row x b (off + i) _ _ _ hb, Array.getElem?_eq_none (by omega)] at h1
      cases h1
  have h0 := at_ 0 (by omega)
  have h1 := at_ 1 (by omega)
  omega
theorem keep4 {W Y : World} {l k b : Nat} {v0 v1 v2 v3 : Value} (hY : ∀ y, y ≠ b → Y.heap[y]? = W.heap[y]?) (h : W.cell? ⟨l, 6, none⟩ = some v0 ∧ W.cell? ⟨l, 7, none⟩ = some v1 ∧ W.cell? ⟨k, 0, none⟩ = some v2 ∧ W.cell? ⟨k, 1, none⟩ = some v3) (hl : l ≠ b) (hk : k ≠ b) : Y.cell? ⟨l, 6, none⟩ = some v0 ∧ Y.cell? ⟨l, 7, none⟩ = some v1 ∧ Y.cell? ⟨k, 0, none⟩ = some v2 ∧ Y.cell? ⟨k, 1, none⟩ = some v3 := by
  have key : ∀ y, y ≠ b → ∀ o z, W.cell? ⟨y, o, none⟩ = some z → Y.cell? ⟨y, o, none⟩ = some z := fun y hy o z hz => (World.cell?_of_block (w := W) (a := ⟨y, o, none⟩) (hY y hy)).trans hz
  obtain ⟨h0, h1, h2, h3⟩ := h
  exact ⟨key _ hl _ _ h0, key _ hl _ _ h1, key _ hk _ _ h2, key _ hk _ _ h3⟩
theorem info_ppc : (Tryz.prog.info? 137).map (fun i => (i.zero, i.size, i.bytes)) = some (some (.agg #[.slice none 0 0, .slice none 0 0]), 2, 48) := by kernel_rfl
/-- The page that is missing is made. -/
def CompRet (W : World) (lb ob : Nat) (s : RS) (seg row oc mi p : Nat) (F : Nat → FD) (e : Ending) (x : World) : Prop :=
  ∃ f : FD, e = .returned (.bool true) ∧ LineBox lb s seg row (.slice (some ⟨ob, 0, none⟩) s.n oc) (mi : Int) x ∧ x.rowIs ob 184 (s.n * 10) (fdC (fdSet F mi f)) ∧
    f.d.l = outD (F p).pg (restL F mi p s.n) ∧ f.o.l = outO (F p).pg (restL F mi p s.n) ∧ f.h = openH f.d.l f.o.l ∧ f.b = decide (OpenOk f.d.l f.o.l) ∧ PartOk x f.d ∧ W.grownBy x (some ob)
set_option maxRecDepth 100000 in
set_option maxHeartbeats 1000000 in
theorem complete_back {V W : World} {lb ob : Nat} {s : RS} {seg row oc : Nat} {mi : Nat} {F : Nat → FD} (h : LineI V lb ob s seg row oc (mi : Int) s.n F W) (hg : GoodG s.n s.bl s.pg s.sz) (hsz : s.sz ≤ 1000) (hseg : seg ≤ 2000) (hrow : row ≤ 2000) (p : Nat) (hpn : p < s.n) (hp : ((p : Nat) : Int) = ParOf s.n s.pg seg row)
    (hF : ∀ m, m < s.n → (m : Int) ≠ (mi : Int) → (F m).b = true) (hmi : mi < s.n) (hmp : mi ≠ p) (hki : (takeH (F p).o.l).ki = 5) (hok2 : OpenOk (outD (F p).pg (restL F mi p s.n)) (outO (F p).pg (restL F mi p s.n))) :
    Calls Tryz.prog 81 #[.pointer (some ⟨lb, 0, none⟩)] W (CompRet W lb ob s seg row oc mi p F) := by
  have hn16 : s.n ≤ 16 := by have := hg.2.1; omega
  have HE := Lib.hid (every_sealed h (by omega) hF)
  have HP := Lib.hid fun (x : World) => parity_any s.n s.bl s.pg s.sz seg row x hg (by omega) (by omega) (by omega) (by omega)
  rw [← hp] at HP
  have HI := Lib.hid h
  have HFO := Lib.hid hF
  have HOK := Lib.hid (And.intro hki hok2)
  have hlt := (Array.getElem?_eq_some_iff.1 h.box).1
  have HX : Hid (∀ x : World, Below W.heap.size W x → (x.cell? ⟨lb, 0, none⟩ = some (.int .i64 (s.n : Int)) ∧ x.cell? ⟨lb, 1, none⟩ = some (.int .i64 (s.bl : Int)) ∧ x.cell? ⟨lb, 2, none⟩ = some (.int .i64 (s.pg : Int)) ∧ x.cell? ⟨lb, 3, none⟩ = some (.int .i64 (s.sz : Int)) ∧ x.cell? ⟨lb, 4, none⟩ = some (.int .i64 (seg : Int)) ∧ x.cell? ⟨lb, 5, none⟩ = some (.int .i64 (row : Int))) ∧ x.cell? ⟨lb, 6, none⟩ = some (.slice (some ⟨ob, 0, none⟩) s.n oc) ∧ x.cell? ⟨lb, 7, none⟩ = some (.int .i64 (mi : Int))) := Lib.hid fun x hx => by
    obtain ⟨c0, c1, c2, c3, c4, c5, c6, c7⟩ := eightL_at ((hx.block lb hlt).trans h.box)
    exact ⟨⟨c0, c1, c2, c3, c4, c5⟩, c6, c7⟩
  clear h hF hp hki hok2
  go_enter Tryz.func81, Tryz.ntmps81
  go_wp2_with fail
  ((with_reducible refine HE.out.mono ?_))
  rintro e w1 ⟨rfl, hb1⟩
  have HB1 := Lib.hid hb1
  clear hb1
  go_wp2_with fail
  have hS0 := (HX.out w1.drew HB1.out.drew).1
  go_region_held3 (fun x => x.cell? ⟨lb, 0, none⟩ = some (.int .i64 (s.n : Int)) ∧ x.cell? ⟨lb, 1, none⟩ = some (.int .i64 (s.bl : Int)) ∧ x.cell? ⟨lb, 2, none⟩ = some (.int .i64 (s.pg : Int)) ∧ x.cell? ⟨lb, 3, none⟩ = some (.int .i64 (s.sz : Int)) ∧ x.cell? ⟨lb, 4, none⟩ = some (.int .i64 (seg : Int)) ∧ x.cell? ⟨lb, 5, none⟩ = some (.int .i64 (row : Int)))
    (first | with_reducible exact hS0 | with_reducible exact hS1 | go_keep)
    ((go_simp; go_at_call 73; ((with_reducible refine (HP.out _).mono ?_)); (intro e w2 hr; obtain ⟨rfl, hb2⟩ := hr; have HB2 := Lib.hid (bel_trans HB1.out.drew hb2); have hS1 := (HX.out w2 HB2.out).1; clear hb2)))
  all_goals
    clear hS0 hS1
    have c6 := (HX.out w2 HB2.out).2.1
    have c7 := (HX.out w2 HB2.out).2.2
    have q1 : ((mi : Int) == (p : Int)) = false := by simp; omega
    have q1' : (mi == p) = false := by simp; omega
    have q2 : ((mi : Int) == -1) = false := by simp
    go_wp2_with fail
    clear c6 c7
    go_loopw [4, 43] (fun sv iv wr => ∃ k : Nat, k ≤ s.n ∧ iv = .int .i64 (k : Int) ∧ OwnG 137 W.heap.size wr sv (restL F mi p k) ∧ Below W.heap.size W wr) (fun _ iv _ => (s.n - intOf iv).toNat)
    case atStart => exact ⟨0, Nat.zero_le _, rfl, ownG_nil _ _ _, HB2.out⟩
    case round =>
      obtain ⟨k, hk, rfl, ho, hb⟩ := hrel
      have HB := Lib.hid hb
      have HOW := Lib.hid ho
      have hI := HI.out.step hb
      obtain ⟨c0, c1, c2, c3, c4, c5, c6, c7⟩ := eightL_at hI.box
      clear c0 c1 c2 c3 c4 c5
      by_cases hlt2 : k < s.n
      · have q3 : decide (k < s.n) = true := by simpa using hlt2
        obtain ⟨f, hf⟩ : ∃ f, f = F k := ⟨_, rfl⟩
        obtain ⟨z0, z1, z2, z3, z4, z5, z6, z7, z8, z9⟩ := fd_cells hI.on hlt2 f hf
        have hlw := (Array.getElem?_eq_some_iff.1 hI.box).1
        have i0 : (0 : Int) ≤ (k : Int) := by omega
        have i1 : (k : Int) < (s.n : Int) := by omega
        have HF := Lib.hid hf
        have HLW := Lib.hid hb.size
        clear hb hI hf ho c6
        by_cases hkk : k ≠ mi ∧ k ≠ p
        · have HR := Lib.hid (restL_in F mi p k hkk)
          have q4 : ((k : Int) != (mi : Int)) = true := by simp; omega
          have q5 : ((k : Int) != (p : Int)) = true := by simp; omega
          clear hkk
          go_wp2_with (at_builtin; refine wpList_appG 137 132 Tryz.underlying132 info_ppc rfl _ _ rfl W.heap.size _ (restL F mi p k) rfl ((HOW.out.alloc _).alloc _) (wr.heap.size + 1) 1 f.pg rfl ?c0 ?c1 ?c2 ?c3 ?_)
          case c0 => first | rfl | (simp [FD.pg, PS.v]; done)
          case c1 => first | rfl | (simp [FD.pg, PS.v]; done)
          case c2 => have := HLW.out; simp; omega
          case c3 => have := restL_len F mi p k; omega
          intro nv w8 hap
          have hR : OwnG 137 W.heap.size w8 nv (restL F mi p (k + 1)) ∧ Below W.heap.size W w8 := by
            rw [HR.out, ← HF.out]
            exact ⟨hap.own, (bel_alloc (bel_alloc HB.out _) _).trans hap.below⟩
          have HRR := Lib.hid hR
          clear hap hR z0 z1 z2 z3 z4 z5 z6 z7 z8 z9 c7
          go_wp2
          go_roundw
          case rel => exact ⟨k + 1, by omega, by go_num, HRR.out.1, HRR.out.2⟩
          case measure => simp [intOf]; omega
        · have HR := Lib.hid (restL_out F mi p k hkk)
          have HKK := Lib.hid hkk
          clear hkk
          by_cases hkm : k = mi
          · have q4 : ((k : Int) != (mi : Int)) = false := by simp; omega
            clear hkm
            go_wp2
            go_roundw
            case rel => exact ⟨k + 1, by omega, by go_num, by rw [HR.out]; exact HOW.out.alloc _, bel_alloc HB.out _⟩
            case measure => simp [intOf]; omega
          · have q4 : ((k : Int) != (mi : Int)) = true := by simp; omega
            have q5 : ((k : Int) != (p : Int)) = false := by have := HKK.out; simp; omega
            clear hkm
            go_wp2
            go_roundw
            case rel => exact ⟨k + 1, by omega, by go_num, by rw [HR.out]; exact HOW.out.alloc _, bel_alloc HB.out _⟩
            case measure => simp [intOf]; omega
      · have hkn : k = s.n := by omega
        have q3 : decide (k < s.n) = false := by simpa using hlt2
        rw [hkn] at HOW
        obtain ⟨va, vc, hve, hvc, hv1, hv2, hvn⟩ := cellsG_own HOW.out
        subst hve
        obtain ⟨f, hf⟩ : ∃ f, f = F p := ⟨_, rfl⟩
        obtain ⟨z0, z1, z2, z3, z4, z5, z6, z7, z8, z9⟩ := fd_cells hI.on hpn f hf
        have hfp := hI.found p hpn (by omega)
        rw [← hf] at hfp HOK
        have hfb : OpenOk f.d.l f.o.l := by
          have := HFO.out p hpn (by omega)
          rw [← hf] at this
          rw [hfp.2.1] at this
          exact of_decide_eq_true this
        have hGL : ∀ g ∈ restL F mi p s.n, PageOk wr g ∧ g.d.n ≤ 1000 ∧ g.o.n ≤ 1000 := fun g hg' => by
          obtain ⟨m, m1, m2, m3, rfl⟩ := restL_mem hg'
          have := hI.found m m1 (by omega)
          exact ⟨⟨this.2.2.2.2.2.2.1, this.2.2.2.2.2.2.2.1⟩, by show (F m).d.n ≤ _; rw [this.2.2.2.2.1]; exact hsz, by show (F m).o.n ≤ _; rw [this.2.2.2.2.2.1]; decide⟩
        have HMI : Hid (Calls Tryz.prog 102 #[.agg #[.slice f.d.a f.d.n f.d.c, .slice f.o.a f.o.n f.o.c], .slice va (restL F mi p s.n).length vc] wr (MissRet f.pg (restL F mi p s.n) wr)) := Lib.hid (missing_yes f.pg va _ vc (restL F mi p s.n) wr rfl ⟨hfp.2.2.2.2.2.2.1, hfp.2.2.2.2.2.2.2.1⟩ ⟨hvc, fun g hg' => (hGL g hg').1⟩ (by have := restL_len F mi p s.n; omega) ⟨by show f.d.n ≤ _; rw [hfp.2.2.2.2.1]; exact hsz, hfp.2.2.2.2.2.1⟩ (fun g hg' => (hGL g hg').2) hfb HOK.out.1 HOK.out.2)
        have i0 : (0 : Int) ≤ (p : Int) := by omega
        have i1 : (p : Int) < (s.n : Int) := by omega
        have HF := Lib.hid hf
        clear hb hI ho hf hfp hfb hGL hvc hv1 hv2 hvn
        have HDB : Hid ((outD f.pg (restL F mi p s.n)).length ≤ 1000) := Lib.hid (by
          unfold outD
          rw [xorL_len]
          refine lgL_le fun x hx => ?_
          rcases List.mem_append.1 hx with hx | hx
          · simp only [dsOf, List.mem_map] at hx
            obtain ⟨g, hg', rfl⟩ := hx
            obtain ⟨m, m1, m2, m3, rfl⟩ := restL_mem hg'
            have := HI.out.found m m1 (by omega)
            show (F m).d.l.length ≤ _
            rw [this.2.2.2.2.2.2.1.1.1, this.2.2.2.2.1]
            exact hsz
          · rw [List.mem_singleton.1 hx]
            have := HI.out.found p hpn (by omega)
            show f.d.l.length ≤ _
            rw [HF.out, this.2.2.2.2.2.2.1.1.1, this.2.2.2.2.1]
            exact hsz)
        go_wp2_with fail
        ((with_reducible refine HMI.out.mono ?_))
        rintro e w5 ⟨D, O, rfl, a1, a2, a3, a4, a5⟩
        have hDn : D.n ≤ 1000 := by have := HDB.out; rw [← a1] at this; rw [← a3.1.1]; exact this
        have HB5 := Lib.hid (bel_trans HB.out a5)
        have l0 := heap_alloc_new w5 (.cells #[.slice D.a D.n D.c, .slice O.a O.n O.c] 137)
        have hb6 := bel_alloc HB5.out (.cells #[.slice D.a D.n D.c, .slice O.a O.n O.c] 137)
        have d6 := a3.step (bel_alloc (Below.refl _ w5) (.cells #[.slice D.a D.n D.c, .slice O.a O.n O.c] 137))
        have o6 := a4.step (bel_alloc (Below.refl _ w5) (.cells #[.slice D.a D.n D.c, .slice O.a O.n O.c] 137))
        have hpo : W.heap.size ≤ w5.heap.size := HB5.out.size
        clear z0 z1 z2 z3 z4 z5 z6 z7 z8 z9 c6 c7 a3 a4 a5
        go_upto_region 16 with fail
        obtain ⟨pb, hpb⟩ : ∃ x, x = w5.heap.size := ⟨_, rfl⟩
        obtain ⟨w6, hw6⟩ : ∃ x, x = w5.alloc (.cells #[.slice D.a D.n D.c, .slice O.a O.n O.c] 137) := ⟨_, rfl⟩
        rw [← hw6, ← hpb] at l0
        rw [← hw6] at hb6 d6 o6
        rw [← hpb] at hpo
        rw [← hw6, ← hpb]
        have HB6 := Lib.hid hb6
        have HD6 := Lib.hid (And.intro a1 (And.intro a2 d6))
        have HPO := Lib.hid hpo
        have HO6 : Hid (∀ x : World, Below w6.heap.size w6 x → Calls Tryz.prog 103 #[.agg #[.slice D.a D.n D.c, .slice O.a O.n O.c]] x (OpenRet D O x)) := Lib.hid fun x hx => stOpen_any D O x (d6.step hx) (o6.step hx) hDn
        have HY : Hid (∀ x : World, Below w6.heap.size w6 x → x.cell? ⟨lb, 6, none⟩ = some (.slice (some ⟨ob, 0, none⟩) s.n oc) ∧ x.cell? ⟨lb, 7, none⟩ = some (.int .i64 (mi : Int)) ∧ x.cell? ⟨pb, 0, none⟩ = some (.slice D.a D.n D.c) ∧ x.cell? ⟨pb, 1, none⟩ = some (.slice O.a O.n O.c)) := Lib.hid fun x hx => by
          have e1 := (HX.out x (bel_trans HB6.out hx)).2
          have e2 := two_cells ((hx.block pb (Array.getElem?_eq_some_iff.1 l0).1).trans l0)
          exact ⟨e1.1, e1.2, e2.1, e2.2⟩
        have hS0 := HY.out w6.drew (Below.refl _ _).drew
        have HNE : Hid (lb ≠ ob ∧ pb ≠ ob) := Lib.hid ⟨by have := HI.out.lo; omega, by have := HPO.out; have := HI.out.on.lt; omega⟩
        have j0 : (0 : Int) ≤ (mi : Int) := by omega
        have j1 : (mi : Int) < (s.n : Int) := by omega
        clear hw6 hpb l0 hb6 a1 a2 d6 o6 hpo
        go_region_held3 (fun x => x.cell? ⟨lb, 6, none⟩ = some (.slice (some ⟨ob, 0, none⟩) s.n oc) ∧ x.cell? ⟨lb, 7, none⟩ = some (.int .i64 (mi : Int)) ∧ x.cell? ⟨pb, 0, none⟩ = some (.slice D.a D.n D.c) ∧ x.cell? ⟨pb, 1, none⟩ = some (.slice O.a O.n O.c))
          (first | with_reducible exact hS0 | with_reducible exact hS1 | ((with_reducible refine keep4 (b := ob) ?_ hS1 HNE.out.1 HNE.out.2); intro y hy; (try simp only [heap_drew]); with_reducible exact ten_far w7 ob y hy _ _ _ _ _ _ _ _ _ _ _ _ _ _ _ _ _ _ _ _) | go_keep)
          ((go_simp; go_at_call 103; ((with_reducible refine (HO6.out _ (Below.refl _ _).drew).mono ?_)); (intro e w7 hr; obtain ⟨H, hH⟩ : ∃ H, H = openH D.l O.l := ⟨_, rfl⟩; obtain ⟨bb, hbb⟩ : ∃ bb, bb = decide (OpenOk D.l O.l) := ⟨_, rfl⟩; unfold OpenRet at hr; rw [← hH, ← hbb] at hr; obtain ⟨rfl, hb7⟩ := hr; have HB7 := Lib.hid ((Below.refl w6.heap.size w6).drew.trans (hb7.mono (by simp))); have hS1 := HY.out w7 HB7.out; have hI7 := HI.out.step (bel_trans HB6.out HB7.out); have HHB := Lib.hid (And.intro hH hbb); have r0 := hI7.on.cell (show mi * 10 + 0 < s.n * 10 by omega); rw [fdC_at _ _ _ (by omega)] at r0; have r1 := hI7.on.cell (show mi * 10 + 1 < s.n * 10 by omega); rw [fdC_at _ _ _ (by omega)] at r1; have r2 := hI7.on.cell (show mi * 10 + 2 < s.n * 10 by omega); rw [fdC_at _ _ _ (by omega)] at r2; have r3 := hI7.on.cell (show mi * 10 + 3 < s.n * 10 by omega); rw [fdC_at _ _ _ (by omega)] at r3; have r4 := hI7.on.cell (show mi * 10 + 4 < s.n * 10 by omega); rw [fdC_at _ _ _ (by omega)] at r4; have r5 := hI7.on.cell (show mi * 10 + 5 < s.n * 10 by omega); rw [fdC_at _ _ _ (by omega)] at r5; have r6 := hI7.on.cell (show mi * 10 + 6 < s.n * 10 by omega); rw [fdC_at _ _ _ (by omega)] at r6; have r7 := hI7.on.cell (show mi * 10 + 7 < s.n * 10 by omega); rw [fdC_at _ _ _ (by omega)] at r7; have r8 := hI7.on.cell (show mi * 10 + 8 < s.n * 10 by omega); rw [fdC_at _ _ _ (by omega)] at r8; have r9 := hI7.on.cell (show mi * 10 + 9 < s.n * 10 by omega); rw [fdC_at _ _ _ (by omega)] at r9; rw [Nat.add_zero] at r0; have rf := fun o => hI7.on.frozen o; have HI7 := Lib.hid hI7; clear hb7 hH hbb hI7)))
        all_goals
          clear r0 r1 r2 r3 r4 r5 r6 r7 r8 r9 rf hS0 hS1
          have hsb := (((((((((((SameBut.refl ob w7).set (mi * 10) (.slice D.a D.n D.c)).set (mi * 10 + 1) (.slice O.a O.n O.c)).set (mi * 10 + 2) (.int .u8 (H.ki : Int))).set (mi * 10 + 3) (.int .u32 (H.ep : Int))).set (mi * 10 + 4) (.int .u32 (H.ba : Int))).set (mi * 10 + 5) (.int .u16 (H.ix : Int))).set (mi * 10 + 6) (.int .u16 (H.ct : Int))).set (mi * 10 + 7) (.int .u32 (H.bl : Int))).set (mi * 10 + 8) (.int .u32 (H.mo : Int))).set (mi * 10 + 9) (.bool bb))
          have hrow := ((((((((((HI7.out.on.set (mi * 10) (.slice D.a D.n D.c)).set (mi * 10 + 1) (.slice O.a O.n O.c)).set (mi * 10 + 2) (.int .u8 (H.ki : Int))).set (mi * 10 + 3) (.int .u32 (H.ep : Int))).set (mi * 10 + 4) (.int .u32 (H.ba : Int))).set (mi * 10 + 5) (.int .u16 (H.ix : Int))).set (mi * 10 + 6) (.int .u16 (H.ct : Int))).set (mi * 10 + 7) (.int .u32 (H.bl : Int))).set (mi * 10 + 8) (.int .u32 (H.mo : Int))).set (mi * 10 + 9) (.bool bb))
          obtain ⟨Y, hY⟩ : ∃ Y, Y = ((((((((((w7.setCell ⟨ob, mi * 10, none⟩ (.slice D.a D.n D.c)).setCell ⟨ob, mi * 10 + 1, none⟩ (.slice O.a O.n O.c)).setCell ⟨ob, mi * 10 + 2, none⟩ (.int .u8 (H.ki : Int))).setCell ⟨ob, mi * 10 + 3, none⟩ (.int .u32 (H.ep : Int))).setCell ⟨ob, mi * 10 + 4, none⟩ (.int .u32 (H.ba : Int))).setCell ⟨ob, mi * 10 + 5, none⟩ (.int .u16 (H.ix : Int))).setCell ⟨ob, mi * 10 + 6, none⟩ (.int .u16 (H.ct : Int))).setCell ⟨ob, mi * 10 + 7, none⟩ (.int .u32 (H.bl : Int))).setCell ⟨ob, mi * 10 + 8, none⟩ (.int .u32 (H.mo : Int))).setCell ⟨ob, mi * 10 + 9, none⟩ (.bool bb)) := ⟨_, rfl⟩
          rw [← hY] at hsb hrow ⊢
          clear hY
          have hD7 := HD6.out.2.2.step HB7.out
          have hD2 : 2 ≤ D.n := by
            have h1 := HD6.out.2.2.1.1
            rw [HD6.out.1] at h1
            unfold outD at h1
            rw [xorL_len] at h1
            have h2 := lgL_mem (l := dsOf (restL F mi p s.n) ++ [f.pg.d.l]) (x := f.pg.d.l) (by simp)
            have h3 := HI.out.found p hpn (by omega)
            have h4 : f.pg.d.l.length = s.sz := by show f.d.l.length = _; rw [HF.out, h3.2.2.2.2.2.2.1.1.1, h3.2.2.2.2.1]
            have := hg.2.2.2.2.2.2.1
            omega
          have hfin : CompRet W lb ob s seg row oc mi p F (.returned (.bool true)) Y := by
            have hbw := bel_trans HB6.out HB7.out
            refine ⟨⟨D, O, H, bb⟩, rfl, (hsb.heap lb HNE.out.1).trans HI7.out.box, hrow.congr fun j _ => fdC_set F mi ⟨D, O, H, bb⟩ j, by rw [← HF.out]; exact HD6.out.1, by rw [← HF.out]; exact HD6.out.2.1, HHB.out.1, HHB.out.2, hD7.at_ fun _ a ha => hsb.heap _ (part_not_fd hD7 hD2 HI7.out.on a ha), ⟨hsb.os.trans hbw.os, hsb.tape.trans hbw.tape, hsb.output.trans hbw.output, Nat.le_trans hbw.size (Nat.le_of_eq hsb.size.symm), fun k hk hn => (hsb.heap k (fun e => hn (congrArg some e))).trans (hbw.block k hk)⟩⟩
          clear hsb hrow hD7 hD2
          have HFIN := Lib.hid hfin
          clear hfin
          go_wp2
          go_ret
          exact HFIN.out
end Go.Proofs.YthgcjiocelcblaaGreat

namespace Go.Proofs.YthgcjiocelcblaaGreat
open Go.RowKit Go.Deep

def ReadPRet (H : RH) (l : List Nat) (w : World) (e : Ending) (w' : World) : Prop :=
  ∃ E : PS, e = .returned (.tuple #[.agg #[.int .u8 (H.ki : Int), .int .u32 (H.ep : Int), .int .u32 (H.ba : Int), .int .u16 (H.ix : Int), .int .u16 (H.ct : Int), .int .u32 (H.bl : Int), .int .u32 (H.mo : Int), .slice E.a E.n E.c], .int .i64 0]) ∧ E.l = l ∧ PartOk w' E ∧ Far w.heap.size E ∧ Below w.heap.size w w'
section
variable {B : Nat} {s : RS} {w : World}
end
end Go.Proofs.YthgcjiocelcblaaGreat

namespace Go.Proofs.YthgcjiocelcblaaGreat
open Go.RowKit Go.Deep

section
variable {B : Nat} {s : RS} {w : World}
end
end Go.Proofs.YthgcjiocelcblaaGreat

namespace Go.Proofs.YthgcjiocelcblaaGreat
open Go.RowKit Go.Deep

section
variable {B : Nat} {s : RS} {w : World}
end
end Go.Proofs.YthgcjiocelcblaaGreat
