/- record.take: the header in what stands beside a page. -/
import Derived.Test.YthgcjiocelcblaaGreatK15
import Derived.Test.YthgcjiocelcblaaGreatK16
import Derived.Deep.RegionHeld3
namespace Go.Proofs.YthgcjiocelcblaaGreat
open Go.RowKit

/-- Where the function stands: what is left, and the header as it is so far. -/
structure TakeI (w W : World) (p pr pg : Nat) (h : RH) (wr : World) (bs : List Nat) : Prop where
  rd : ∃ ra rc, RD wr pr pg ra rc bs
  hdr : wr.heap[p]? = some (.cells h.cells 93 (0, 0))
  inner : Inner w.heap.size W pr wr
  bel : Below p w wr
section
variable {w W wr w' : World} {p pr pg : Nat} {h : RH} {bs : List Nat}
theorem TakeI.num {rc s : Nat} {v : Value} {e : Ending} (hI : TakeI w W p pr pg h wr bs) (hp : p < pr) (hr : NumRet wr pr pg rc bs s v e w') : e = .returned v ∧ TakeI w W p pr pg h w' (bs.drop s) := by
  obtain ⟨a2, rfl, rfl, hrd⟩ := hr
  have hk : ∀ k, k ≠ pr → (wr.setCell ⟨pr, 0, none⟩ (.slice a2 (bs.length - s) (rc - s))).heap[k]? = wr.heap[k]? := fun k hk => Below.heap_setCell _ _ _ _ hk
  refine ⟨rfl, ⟨_, _, hrd⟩, by rw [hk p (by omega)]; exact hI.hdr, ⟨by simpa [World.setCell] using hI.inner.1, fun k k1 k2 k3 => by rw [hk k k3]; exact hI.inner.2 k k1 k2 k3⟩, hI.bel.setCell (p := ⟨pr, 0, none⟩) (Nat.le_of_lt hp) _⟩
theorem hdr_cells {w : World} (hh : w.heap[p]? = some (.cells h.cells 93 (0, 0))) : HdrAt h p w := by
  unfold HdrAt
  refine ⟨?_, ?_, ?_, ?_, ?_, ?_, ?_⟩ <;> simp [World.cell?, hh, RH.cells]
theorem hdr_free {w : World} (hh : w.heap[p]? = some (.cells h.cells 93 (0, 0))) (k : Nat) : w.frozen? ⟨p, k, none⟩ = false := by
  simp [World.frozen?, hh]
/-- The reader's row lies in another block than the header. -/
theorem TakeI.apart {ra : Option Addr} {rc : Nat} (hI : TakeI w W p pr pg h wr bs) (hr : RD wr pr pg ra rc bs) (hl : 2 ≤ bs.length) : ∀ b off, ra = some ⟨b, off, none⟩ → b ≠ p := by
  intro b off hb e
  subst e
  obtain ⟨b', off', e2, hc⟩ := hr.2.1.2.2 (by omega)
  rw [hb] at e2
  cases e2
  have h0 := hc 0 (by omega)
  have h1 := hc 1 (by omega)
  obtain ⟨_, c1, c2, c3, c4, c5, c6⟩ := hdr_cells hI.hdr
  have hlt : off + 1 < 7 := by
    rcases Nat.lt_or_ge (off + 1) 7 with h | h
    · exact h
    · simp only [World.cell?, hI.hdr] at h1
      rw [Array.getElem?_eq_none (by simpa [RH.cells] using h)] at h1
      cases h1
  rcases (by omega : off = 0 ∨ off = 1 ∨ off = 2 ∨ off = 3 ∨ off = 4 ∨ off = 5) with rfl | rfl | rfl | rfl | rfl | rfl
  · rw [c1] at h1; cases h1
  · rw [c1] at h0; cases h0
  · rw [c2] at h0; cases h0
  · rw [c3] at h0; cases h0
  · rw [c4] at h0; cases h0
  · rw [c5] at h0; cases h0
theorem TakeI.set {j : Nat} {v : Value} {h' : RH} (hI : TakeI w W p pr pg h wr bs) (hp : p < pr) (hpw : p < w.heap.size) (hl : 2 ≤ bs.length) (hc : h.cells.setIfInBounds j v = h'.cells) : TakeI w W p pr pg h' (wr.setCell ⟨p, j, none⟩ v) bs := by
  obtain ⟨ra, rc, hrd⟩ := hI.rd
  have hap := hI.apart hrd hl
  have hk : ∀ k, k ≠ p → (wr.setCell ⟨p, j, none⟩ v).heap[k]? = wr.heap[k]? := fun k hk => Below.heap_setCell _ _ _ _ hk
  refine ⟨⟨ra, rc, ?_⟩, ?_, ⟨by simpa [World.setCell] using hI.inner.1, fun k k1 k2 k3 => by rw [hk k (by omega)]; exact hI.inner.2 k k1 k2 k3⟩, hI.bel.setCell (p := ⟨p, j, none⟩) (Nat.le_refl _) _⟩
  · obtain ⟨r1, r2, r3, r4, r5, r6⟩ := hrd
    refine ⟨by rw [hk pr (by omega)]; exact r1, ⟨r2.1, r2.2.1, fun h0 => ?_⟩, r3, r4, r5, r6⟩
    obtain ⟨b, o, e, hcs⟩ := r2.2.2 h0
    refine ⟨b, o, e, fun i hi => ?_⟩
    rw [World.cell?_of_block (w := wr) (a := ⟨b, o + i, none⟩) (hk b (hap b o e))]
    exact hcs i hi
  · have hx := heap_setCell_same wr p j h.cells 93 v hI.hdr
    rw [hc] at hx
    exact hx
end

set_option maxRecDepth 100000 in
set_option maxHeartbeats 800000 in
theorem takeBy (w W : World) (p pr pg c : Nat) (a : Option Addr) (os : List Nat) (hl : os.length = 64) (hp : w.heap.size = p + 1) (hr : RD W pr pg a c os) (hb : Below w.heap.size w W) (hpr : w.heap.size + 3 ≤ pr) (h0 : w.heap[p]? = some (.cells RH.zero.cells 93 (0, 0))) :
    Calls Tryz.prog 115 #[.pointer (some ⟨pr, 0, none⟩), .pointer (some ⟨p, 0, none⟩)] W fun e W' => e = .returned (.tuple #[]) ∧ Inner w.heap.size W pr W' ∧ W'.heap[p]? = some (.cells (takeH os).cells 93 (0, 0)) ∧ Below p w W' := by
  have hpp : p < pr := by omega
  have hpw : p < w.heap.size := by omega
  have hI0 : TakeI w W p pr pg RH.zero W os := ⟨⟨a, c, hr⟩, by rw [hb.block p hpw]; exact h0, ⟨Nat.le_refl _, fun _ _ _ _ => rfl⟩, hb.mono (by omega)⟩
  clear hr h0 hb
  have HL := Lib.hid hl
  clear hl
  go_enter Tryz.func115, Tryz.ntmps115
  obtain ⟨ra0, rc0, hrd0⟩ := hI0.rd
  go_wp2_with fail
  refine (rU16_ok hrd0 (by rw [HL.out]; omega)).mono ?_
  intro e w1 hn0
  obtain ⟨rfl, hI1⟩ := hI0.num hpp hn0
  clear hrd0 hn0 hI0
  obtain ⟨ra1, rc1, hrd1⟩ := hI1.rd
  go_wp2_with fail
  refine (rU8_ok hrd1 (by simp only [List.length_drop, HL.out]; omega)).mono ?_
  intro e w2 hn1
  obtain ⟨rfl, hI2⟩ := hI1.num hpp hn1
  clear hrd1 hn1 hI1
  obtain ⟨x0, hx0⟩ : ∃ x, ((os).drop 2).getD 0 0 = x := ⟨_, rfl⟩
  rw [hx0]
  have HX0 := Lib.hid hx0
  clear hx0
  have c0 := (hdr_cells hI2.hdr).1
  have f0 := hdr_free hI2.hdr 0
  have hI3 := hI2.set (j := 0) (v := .int .u8 ((x0 : Nat) : Int)) (h' := ⟨x0, 0, 0, 0, 0, 0, 0⟩) hpp hpw (by simp only [List.length_drop, HL.out]; omega) rfl
  clear hI2
  obtain ⟨ra3, rc3, hrd3⟩ := hI3.rd
  go_wp2_with fail
  refine (rU8_ok hrd3 (by simp only [List.length_drop, HL.out]; omega)).mono ?_
  intro e w4 hn3
  obtain ⟨rfl, hI4⟩ := hI3.num hpp hn3
  clear hrd3 hn3 hI3
  obtain ⟨ra4, rc4, hrd4⟩ := hI4.rd
  go_wp2_with fail
  refine (rU32_ok hrd4 (by simp only [List.length_drop, HL.out]; omega)).mono ?_
  intro e w5 hn4
  obtain ⟨rfl, hI5⟩ := hI4.num hpp hn4
  clear hrd4 hn4 hI4
  obtain ⟨x1, hx1⟩ : ∃ x, leVal (((((os).drop 2).drop 1).drop 1).take 4) = x := ⟨_, rfl⟩
  rw [hx1]
  have HX1 := Lib.hid hx1
  clear hx1
  obtain ⟨ra5, rc5, hrd5⟩ := hI5.rd
  go_wp2_with fail
  refine (rU32_ok hrd5 (by simp only [List.length_drop, HL.out]; omega)).mono ?_
  intro e w6 hn5
  obtain ⟨rfl, hI6⟩ := hI5.num hpp hn5
  clear hrd5 hn5 hI5
  obtain ⟨x2, hx2⟩ : ∃ x, leVal ((((((os).drop 2).drop 1).drop 1).drop 4).take 4) = x := ⟨_, rfl⟩
  rw [hx2]
  have HX2 := Lib.hid hx2
  clear hx2
  have c1 := (hdr_cells hI6.hdr).2.1
  have f1 := hdr_free hI6.hdr 1
  have hI7 := hI6.set (j := 1) (v := .int .u32 ((x1 : Nat) : Int)) (h' := ⟨x0, x1, 0, 0, 0, 0, 0⟩) hpp hpw (by simp only [List.length_drop, HL.out]; omega) rfl
  have c2 := (hdr_cells hI7.hdr).2.2.1
  have f2 := hdr_free hI7.hdr 2
  have hI8 := hI7.set (j := 2) (v := .int .u32 ((x2 : Nat) : Int)) (h' := ⟨x0, x1, x2, 0, 0, 0, 0⟩) hpp hpw (by simp only [List.length_drop, HL.out]; omega) rfl
  clear hI6 hI7
  obtain ⟨ra8, rc8, hrd8⟩ := hI8.rd
  go_wp2_with fail
  refine (rU16_ok hrd8 (by simp only [List.length_drop, HL.out]; omega)).mono ?_
  intro e w9 hn8
  obtain ⟨rfl, hI9⟩ := hI8.num hpp hn8
  clear hrd8 hn8 hI8
  obtain ⟨x3, hx3⟩ : ∃ x, leVal (((((((os).drop 2).drop 1).drop 1).drop 4).drop 4).take 2) = x := ⟨_, rfl⟩
  rw [hx3]
  have HX3 := Lib.hid hx3
  clear hx3
  obtain ⟨ra9, rc9, hrd9⟩ := hI9.rd
  go_wp2_with fail
  refine (rU16_ok hrd9 (by simp only [List.length_drop, HL.out]; omega)).mono ?_
  intro e w10 hn9
  obtain ⟨rfl, hI10⟩ := hI9.num hpp hn9
  clear hrd9 hn9 hI9
  obtain ⟨x4, hx4⟩ : ∃ x, leVal ((((((((os).drop 2).drop 1).drop 1).drop 4).drop 4).drop 2).take 2) = x := ⟨_, rfl⟩
  rw [hx4]
  have HX4 := Lib.hid hx4
  clear hx4
  have c3 := (hdr_cells hI10.hdr).2.2.2.1
  have f3 := hdr_free hI10.hdr 3
  have hI11 := hI10.set (j := 3) (v := .int .u16 ((x3 : Nat) : Int)) (h' := ⟨x0, x1, x2, x3, 0, 0, 0⟩) hpp hpw (by simp only [List.length_drop, HL.out]; omega) rfl
  have c4 := (hdr_cells hI11.hdr).2.2.2.2.1
  have f4 := hdr_free hI11.hdr 4
  have hI12 := hI11.set (j := 4) (v := .int .u16 ((x4 : Nat) : Int)) (h' := ⟨x0, x1, x2, x3, x4, 0, 0⟩) hpp hpw (by simp only [List.length_drop, HL.out]; omega) rfl
  clear hI10 hI11
  obtain ⟨ra12, rc12, hrd12⟩ := hI12.rd
  go_wp2_with fail
  refine (rU32_ok hrd12 (by simp only [List.length_drop, HL.out]; omega)).mono ?_
  intro e w13 hn12
  obtain ⟨rfl, hI13⟩ := hI12.num hpp hn12
  clear hrd12 hn12 hI12
  obtain ⟨x5, hx5⟩ : ∃ x, leVal (((((((((os).drop 2).drop 1).drop 1).drop 4).drop 4).drop 2).drop 2).take 4) = x := ⟨_, rfl⟩
  rw [hx5]
  have HX5 := Lib.hid hx5
  clear hx5
  obtain ⟨ra13, rc13, hrd13⟩ := hI13.rd
  go_wp2_with fail
  refine (rU32_ok hrd13 (by simp only [List.length_drop, HL.out]; omega)).mono ?_
  intro e w14 hn13
  obtain ⟨rfl, hI14⟩ := hI13.num hpp hn13
  clear hrd13 hn13 hI13
  obtain ⟨x6, hx6⟩ : ∃ x, leVal ((((((((((os).drop 2).drop 1).drop 1).drop 4).drop 4).drop 2).drop 2).drop 4).take 4) = x := ⟨_, rfl⟩
  rw [hx6]
  have HX6 := Lib.hid hx6
  clear hx6
  have c5 := (hdr_cells hI14.hdr).2.2.2.2.2.1
  have f5 := hdr_free hI14.hdr 5
  have hI15 := hI14.set (j := 5) (v := .int .u32 ((x5 : Nat) : Int)) (h' := ⟨x0, x1, x2, x3, x4, x5, 0⟩) hpp hpw (by simp only [List.length_drop, HL.out]; omega) rfl
  have c6 := (hdr_cells hI15.hdr).2.2.2.2.2.2
  have f6 := hdr_free hI15.hdr 6
  have hI16 := hI15.set (j := 6) (v := .int .u32 ((x6 : Nat) : Int)) (h' := ⟨x0, x1, x2, x3, x4, x5, x6⟩) hpp hpw (by simp only [List.length_drop, HL.out]; omega) rfl
  clear hI14 hI15
  go_wp2
  go_end0
  have hT : takeH os = ⟨x0, x1, x2, x3, x4, x5, x6⟩ := by
    unfold takeH
    rw [← HX0.out, ← HX1.out, ← HX2.out, ← HX3.out, ← HX4.out, ← HX5.out, ← HX6.out]
    simp [List.drop_drop]
  rw [hT]
  exact ⟨rfl, hI16.inner, hI16.hdr, hI16.bel⟩

set_option maxRecDepth 100000 in
set_option maxHeartbeats 800000 in
theorem take_any (a : Option Addr) (cap : Nat) (os : List Nat) (w : World) (hr : Row w a 64 os) (hn : a = none → cap = 0) :
    Calls Tryz.prog 113 #[.slice a 64 cap] w fun e w' => e = .returned (.agg (takeH os).cells) ∧ Below w.heap.size w w' := by
  have hmf : ∀ (fn : Fn) (first cap : Array Value) (w : World), (Instr.makeFunc fn first cap).run Tryz.prog w = .ok (.func fn first cap) w := fun _ _ _ _ => rfl
  go_enter Tryz.func113, Tryz.ntmps113
  go_wp2_with fail
  obtain ⟨wr, hwr⟩ : ∃ wr, wr = (w.alloc (.cells #[.int .u8 0, .int .u32 0, .int .u32 0, .int .u16 0, .int .u16 0, .int .u32 0, .int .u32 0] 93)).alloc (.cells #[.int .u8 0, .int .u32 0, .int .u32 0, .int .u16 0, .int .u16 0, .int .u32 0, .int .u32 0] 93) := ⟨_, rfl⟩
  have hs : wr.heap.size = (w.heap.size + 1) + 1 := by rw [hwr]; simp
  have hb : Below w.heap.size w wr := by rw [hwr]; exact bel_alloc (bel_alloc (Below.refl _ w) _) _
  have h0 : wr.heap[w.heap.size + 1]? = some (.cells RH.zero.cells 93 (0, 0)) := by
    have h := heap_alloc_new (w.alloc (.cells #[.int .u8 0, .int .u32 0, .int .u32 0, .int .u16 0, .int .u16 0, .int .u32 0, .int .u32 0] 93)) (.cells #[.int .u8 0, .int .u32 0, .int .u32 0, .int .u16 0, .int .u16 0, .int .u32 0, .int .u32 0] 93)
    rw [← hwr, show (w.alloc (.cells #[.int .u8 0, .int .u32 0, .int .u32 0, .int .u16 0, .int .u16 0, .int .u32 0, .int .u32 0] 93)).heap.size = w.heap.size + 1 by simp] at h
    exact h
  have hr0 : wr.heap[w.heap.size]? = some (.cells RH.zero.cells 93 (0, 0)) := by
    have h := heap_alloc_new w (.cells #[.int .u8 0, .int .u32 0, .int .u32 0, .int .u16 0, .int .u16 0, .int .u32 0, .int .u32 0] 93)
    rw [hwr, Below.heap_alloc _ _ _ (by simp)]
    exact h
  rw [← hwr]
  have hrw := row_keep hr hb (Nat.le_refl _)
  have HS := Lib.hid hs
  have HB := Lib.hid hb
  have hl64 : os.length = 64 := hr.1
  clear hwr hs hr hb
  have hcall : ∀ (args : Array Value) (wx : World), (callFunc 115 args).run Tryz.prog wx = .ok (.enter 115 args) wx := fun args wx => by simp [go_sem]
  have hby : ByOk 115 #[.pointer (some ⟨w.heap.size + 1, 0, none⟩)] os wr (fun W' => W'.heap[w.heap.size + 1]? = some (.cells (takeH os).cells 93 (0, 0)) ∧ Below (w.heap.size + 1) wr W') := by
    intro W pr pg a' c hrd hb hpr
    exact takeBy wr W (w.heap.size + 1) pr pg c a' os hl64 HS.out hrd hb hpr h0
  have hrok := read_ok a 64 cap os _ _ wr _ hrw hn (by omega) hcall hby
  with_reducible refine hrok.mono ?_
  rintro e w7 ⟨rfl, W2, ⟨hq1, hq2⟩, hb57, _⟩
  have hb07 : Below w.heap.size w w7 := HB.out.trans ((hq2.mono (by omega)).trans (hb57.mono (by have := HS.out; omega)))
  have hq7 : w7.heap[w.heap.size + 1]? = some (.cells (takeH os).cells 93 (0, 0)) := by rw [hb57.block _ (by have := HS.out; omega)]; exact hq1
  have hr7 : w7.heap[w.heap.size]? = some (.cells RH.zero.cells 93 (0, 0)) := by
    rw [hb57.block _ (by have := HS.out; omega), hq2.block _ (by omega)]; exact hr0
  clear hrok hby hcall hq1 hq2 hb57 h0 hr0 hrw
  obtain ⟨c0, c1, c2, c3, c4, c5, c6⟩ := hdr_cells hq7
  obtain ⟨d0, d1, d2, d3, d4, d5, d6⟩ := hdr_cells hr7
  have f0 := hdr_free hr7 0
  have f1 := hdr_free hr7 1
  have f2 := hdr_free hr7 2
  have f3 := hdr_free hr7 3
  have f4 := hdr_free hr7 4
  have f5 := hdr_free hr7 5
  have f6 := hdr_free hr7 6
  go_wp2
  refine bodyPost_ret (v := .agg (takeH os).cells) ?_ rfl ⟨rfl, ?_⟩
  · simp [results, Tryz.results113, go_sem, RH.cells, d0, d1, d2, d3, d4, d5, d6]
  · exact (((((((hb07.setCell (p := ⟨w.heap.size, 0, none⟩) (Nat.le_refl _) _).setCell (p := ⟨w.heap.size, 1, none⟩) (Nat.le_refl _) _).setCell (p := ⟨w.heap.size, 2, none⟩) (Nat.le_refl _) _).setCell (p := ⟨w.heap.size, 3, none⟩) (Nat.le_refl _) _).setCell (p := ⟨w.heap.size, 4, none⟩) (Nat.le_refl _) _).setCell (p := ⟨w.heap.size, 5, none⟩) (Nat.le_refl _) _).setCell (p := ⟨w.heap.size, 6, none⟩) (Nat.le_refl _) _)

end Go.Proofs.YthgcjiocelcblaaGreat

namespace Go.Proofs.YthgcjiocelcblaaGreat
open Go.RowKit

theorem bel_six {w w1 : World} (hb : Below w.heap.size w w1) (b : Nat) (h : w.heap.size ≤ b) (v0 v1 v2 v3 v4 v5 v6 : Value) : Below w.heap.size w (((((((w1.setCell ⟨b, 0, none⟩ v0).setCell ⟨b, 1, none⟩ v1).setCell ⟨b, 2, none⟩ v2).setCell ⟨b, 3, none⟩ v3).setCell ⟨b, 4, none⟩ v4).setCell ⟨b, 5, none⟩ v5).setCell ⟨b, 6, none⟩ v6) :=
  (((((((hb.setCell (p := ⟨b, 0, none⟩) h _).setCell (p := ⟨b, 1, none⟩) h _).setCell (p := ⟨b, 2, none⟩) h _).setCell (p := ⟨b, 3, none⟩) h _).setCell (p := ⟨b, 4, none⟩) h _).setCell (p := ⟨b, 5, none⟩) h _).setCell (p := ⟨b, 6, none⟩) h _)

theorem openOk_at {ds os : List Nat} {h : RH} (hl : os.length = 64) (hh : takeH os = h) : OpenOk ds os ↔ (1 ≤ h.ki ∧ h.ki ≤ 6 ∧ os = sealB h ds (os.drop 32)) := by
  subst hh; unfold OpenOk; simp [hl]
theorem openH_at {ds os : List Nat} {h : RH} (hh : takeH os = h) : openH ds os = if OpenOk ds os then h else RH.zero := by
  subst hh; rfl
theorem row_suffix {w : World} {b off n : Nat} {bs : List Nat} (h : Row w (some ⟨b, off, none⟩) n bs) (k : Nat) (hk : k ≤ n) : Row w (some ⟨b, off + k, none⟩) (n - k) (bs.drop k) := by
  obtain ⟨h1, h2, h3⟩ := h
  refine ⟨by rw [List.length_drop, h1], fun x hx => h2 x (List.mem_of_mem_drop hx), fun h0 => ?_⟩
  obtain ⟨b', off', e, hc⟩ := h3 (by omega)
  cases e
  refine ⟨b, off + k, rfl, fun i hi => ?_⟩
  rw [Nat.add_assoc, hc (k + i) (by omega)]
  simp [List.getD_eq_getElem?_getD, List.getElem?_drop]

theorem bel_of_drew {w w' : World} (h : Below w.drew.heap.size w.drew w') : Below w.heap.size w w' := (Below.refl _ w).drew.trans h
theorem bel_drewN (w : World) (n : Nat) : Below w.heap.size w (w.drewN n) := ⟨rfl, rfl, rfl, Nat.le_refl _, fun _ _ => rfl⟩

set_option maxRecDepth 100000 in
set_option maxHeartbeats 800000 in
theorem open_short (a : Option Addr) (len cap : Nat) (ds : List Nat) (a2 : Option Addr) (len2 cap2 : Nat) (os : List Nat) (w : World) (h64 : len2 ≠ 64) (hr2 : Row w a2 len2 os) :
    Calls Tryz.prog 111 #[.slice a len cap, .slice a2 len2 cap2] w fun e w' => e = .returned (.tuple #[.agg (openH ds os).cells, .bool (decide (OpenOk ds os))]) ∧ Below w.heap.size w w' := by
  have hno : ¬ OpenOk ds os := fun h => h64 (by rw [← hr2.1]; exact h.1)
  have hz : openH ds os = RH.zero := by unfold openH; rw [if_neg hno]
  have HN := Lib.hid (decide_eq_false hno)
  rw [hz, HN.out]
  clear hno hz hr2
  have hne : ((len2 : Int) != 64) = true := by simp; omega
  go_enter Tryz.func111, Tryz.ntmps111
  go_wp2
  refine bodyPost_ret (v := .tuple #[.agg RH.zero.cells, .bool false]) ?_ rfl ⟨rfl, ?_⟩
  · simp [results, Tryz.results111, go_sem, RH.cells, RH.zero]
  · exact bel_alloc (Below.refl _ w) _

set_option maxRecDepth 100000 in
set_option maxHeartbeats 1600000 in
theorem open_whole (a : Option Addr) (len cap : Nat) (ds : List Nat) (a2 : Option Addr) (cap2 : Nat) (os : List Nat) (w : World) (hr : Row w a len ds) (hl : len ≤ 100000) (hr2 : Row w a2 64 os) (hlc2 : 64 ≤ cap2) (hcm2 : cap2 ≤ maxLen) :
    Calls Tryz.prog 111 #[.slice a len cap, .slice a2 64 cap2] w fun e w' => e = .returned (.tuple #[.agg (openH ds os).cells, .bool (decide (OpenOk ds os))]) ∧ Below w.heap.size w w' := by
  unfold maxLen at hcm2
  obtain ⟨b2, off2, ha2, _⟩ := hr2.2.2 (by omega)
  subst ha2
  go_enter Tryz.func111, Tryz.ntmps111
  go_wp2_with fail
  obtain ⟨W1, hW1⟩ : ∃ W1, W1 = w.alloc (.cells #[.int .u8 0, .int .u32 0, .int .u32 0, .int .u16 0, .int .u16 0, .int .u32 0, .int .u32 0] 93) := ⟨_, rfl⟩
  have hz1 : W1.heap.size = w.heap.size + 1 := by rw [hW1]; simp
  have hb1 : Below w.heap.size w W1 := by rw [hW1]; exact bel_alloc (Below.refl _ w) _
  have h01 : W1.heap[w.heap.size]? = some (.cells RH.zero.cells 93 (0, 0)) := by rw [hW1]; exact heap_alloc_new w _
  rw [← hW1]
  clear hW1
  refine (take_any (some ⟨b2, off2, none⟩) cap2 os W1 (row_keep hr2 hb1 (Nat.le_refl _)) (fun e => by cases e)).mono ?_
  rintro e w2 ⟨rfl, hb2⟩
  have hb02 := bel_trans hb1 hb2
  have h02 : w2.heap[w.heap.size]? = some (.cells RH.zero.cells 93 (0, 0)) := by rw [hb2.block _ (by omega)]; exact h01
  have hz2 := hb2.size
  clear hb1 hb2 h01
  have hft : (takeH os).Fits := takeH_fits hr2.2.1 (by have := hr2.1; omega)
  obtain ⟨h, hh⟩ : ∃ h, takeH os = h := ⟨_, rfl⟩
  rw [hh] at hft ⊢
  have HOK := Lib.hid (openOk_at (ds := ds) hr2.1 hh)
  have HOH := Lib.hid (openH_at (ds := ds) hh)
  clear hh
  unfold RH.cells
  go_wp2_with fail
  obtain ⟨W3, hW3⟩ : ∃ W3, W3 = w2.alloc (.cells #[.int .u8 (h.ki : Int), .int .u32 (h.ep : Int), .int .u32 (h.ba : Int), .int .u16 (h.ix : Int), .int .u16 (h.ct : Int), .int .u32 (h.bl : Int), .int .u32 (h.mo : Int)] 93) := ⟨_, rfl⟩
  have hb23 : Below w2.heap.size w2 W3 := by rw [hW3]; exact bel_alloc (Below.refl _ w2) _
  have hh3 : HdrAt h w2.heap.size W3 := by rw [hW3]; exact hdr_new h w2
  have hz3 : W3.heap.size = w2.heap.size + 1 := by rw [hW3]; simp
  have h03 : W3.heap[w.heap.size]? = some (.cells RH.zero.cells 93 (0, 0)) := by rw [hb23.block _ (by omega)]; exact h02
  rw [← hW3]
  clear hW3 h02
  obtain ⟨p, hp⟩ : ∃ p, p = w2.heap.size := ⟨_, rfl⟩
  have hwp : w.heap.size < p := by omega
  have hb03 : Below w.heap.size w W3 := bel_trans hb02 hb23
  rw [← hp] at hh3 hz3 ⊢
  have HZ3 := Lib.hid hz3
  have HR1 : Hid (∀ w', Below W3.heap.size W3 w' → Row w' a len ds ∧ Row w' (some ⟨b2, off2, none⟩) 64 os ∧ Row w' (some ⟨b2, off2 + 32, none⟩) 32 (os.drop 32)) := Lib.hid fun w' hb => by
    have hx := bel_trans hb03 hb
    have hy := row_keep hr2 hx (Nat.le_refl _)
    exact ⟨row_keep hr hx (Nat.le_refl _), hy, row_suffix hy 32 (by omega)⟩
  have HB := Lib.hid hb03
  have HF := Lib.hid hft
  have H03 := Lib.hid h03
  clear hp hz1 hz2 hb02 hb23 hr hr2 hft h03 hb03 hz3
  obtain ⟨c0, c1, c2, c3, c4, c5, c6⟩ := hh3
  by_cases k1 : h.ki < 1
  · have HN : Hid (¬ OpenOk ds os) := Lib.hid fun e => by have := (HOK.out.1 e).1; omega
    have d1 : decide ((h.ki : Int) < 1) = true := decide_eq_true (by omega)
    clear k1
    go_quiet (fail)
    have h04 : (W3.drewN nq).heap[w.heap.size]? = some (.cells RH.zero.cells 93 (0, 0)) := H03.out
    have hb04 : Below w.heap.size w (W3.drewN nq) := bel_trans HB.out (bel_drewN W3 nq)
    obtain ⟨W4, hW4⟩ : ∃ W4, W4 = W3.drewN nq := ⟨_, rfl⟩
    rw [← hW4] at h04 hb04 ⊢
    clear hW4 c0 c1 c2 c3 c4 c5 c6
    obtain ⟨e0, e1, e2, e3, e4, e5, e6⟩ := hdr_cells h04
    have f0 := hdr_free h04 0
    have f1 := hdr_free h04 1
    have f2 := hdr_free h04 2
    have f3 := hdr_free h04 3
    have f4 := hdr_free h04 4
    have f5 := hdr_free h04 5
    have f6 := hdr_free h04 6
    have HZ := Lib.hid (HOH.out.trans (if_neg HN.out))
    have HD := Lib.hid (decide_eq_false HN.out)
    clear h04
    go_wp2
    refine bodyPost_ret (v := .tuple #[.agg RH.zero.cells, .bool false]) ?_ rfl ⟨by rw [HZ.out, HD.out], ?_⟩
    · simp [results, Tryz.results111, go_sem, RH.cells, RH.zero, e0, e1, e2, e3, e4, e5, e6]
    · exact bel_six hb04 w.heap.size (Nat.le_refl _) _ _ _ _ _ _ _
  · by_cases k6 : 6 < h.ki
    · have HN : Hid (¬ OpenOk ds os) := Lib.hid fun e => by have := (HOK.out.1 e).2.1; omega
      have d1 : decide ((h.ki : Int) < 1) = false := decide_eq_false (by omega)
      have d6 : decide ((6 : Int) < (h.ki : Int)) = true := decide_eq_true (by omega)
      clear k1 k6
      go_quiet (fail)
      have h04 : (W3.drewN nq).heap[w.heap.size]? = some (.cells RH.zero.cells 93 (0, 0)) := H03.out
      have hb04 : Below w.heap.size w (W3.drewN nq) := bel_trans HB.out (bel_drewN W3 nq)
      obtain ⟨W4, hW4⟩ : ∃ W4, W4 = W3.drewN nq := ⟨_, rfl⟩
      rw [← hW4] at h04 hb04 ⊢
      clear hW4 c0 c1 c2 c3 c4 c5 c6
      obtain ⟨e0, e1, e2, e3, e4, e5, e6⟩ := hdr_cells h04
      have f0 := hdr_free h04 0
      have f1 := hdr_free h04 1
      have f2 := hdr_free h04 2
      have f3 := hdr_free h04 3
      have f4 := hdr_free h04 4
      have f5 := hdr_free h04 5
      have f6 := hdr_free h04 6
      have HZ := Lib.hid (HOH.out.trans (if_neg HN.out))
      have HD := Lib.hid (decide_eq_false HN.out)
      clear h04
      go_wp2
      refine bodyPost_ret (v := .tuple #[.agg RH.zero.cells, .bool false]) ?_ rfl ⟨by rw [HZ.out, HD.out], ?_⟩
      · simp [results, Tryz.results111, go_sem, RH.cells, RH.zero, e0, e1, e2, e3, e4, e5, e6]
      · exact bel_six hb04 w.heap.size (Nat.le_refl _) _ _ _ _ _ _ _
    · have d1 : decide ((h.ki : Int) < 1) = false := decide_eq_false (by omega)
      have d6 : decide ((6 : Int) < (h.ki : Int)) = false := decide_eq_false (by omega)
      have HK : Hid (1 ≤ h.ki ∧ h.ki ≤ 6) := Lib.hid ⟨by omega, by omega⟩
      have hz : (32 : Int) ≤ 64 := by omega
      have hcc : (64 : Int) ≤ (cap2 : Int) := by omega
      obtain ⟨E, hE⟩ : ∃ E, decide (os = sealB h ds (os.drop 32)) = E := ⟨_, rfl⟩
      have HE := Lib.hid hE
      have HSEAL : Hid (Calls Tryz.prog 70 #[.agg #[.int .u8 (h.ki : Int), .int .u32 (h.ep : Int), .int .u32 (h.ba : Int), .int .u16 (h.ix : Int), .int .u16 (h.ct : Int), .int .u32 (h.bl : Int), .int .u32 (h.mo : Int)], .slice a len cap, .slice (some ⟨b2, off2 + 32, none⟩) 32 (cap2 - 32)] W3.drew (RetOwn W3.drew (sealB h ds (os.drop 32)))) :=
        Lib.hid (seal_any h HF.out a len cap ds (some ⟨b2, off2 + 32, none⟩) 32 (cap2 - 32) (os.drop 32) W3.drew (HR1.out _ (Below.refl _ W3).drew).1 hl (HR1.out _ (Below.refl _ W3).drew).2.2 (by omega) (by unfold maxLen; omega) (fun e => by cases e) (by omega))
      have HCN : Hid (¬ cap2 = 32) := Lib.hid (by omega)
      clear hE k1 k6
      go_region_held3 (fun w' => w'.cell? ⟨p, 0, none⟩ = some (.int .u8 (h.ki : Int)) ∧ w'.cell? ⟨p, 1, none⟩ = some (.int .u32 (h.ep : Int)) ∧ w'.cell? ⟨p, 2, none⟩ = some (.int .u32 (h.ba : Int)) ∧ w'.cell? ⟨p, 3, none⟩ = some (.int .u16 (h.ix : Int)) ∧ w'.cell? ⟨p, 4, none⟩ = some (.int .u16 (h.ct : Int)) ∧ w'.cell? ⟨p, 5, none⟩ = some (.int .u32 (h.bl : Int)) ∧ w'.cell? ⟨p, 6, none⟩ = some (.int .u32 (h.mo : Int)))
        (first | exact hS | go_keep)
        (first
          | (go_simp; go_at_call 70; rw [if_neg HCN.out]; ((with_reducible refine HSEAL.out.mono ?_)); (intro e w5 h5; obtain ⟨a5, k5, rfl, hr5, _, _, hb5⟩ := retOwn_len h5; rw [sealB_len] at hr5 ⊢; have hS := HdrAt.below (h := h) (B := p) ⟨c0, c1, c2, c3, c4, c5, c6⟩ ((Below.refl _ W3).drew.trans hb5) (show p < W3.heap.size by rw [HZ3.out]; exact Nat.lt_succ_self _)))
          | (go_simp; go_at_call 114; ((with_reducible refine (equal_any _ 64 _ a5 64 k5 os _ w5 (HR1.out _ (bel_of_drew hb5)).2.1 hr5).mono ?_)); (rintro e w6 ⟨rfl, rfl⟩; rw [HE.out])))
      have hb06 : Below w.heap.size w w6 := bel_trans HB.out (bel_of_drew hb5)
      have h06 : w6.heap[w.heap.size]? = some (.cells RH.zero.cells 93 (0, 0)) := by rw [hb5.block _ (show w.heap.size < W3.heap.size by rw [HZ3.out]; omega)]; exact H03.out
      obtain ⟨e0, e1, e2, e3, e4, e5, e6⟩ := hdr_cells h06
      have f0 := hdr_free h06 0
      have f1 := hdr_free h06 1
      have f2 := hdr_free h06 2
      have f3 := hdr_free h06 3
      have f4 := hdr_free h06 4
      have f5 := hdr_free h06 5
      have f6 := hdr_free h06 6
      obtain ⟨g0, g1, g2, g3, g4, g5, g6⟩ := hS
      clear h5 hr5 hb5 h06 HSEAL c0 c1 c2 c3 c4 c5 c6
      cases E with
      | true =>
        have HN : Hid (OpenOk ds os) := Lib.hid (HOK.out.2 ⟨HK.out.1, HK.out.2, of_decide_eq_true HE.out⟩)
        have HZ := Lib.hid (HOH.out.trans (if_pos HN.out))
        have HD := Lib.hid (decide_eq_true HN.out)
        go_wp2
        refine bodyPost_ret (v := .tuple #[.agg h.cells, .bool true]) ?_ rfl ⟨by rw [HZ.out, HD.out], ?_⟩
        · simp [results, Tryz.results111, go_sem, RH.cells, e0, e1, e2, e3, e4, e5, e6]
        · exact bel_six hb06 w.heap.size (Nat.le_refl _) _ _ _ _ _ _ _
      | false =>
        have HN : Hid (¬ OpenOk ds os) := Lib.hid fun e => of_decide_eq_false HE.out (HOK.out.1 e).2.2
        have HZ := Lib.hid (HOH.out.trans (if_neg HN.out))
        have HD := Lib.hid (decide_eq_false HN.out)
        clear g0 g1 g2 g3 g4 g5 g6
        go_wp2
        refine bodyPost_ret (v := .tuple #[.agg RH.zero.cells, .bool false]) ?_ rfl ⟨by rw [HZ.out, HD.out], ?_⟩
        · simp [results, Tryz.results111, go_sem, RH.cells, RH.zero, e0, e1, e2, e3, e4, e5, e6]
        · exact bel_six hb06 w.heap.size (Nat.le_refl _) _ _ _ _ _ _ _
theorem open_any (a : Option Addr) (len cap : Nat) (ds : List Nat) (a2 : Option Addr) (len2 cap2 : Nat) (os : List Nat) (w : World) (hr : Row w a len ds) (hl : len ≤ 100000) (hr2 : Row w a2 len2 os) (hlc2 : len2 ≤ cap2) (hcm2 : cap2 ≤ maxLen) :
    Calls Tryz.prog 111 #[.slice a len cap, .slice a2 len2 cap2] w fun e w' => e = .returned (.tuple #[.agg (openH ds os).cells, .bool (decide (OpenOk ds os))]) ∧ Below w.heap.size w w' := by
  by_cases h64 : len2 = 64
  · subst h64; exact open_whole a len cap ds a2 cap2 os w hr hl hr2 hlc2 hcm2
  · exact open_short a len cap ds a2 len2 cap2 os w h64 hr2

end Go.Proofs.YthgcjiocelcblaaGreat
