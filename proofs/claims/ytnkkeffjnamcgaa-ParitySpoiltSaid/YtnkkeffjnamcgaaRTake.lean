/- record.take: the header in what stands beside a page. -/
import Derived.Test.YtnkkeffjnamcgaaRSealA
import Derived.Test.YtnkkeffjnamcgaaRBlank
namespace Go.Proofs.Ytnkkeffjnamcgaa
open Go.RowKit

/-- Where the function stands: what is left, and the header as it is so far. -/
structure TakeI (w W : World) (p pr pg : Nat) (h : RH) (wr : World) (bs : List Nat) : Prop where
  rd : ∃ ra rc, RD wr pr pg ra rc bs
  hdr : wr.heap[p]? = some (.cells h.cells 27 (0, 0))
  inner : Inner w.heap.size W pr wr
  bel : Below p w wr
section
variable {w W wr w' : World} {p pr pg : Nat} {h : RH} {bs : List Nat}
theorem TakeI.num {rc s : Nat} {v : Value} {e : Ending} (hI : TakeI w W p pr pg h wr bs) (hp : p < pr) (hr : NumRet wr pr pg rc bs s v e w') : e = .returned v ∧ TakeI w W p pr pg h w' (bs.drop s) := by
  obtain ⟨a2, rfl, rfl, hrd⟩ := hr
  have hk : ∀ k, k ≠ pr → (wr.setCell ⟨pr, 0, none⟩ (.slice a2 (bs.length - s) (rc - s))).heap[k]? = wr.heap[k]? := fun k hk => Below.heap_setCell _ _ _ _ hk
  refine ⟨rfl, ⟨_, _, hrd⟩, by rw [hk p (by omega)]; exact hI.hdr, ⟨by simpa [World.setCell] using hI.inner.1, fun k k1 k2 k3 => by rw [hk k k3]; exact hI.inner.2 k k1 k2 k3⟩, hI.bel.setCell (p := ⟨pr, 0, none⟩) (Nat.le_of_lt hp) _⟩
theorem hdr_cells {w : World} (hh : w.heap[p]? = some (.cells h.cells 27 (0, 0))) : HdrAt h p w := by
  unfold HdrAt
  refine ⟨?_, ?_, ?_, ?_, ?_, ?_, ?_⟩ <;> simp [World.cell?, hh, RH.cells]
theorem hdr_free {w : World} (hh : w.heap[p]? = some (.cells h.cells 27 (0, 0))) (k : Nat) : w.frozen? ⟨p, k, none⟩ = false := by
  simp [World.frozen?, hh]
/-- The reader's row lies in another block than the header. -/
theorem TakeI.apart {ra : Option Addr} {rc : Nat} (hI : TakeI w W p pr pg h wr bs) (hr : RD wr pr pg ra rc bs) (hl : 2 ≤ bs.length) : ∀ b off, ra = some ⟨b, off, none⟩ → b ≠ p := by
  intro b off hb e
  subst e
  obtain ⟨b', off', e2, hc⟩ := hr.2.1.2.2 (by omega)
  rw [hb] at e2
  cases e2
  have h0 := hc 0 (by omega)
  have h1 := hc 1 (by omega)
  obtain ⟨_, c1, c2, c3, c4, c5, c6⟩ := hdr_cells hI.hdr
  have hlt : off + 1 < 7 := by
    rcases Nat.lt_or_ge (off + 1) 7 with h | h
    · exact h
    · simp only [World.cell?, hI.hdr] at h1
      rw [Array.getElem?_eq_none (by simpa [RH.cells] using h)] at h1
      cases h1
  rcases (by omega : off = 0 ∨ off = 1 ∨ off = 2 ∨ off = 3 ∨ off = 4 ∨ off = 5) with rfl | rfl | rfl | rfl | rfl | rfl
  · rw [c1] at h1; cases h1
  · rw [c1] at h0; cases h0
  · rw [c2] at h0; cases h0
  · rw [c3] at h0; cases h0
  · rw [c4] at h0; cases h0
  · rw [c5] at h0; cases h0
theorem TakeI.set {j : Nat} {v : Value} {h' : RH} (hI : TakeI w W p pr pg h wr bs) (hp : p < pr) (hpw : p < w.heap.size) (hl : 2 ≤ bs.length) (hc : h.cells.setIfInBounds j v = h'.cells) : TakeI w W p pr pg h' (wr.setCell ⟨p, j, none⟩ v) bs := by
  obtain ⟨ra, rc, hrd⟩ := hI.rd
  have hap := hI.apart hrd hl
  have hk : ∀ k, k ≠ p → (wr.setCell ⟨p, j, none⟩ v).heap[k]? = wr.heap[k]? := fun k hk => Below.heap_setCell _ _ _ _ hk
  refine ⟨⟨ra, rc, ?_⟩, ?_, ⟨by simpa [World.setCell] using hI.inner.1, fun k k1 k2 k3 => by rw [hk k (by omega)]; exact hI.inner.2 k k1 k2 k3⟩, hI.bel.setCell (p := ⟨p, j, none⟩) (Nat.le_refl _) _⟩
  · obtain ⟨r1, r2, r3, r4, r5, r6⟩ := hrd
    refine ⟨by rw [hk pr (by omega)]; exact r1, ⟨r2.1, r2.2.1, fun h0 => ?_⟩, r3, r4, r5, r6⟩
    obtain ⟨b, o, e, hcs⟩ := r2.2.2 h0
    refine ⟨b, o, e, fun i hi => ?_⟩
    rw [World.cell?_of_block (w := wr) (a := ⟨b, o + i, none⟩) (hk b (hap b o e))]
    exact hcs i hi
  · have hx := heap_setCell_same wr p j h.cells 27 v hI.hdr
    rw [hc] at hx
    exact hx
end

set_option maxRecDepth 100000 in
set_option maxHeartbeats 800000 in
theorem takeBy (w W : World) (p pr pg c : Nat) (a : Option Addr) (os : List Nat) (hl : os.length = 64) (hp : w.heap.size = p + 1) (hr : RD W pr pg a c os) (hb : Below w.heap.size w W) (hpr : w.heap.size + 3 ≤ pr) (h0 : w.heap[p]? = some (.cells RH.zero.cells 27 (0, 0))) :
    Calls Try.prog 85 #[.pointer (some ⟨pr, 0, none⟩), .pointer (some ⟨p, 0, none⟩)] W fun e W' => e = .returned (.tuple #[]) ∧ Inner w.heap.size W pr W' ∧ W'.heap[p]? = some (.cells (takeH os).cells 27 (0, 0)) ∧ Below p w W' := by
  have hpp : p < pr := by omega
  have hpw : p < w.heap.size := by omega
  have hI0 : TakeI w W p pr pg RH.zero W os := ⟨⟨a, c, hr⟩, by rw [hb.block p hpw]; exact h0, ⟨Nat.le_refl _, fun _ _ _ _ => rfl⟩, hb.mono (by omega)⟩
  clear hr h0 hb
  have HL := Lib.hid hl
  clear hl
  go_enter Try.func85, Try.ntmps85
  obtain ⟨ra0, rc0, hrd0⟩ := hI0.rd
  go_wp2_with fail
  refine (rU16_ok hrd0 (by rw [HL.out]; omega)).mono ?_
  intro e w1 hn0
  obtain ⟨rfl, hI1⟩ := hI0.num hpp hn0
  clear hrd0 hn0 hI0
  obtain ⟨ra1, rc1, hrd1⟩ := hI1.rd
  go_wp2_with fail
  refine (rU8_ok hrd1 (by simp only [List.length_drop, HL.out]; omega)).mono ?_
  intro e w2 hn1
  obtain ⟨rfl, hI2⟩ := hI1.num hpp hn1
  clear hrd1 hn1 hI1
  obtain ⟨x0, hx0⟩ : ∃ x, ((os).drop 2).getD 0 0 = x := ⟨_, rfl⟩
  rw [hx0]
  have HX0 := Lib.hid hx0
  clear hx0
  have c0 := (hdr_cells hI2.hdr).1
  have f0 := hdr_free hI2.hdr 0
  have hI3 := hI2.set (j := 0) (v := .int .u8 ((x0 : Nat) : Int)) (h' := ⟨x0, 0, 0, 0, 0, 0, 0⟩) hpp hpw (by simp only [List.length_drop, HL.out]; omega) rfl
  clear hI2
  obtain ⟨ra3, rc3, hrd3⟩ := hI3.rd
  go_wp2_with fail
  refine (rU8_ok hrd3 (by simp only [List.length_drop, HL.out]; omega)).mono ?_
  intro e w4 hn3
  obtain ⟨rfl, hI4⟩ := hI3.num hpp hn3
  clear hrd3 hn3 hI3
  obtain ⟨ra4, rc4, hrd4⟩ := hI4.rd
  go_wp2_with fail
  refine (rU32_ok hrd4 (by simp only [List.length_drop, HL.out]; omega)).mono ?_
  intro e w5 hn4
  obtain ⟨rfl, hI5⟩ := hI4.num hpp hn4
  clear hrd4 hn4 hI4
  obtain ⟨x1, hx1⟩ : ∃ x, leVal (((((os).drop 2).drop 1).drop 1).take 4) = x := ⟨_, rfl⟩
  rw [hx1]
  have HX1 := Lib.hid hx1
  clear hx1
  obtain ⟨ra5, rc5, hrd5⟩ := hI5.rd
  go_wp2_with fail
  refine (rU32_ok hrd5 (by simp only [List.length_drop, HL.out]; omega)).mono ?_
  intro e w6 hn5
  obtain ⟨rfl, hI6⟩ := hI5.num hpp hn5
  clear hrd5 hn5 hI5
  obtain ⟨x2, hx2⟩ : ∃ x, leVal ((((((os).drop 2).drop 1).drop 1).drop 4).take 4) = x := ⟨_, rfl⟩
  rw [hx2]
  have HX2 := Lib.hid hx2
  clear hx2
  have c1 := (hdr_cells hI6.hdr).2.1
  have f1 := hdr_free hI6.hdr 1
  have hI7 := hI6.set (j := 1) (v := .int .u32 ((x1 : Nat) : Int)) (h' := ⟨x0, x1, 0, 0, 0, 0, 0⟩) hpp hpw (by simp only [List.length_drop, HL.out]; omega) rfl
  have c2 := (hdr_cells hI7.hdr).2.2.1
  have f2 := hdr_free hI7.hdr 2
  have hI8 := hI7.set (j := 2) (v := .int .u32 ((x2 : Nat) : Int)) (h' := ⟨x0, x1, x2, 0, 0, 0, 0⟩) hpp hpw (by simp only [List.length_drop, HL.out]; omega) rfl
  clear hI6 hI7
  obtain ⟨ra8, rc8, hrd8⟩ := hI8.rd
  go_wp2_with fail
  refine (rU16_ok hrd8 (by simp only [List.length_drop, HL.out]; omega)).mono ?_
  intro e w9 hn8
  obtain ⟨rfl, hI9⟩ := hI8.num hpp hn8
  clear hrd8 hn8 hI8
  obtain ⟨x3, hx3⟩ : ∃ x, leVal (((((((os).drop 2).drop 1).drop 1).drop 4).drop 4).take 2) = x := ⟨_, rfl⟩
  rw [hx3]
  have HX3 := Lib.hid hx3
  clear hx3
  obtain ⟨ra9, rc9, hrd9⟩ := hI9.rd
  go_wp2_with fail
  refine (rU16_ok hrd9 (by simp only [List.length_drop, HL.out]; omega)).mono ?_
  intro e w10 hn9
  obtain ⟨rfl, hI10⟩ := hI9.num hpp hn9
  clear hrd9 hn9 hI9
  obtain ⟨x4, hx4⟩ : ∃ x, leVal ((((((((os).drop 2).drop 1).drop 1).drop 4).drop 4).drop 2).take 2) = x := ⟨_, rfl⟩
  rw [hx4]
  have HX4 := Lib.hid hx4
  clear hx4
  have c3 := (hdr_cells hI10.hdr).2.2.2.1
  have f3 := hdr_free hI10.hdr 3
  have hI11 := hI10.set (j := 3) (v := .int .u16 ((x3 : Nat) : Int)) (h' := ⟨x0, x1, x2, x3, 0, 0, 0⟩) hpp hpw (by simp only [List.length_drop, HL.out]; omega) rfl
  have c4 := (hdr_cells hI11.hdr).2.2.2.2.1
  have f4 := hdr_free hI11.hdr 4
  have hI12 := hI11.set (j := 4) (v := .int .u16 ((x4 : Nat) : Int)) (h' := ⟨x0, x1, x2, x3, x4, 0, 0⟩) hpp hpw (by simp only [List.length_drop, HL.out]; omega) rfl
  clear hI10 hI11
  obtain ⟨ra12, rc12, hrd12⟩ := hI12.rd
  go_wp2_with fail
  refine (rU32_ok hrd12 (by simp only [List.length_drop, HL.out]; omega)).mono ?_
  intro e w13 hn12
  obtain ⟨rfl, hI13⟩ := hI12.num hpp hn12
  clear hrd12 hn12 hI12
  obtain ⟨x5, hx5⟩ : ∃ x, leVal (((((((((os).drop 2).drop 1).drop 1).drop 4).drop 4).drop 2).drop 2).take 4) = x := ⟨_, rfl⟩
  rw [hx5]
  have HX5 := Lib.hid hx5
  clear hx5
  obtain ⟨ra13, rc13, hrd13⟩ := hI13.rd
  go_wp2_with fail
  refine (rU32_ok hrd13 (by simp only [List.length_drop, HL.out]; omega)).mono ?_
  intro e w14 hn13
  obtain ⟨rfl, hI14⟩ := hI13.num hpp hn13
  clear hrd13 hn13 hI13
  obtain ⟨x6, hx6⟩ : ∃ x, leVal ((((((((((os).drop 2).drop 1).drop 1).drop 4).drop 4).drop 2).drop 2).drop 4).take 4) = x := ⟨_, rfl⟩
  rw [hx6]
  have HX6 := Lib.hid hx6
  clear hx6
  have c5 := (hdr_cells hI14.hdr).2.2.2.2.2.1
  have f5 := hdr_free hI14.hdr 5
  have hI15 := hI14.set (j := 5) (v := .int .u32 ((x5 : Nat) : Int)) (h' := ⟨x0, x1, x2, x3, x4, x5, 0⟩) hpp hpw (by simp only [List.length_drop, HL.out]; omega) rfl
  have c6 := (hdr_cells hI15.hdr).2.2.2.2.2.2
  have f6 := hdr_free hI15.hdr 6
  have hI16 := hI15.set (j := 6) (v := .int .u32 ((x6 : Nat) : Int)) (h' := ⟨x0, x1, x2, x3, x4, x5, x6⟩) hpp hpw (by simp only [List.length_drop, HL.out]; omega) rfl
  clear hI14 hI15
  go_wp2
  go_end0
  have hT : takeH os = ⟨x0, x1, x2, x3, x4, x5, x6⟩ := by
    unfold takeH
    rw [← HX0.out, ← HX1.out, ← HX2.out, ← HX3.out, ← HX4.out, ← HX5.out, ← HX6.out]
    simp [List.drop_drop]
  rw [hT]
  exact ⟨rfl, hI16.inner, hI16.hdr, hI16.bel⟩

set_option maxRecDepth 100000 in
set_option maxHeartbeats 800000 in
theorem take_any (a : Option Addr) (cap : Nat) (os : List Nat) (w : World) (hr : Row w a 64 os) (hn : a = none → cap = 0) :
    Calls Try.prog 62 #[.slice a 64 cap] w fun e w' => e = .returned (.agg (takeH os).cells) ∧ Below w.heap.size w w' := by
  have hmf : ∀ (fn : Fn) (first cap : Array Value) (w : World), (Instr.makeFunc fn first cap).run Try.prog w = .ok (.func fn first cap) w := fun _ _ _ _ => rfl
  go_enter Try.func62, Try.ntmps62
  go_wp2_with fail
  obtain ⟨wr, hwr⟩ : ∃ wr, wr = (w.alloc (.cells #[.int .u8 0, .int .u32 0, .int .u32 0, .int .u16 0, .int .u16 0, .int .u32 0, .int .u32 0] 27)).alloc (.cells #[.int .u8 0, .int .u32 0, .int .u32 0, .int .u16 0, .int .u16 0, .int .u32 0, .int .u32 0] 27) := ⟨_, rfl⟩
  have hs : wr.heap.size = (w.heap.size + 1) + 1 := by rw [hwr]; simp
  have hb : Below w.heap.size w wr := by rw [hwr]; exact bel_alloc (bel_alloc (Below.refl _ w) _) _
  have h0 : wr.heap[w.heap.size + 1]? = some (.cells RH.zero.cells 27 (0, 0)) := by
    have h := heap_alloc_new (w.alloc (.cells #[.int .u8 0, .int .u32 0, .int .u32 0, .int .u16 0, .int .u16 0, .int .u32 0, .int .u32 0] 27)) (.cells #[.int .u8 0, .int .u32 0, .int .u32 0, .int .u16 0, .int .u16 0, .int .u32 0, .int .u32 0] 27)
    rw [← hwr, show (w.alloc (.cells #[.int .u8 0, .int .u32 0, .int .u32 0, .int .u16 0, .int .u16 0, .int .u32 0, .int .u32 0] 27)).heap.size = w.heap.size + 1 by simp] at h
    exact h
  have hr0 : wr.heap[w.heap.size]? = some (.cells RH.zero.cells 27 (0, 0)) := by
    have h := heap_alloc_new w (.cells #[.int .u8 0, .int .u32 0, .int .u32 0, .int .u16 0, .int .u16 0, .int .u32 0, .int .u32 0] 27)
    rw [hwr, Below.heap_alloc _ _ _ (by simp)]
    exact h
  rw [← hwr]
  have hrw := row_keep hr hb (Nat.le_refl _)
  have HS := Lib.hid hs
  have HB := Lib.hid hb
  have hl64 : os.length = 64 := hr.1
  clear hwr hs hr hb
  have hcall : ∀ (args : Array Value) (wx : World), (callFunc 85 args).run Try.prog wx = .ok (.enter 85 args) wx := fun args wx => by simp [go_sem]
  have hby : ByOk 85 #[.pointer (some ⟨w.heap.size + 1, 0, none⟩)] os wr (fun W' => W'.heap[w.heap.size + 1]? = some (.cells (takeH os).cells 27 (0, 0)) ∧ Below (w.heap.size + 1) wr W') := by
    intro W pr pg a' c hrd hb hpr
    exact takeBy wr W (w.heap.size + 1) pr pg c a' os hl64 HS.out hrd hb hpr h0
  have hrok := read_ok a 64 cap os _ _ wr _ hrw hn (by omega) hcall hby
  with_reducible refine hrok.mono ?_
  rintro e w7 ⟨rfl, W2, ⟨hq1, hq2⟩, hb57, _⟩
  have hb07 : Below w.heap.size w w7 := HB.out.trans ((hq2.mono (by omega)).trans (hb57.mono (by have := HS.out; omega)))
  have hq7 : w7.heap[w.heap.size + 1]? = some (.cells (takeH os).cells 27 (0, 0)) := by rw [hb57.block _ (by have := HS.out; omega)]; exact hq1
  have hr7 : w7.heap[w.heap.size]? = some (.cells RH.zero.cells 27 (0, 0)) := by
    rw [hb57.block _ (by have := HS.out; omega), hq2.block _ (by omega)]; exact hr0
  clear hrok hby hcall hq1 hq2 hb57 h0 hr0 hrw
  obtain ⟨c0, c1, c2, c3, c4, c5, c6⟩ := hdr_cells hq7
  obtain ⟨d0, d1, d2, d3, d4, d5, d6⟩ := hdr_cells hr7
  have f0 := hdr_free hr7 0
  have f1 := hdr_free hr7 1
  have f2 := hdr_free hr7 2
  have f3 := hdr_free hr7 3
  have f4 := hdr_free hr7 4
  have f5 := hdr_free hr7 5
  have f6 := hdr_free hr7 6
  go_wp2
  refine bodyPost_ret (v := .agg (takeH os).cells) ?_ rfl ⟨rfl, ?_⟩
  · simp [results, Try.results62, go_sem, RH.cells, d0, d1, d2, d3, d4, d5, d6]
  · exact (((((((hb07.setCell (p := ⟨w.heap.size, 0, none⟩) (Nat.le_refl _) _).setCell (p := ⟨w.heap.size, 1, none⟩) (Nat.le_refl _) _).setCell (p := ⟨w.heap.size, 2, none⟩) (Nat.le_refl _) _).setCell (p := ⟨w.heap.size, 3, none⟩) (Nat.le_refl _) _).setCell (p := ⟨w.heap.size, 4, none⟩) (Nat.le_refl _) _).setCell (p := ⟨w.heap.size, 5, none⟩) (Nat.le_refl _) _).setCell (p := ⟨w.heap.size, 6, none⟩) (Nat.le_refl _) _)

end Go.Proofs.Ytnkkeffjnamcgaa
