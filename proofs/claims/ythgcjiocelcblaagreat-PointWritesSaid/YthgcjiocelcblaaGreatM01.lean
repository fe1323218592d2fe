/- Parts of the proof: StRowD, PtDead. -/
import Derived.Test.YthgcjiocelcblaaGreatM00
import Derived.Test.YthgcjiocelcblaaGreatL00
import Derived.Test.YthgcjiocelcblaaGreatK30
import Derived.Test.YthgcjiocelcblaaGreatK43
import Derived.Test.YthgcjiocelcblaaGreatK34
namespace Go.Proofs.YthgcjiocelcblaaGreat
open Go.RowKit Go.Deep

def TakeRetD (s : RS) (seg row D : Nat) (w : World) (e : Ending) (x : World) : Prop :=
  ∃ V lb ob oc F, e = .returned (.tuple #[.pointer (some ⟨lb, 0, none⟩), .int .i64 0]) ∧ LineI V lb ob s seg row oc (D : Int) s.n F x ∧ Below w.heap.size w x ∧ w.heap.size ≤ lb
/-- A line whose pages of data are there. -/
structure LineG (lb ob : Nat) (s : RS) (seg row oc : Nat) (mi : Int) (p : Nat) (F : Nat → FD) (x : World) : Prop where
  box : LineBox lb s seg row (.slice (some ⟨ob, 0, none⟩) s.n oc) mi x
  on : x.rowIs ob 184 (s.n * 10) (fdC F)
  gd : ∀ m, m < s.n → m ≠ p → (F m).d.n = s.sz ∧ PartOk x (F m).d
theorem LineG.step {lb ob : Nat} {s : RS} {seg row oc : Nat} {mi : Int} {p : Nat} {F : Nat → FD} {x y : World} (h : LineG lb ob s seg row oc mi p F x) (hb : Below x.heap.size x y) : LineG lb ob s seg row oc mi p F y :=
  ⟨(hb.block _ (Array.getElem?_eq_some_iff.1 h.box).1).trans h.box, h.on.of_block (hb.block _ h.on.lt), fun m hm hne => ⟨(h.gd m hm hne).1, (h.gd m hm hne).2.step hb⟩⟩
section
variable {B : Nat} {s : RS} {w : World}
set_option maxRecDepth 100000 in
set_option maxHeartbeats 2000000 in
theorem stTake_dead (h : Ram B s w) (hsz : s.sz ≤ 1000) (seg row : Nat) (hseg : seg + 5 < s.bl) (hrow : row < s.pg) (D : Nat) (hlive : ∀ m, m < s.n → m ≠ D → s.gone m = 0) (hD : D < s.n) (hdead : s.gone D ≠ 0) :
    Calls Tryz.prog 79 #[.iface 51 (.pointer (some ⟨s.rb, 0, none⟩)), .int .i64 (seg : Int), .int .i64 (row : Int)] w (TakeRetD s seg row D w) := by
  have hg := h.geo
  have hn3 : 3 ≤ s.n := by have := hg.1; omega
  have hbl : s.bl ≤ 64 := by have := hg.2.2.2.1; omega
  have hpg : s.pg ≤ 32 := by have := hg.2.2.2.2.2.1; omega
  have HSH := Lib.hid fun (x : World) (hx : Below w.heap.size w x) => shape_ok (h.step hx) (seg : Int) (row : Int) 0 (by omega) (by omega) (by omega)
  have HGA := Lib.hid fun (W : World) (hW : Below w.heap.size w W) (lb : Nat) (hlb : w.heap.size ≤ lb) (hbox : LineBox lb s seg row (.slice none 0 0) (-1) W) => gather_dead h hsz W hW lb seg row hlb hseg hrow D none 0 0 hbox hlive hD hdead
  clear hg hlive hdead hD h hseg hrow
  go_enter Tryz.func79, Tryz.ntmps79
  go_wp2_with fail
  ((with_reducible refine (HSH.out _ (Below.refl _ _)).mono ?_))
  rintro e w1 ⟨rfl, hb1⟩
  have hbx := heap_alloc_new w1 (.cells #[.int .i64 (s.n : Int), .int .i64 (s.bl : Int), .int .i64 (s.pg : Int), .int .i64 (s.sz : Int)] 49)
  have hb2 := bel_alloc hb1 (.cells #[.int .i64 (s.n : Int), .int .i64 (s.bl : Int), .int .i64 (s.pg : Int), .int .i64 (s.sz : Int)] 49)
  go_upto_region 2 with fail
  obtain ⟨gb, hgb⟩ : ∃ x, x = w1.heap.size := ⟨_, rfl⟩
  obtain ⟨w2, hw2⟩ : ∃ x, x = w1.alloc (.cells #[.int .i64 (s.n : Int), .int .i64 (s.bl : Int), .int .i64 (s.pg : Int), .int .i64 (s.sz : Int)] 49) := ⟨_, rfl⟩
  rw [← hw2, ← hgb] at hbx
  rw [← hw2] at hb2
  rw [← hw2, ← hgb]
  obtain ⟨g0, g1, g2, g3⟩ := four_at hbx
  have HB2 := Lib.hid hb2
  clear hb1 hb2 hw2 hbx hgb
  go_upto_region 5 with fail
  have hlx := heap_alloc_new w2 (.cells #[.int .i64 (s.n : Int), .int .i64 (s.bl : Int), .int .i64 (s.pg : Int), .int .i64 (s.sz : Int), .int .i64 (seg : Int), .int .i64 (row : Int), .slice none 0 0, .int .i64 (-1)] 180)
  have hb3 := bel_alloc HB2.out (.cells #[.int .i64 (s.n : Int), .int .i64 (s.bl : Int), .int .i64 (s.pg : Int), .int .i64 (s.sz : Int), .int .i64 (seg : Int), .int .i64 (row : Int), .slice none 0 0, .int .i64 (-1)] 180)
  obtain ⟨lb, hlb⟩ : ∃ x, x = w2.heap.size := ⟨_, rfl⟩
  obtain ⟨w3, hw3⟩ : ∃ x, x = w2.alloc (.cells #[.int .i64 (s.n : Int), .int .i64 (s.bl : Int), .int .i64 (s.pg : Int), .int .i64 (s.sz : Int), .int .i64 (seg : Int), .int .i64 (row : Int), .slice none 0 0, .int .i64 (-1)] 180) := ⟨_, rfl⟩
  rw [← hw3, ← hlb] at hlx
  rw [← hw3] at hb3
  rw [← hw3, ← hlb]
  have HLB : Hid (w.heap.size ≤ lb) := Lib.hid (by rw [hlb]; exact HB2.out.size)
  have HB3 := Lib.hid hb3
  have HG3 := Lib.hid (HGA.out w3 hb3 lb HLB.out hlx)
  clear g0 g1 g2 g3 hb3 hw3 hlb hlx HGA
  go_wp2_with fail
  ((with_reducible refine HG3.out.mono ?_))
  rintro e x ⟨ob, oc, F, rfl, hI⟩
  have HI := Lib.hid hI
  have HBX := Lib.hid (below_of_grown HB3.out HLB.out hI.grown)
  clear hI HG3
  go_wp2_with fail
  refine bodyPost_ret (v := .tuple #[.pointer (some ⟨lb, 0, none⟩), .int .i64 0]) ?_ rfl ⟨w3, lb, ob, oc, F, rfl, HI.out, HBX.out, HLB.out⟩
  simp [results, Tryz.results79, go_sem]
end
set_option maxRecDepth 100000 in
set_option maxHeartbeats 4000000 in
theorem linePagesG_any {W : World} {lb ob : Nat} {s : RS} {seg row oc : Nat} {mi : Int} {F : Nat → FD} (hg : GoodG s.n s.bl s.pg s.sz) (hsz : s.sz ≤ 1000) (hs0 : 0 < s.sz) (hseg : seg ≤ 2000) (hrow : row ≤ 2000) (p : Nat) (hp : ((p : Nat) : Int) = ParOf s.n s.pg seg row) (h : LineG lb ob s seg row oc mi p F W) :
    Calls Tryz.prog 82 #[.pointer (some ⟨lb, 0, none⟩)] W fun e x => ∃ sv L, e = .returned sv ∧ GotP s.sz (fun j => ((F (memOf p j)).d.l, (F (memOf p j)).h)) W.heap.size (s.n - 1) sv L x ∧ Below W.heap.size W x := by
  have hn16 : s.n ≤ 16 := by have := hg.2.1; omega
  have hn3 : 3 ≤ s.n := by have := hg.1; omega
  have HME := Lib.hid fun (x : World) (k : Nat) (hk : k ≤ 1000) => member_any s.n s.bl s.pg s.sz seg row p k x hg (by omega) (by omega) (by omega) (by omega) hp hk
  have HWI := Lib.hid fun (x : World) => width_any (s.n : Int) s.bl s.pg s.sz x (by omega) (by omega)
  have HI := Lib.hid h
  have HN := Lib.hid (And.intro hn3 hn16)
  have HSZ := Lib.hid (And.intro hs0 hsz)
  have HX : Hid (∀ x : World, Below W.heap.size W x → (x.cell? ⟨lb, 0, none⟩ = some (.int .i64 (s.n : Int)) ∧ x.cell? ⟨lb, 1, none⟩ = some (.int .i64 (s.bl : Int)) ∧ x.cell? ⟨lb, 2, none⟩ = some (.int .i64 (s.pg : Int)) ∧ x.cell? ⟨lb, 3, none⟩ = some (.int .i64 (s.sz : Int)) ∧ x.cell? ⟨lb, 4, none⟩ = some (.int .i64 (seg : Int)) ∧ x.cell? ⟨lb, 5, none⟩ = some (.int .i64 (row : Int))) ∧ x.cell? ⟨lb, 6, none⟩ = some (.slice (some ⟨ob, 0, none⟩) s.n oc)) := Lib.hid fun x hx => by
    obtain ⟨c0, c1, c2, c3, c4, c5, c6, c7⟩ := eightL_at (h.step hx).box
    exact ⟨⟨c0, c1, c2, c3, c4, c5⟩, c6⟩
  clear h hp hg hs0 hsz hseg hrow
  obtain ⟨⟨c0, c1, c2, c3, c4, c5⟩, c6⟩ := HX.out W (Below.refl _ _)
  go_enter Tryz.func82, Tryz.ntmps82
  go_wp2_with fail
  ((with_reducible refine (HWI.out _).mono ?_))
  rintro e w1 ⟨rfl, hb1⟩
  have HB1 := Lib.hid hb1
  clear hb1 c0 c1 c2 c3 c4 c5 c6
  go_wp2_with fail
  go_loopw [3, 11] (fun lv iv wr => ∃ (i : Nat) (L : List SP), i + 1 ≤ s.n ∧ iv = .int .i64 (i : Int) ∧ GotP s.sz (fun j => ((F (memOf p j)).d.l, (F (memOf p j)).h)) W.heap.size i lv L wr ∧ Below W.heap.size W wr) (fun _ iv _ => (s.n - intOf iv).toNat)
  case atStart => exact ⟨0, [], by have := HN.out; omega, rfl, ⟨ownSP_nil _ _, rfl, fun j hj => absurd hj (Nat.not_lt_zero _)⟩, HB1.out⟩
  case round =>
    obtain ⟨i, L, hi, rfl, hP, hB⟩ := hrel
    have HP := Lib.hid hP
    have HB := Lib.hid hB
    clear hP hB
    by_cases hlt : i + 1 < s.n
    · have q1 : decide ((i : Int) < (s.n : Int) - 1) = true := by simp; omega
      obtain ⟨m, hm⟩ : ∃ m, m = memOf p i := ⟨_, rfl⟩
      have hmn : m < s.n := by rw [hm]; unfold memOf; split <;> omega
      have HM1 := Lib.hid fun x : World => HME.out x i (by have := HN.out; omega)
      rw [← hm] at HM1
      have HMM := Lib.hid (And.intro hm hmn)
      have hS0 := (HX.out wr.drew HB.out.drew).1
      clear hm hmn
      go_upto_region 5 with fail
      go_region_held3 (fun x => x.cell? ⟨lb, 0, none⟩ = some (.int .i64 (s.n : Int)) ∧ x.cell? ⟨lb, 1, none⟩ = some (.int .i64 (s.bl : Int)) ∧ x.cell? ⟨lb, 2, none⟩ = some (.int .i64 (s.pg : Int)) ∧ x.cell? ⟨lb, 3, none⟩ = some (.int .i64 (s.sz : Int)) ∧ x.cell? ⟨lb, 4, none⟩ = some (.int .i64 (seg : Int)) ∧ x.cell? ⟨lb, 5, none⟩ = some (.int .i64 (row : Int)))
        (first | with_reducible exact hS0 | with_reducible exact hS1 | go_keep)
        ((go_simp; go_at_call 71; ((with_reducible refine (HM1.out _).mono ?_)); (intro e w2 hr; obtain ⟨rfl, hb2⟩ := hr; have HB2 := Lib.hid (bel_trans HB.out.drew hb2); have HBr := Lib.hid ((Below.refl wr.heap.size wr).drew.trans hb2); have hS1 := (HX.out w2 HB2.out).1; clear hb2)))
      all_goals
        clear hS0 hS1
        have hI2 := HI.out.step HB2.out
        obtain ⟨f, hf⟩ : ∃ f, f = F m := ⟨_, rfl⟩
        obtain ⟨z0, z1, z2, z3, z4, z5, z6, z7, z8, z9⟩ := fd_cells hI2.on HMM.out.2 f hf
        obtain ⟨_, c6⟩ := HX.out w2 HB2.out
        obtain ⟨p5, p7⟩ := hI2.gd m HMM.out.2 (by rw [HMM.out.1]; exact memOf_ne p i)
        rw [← hf] at p5 p7
        have HFP := Lib.hid (fpage_any f.d f.o f.h f.b w2 p7 (by rw [p5]; exact HSZ.out.2))
        have HF5 := Lib.hid (And.intro hf p5)
        have i0 : (0 : Int) ≤ (m : Int) := by omega
        have i1 : (m : Int) < (s.n : Int) := by have := HMM.out.2; omega
        clear hI2 hf p5 p7
        go_wp2_with fail
        ((with_reducible refine HFP.out.mono ?_))
        rintro e w3 ⟨E, rfl, hEl, hEn, hEk, hEf, hb3⟩
        have HB3 := Lib.hid (bel_trans HB2.out hb3)
        have HG3 := HP.out.step (bel_trans HBr.out hb3)
        have HGA := Lib.hid (HG3.step (bel_alloc (Below.refl _ w3) (.cells #[.int .u8 (f.h.ki : Int), .int .u32 (f.h.ep : Int), .int .u32 (f.h.ba : Int), .int .u16 (f.h.ix : Int), .int .u16 (f.h.ct : Int), .int .u32 (f.h.bl : Int), .int .u32 (f.h.mo : Int), .slice E.a E.n E.c] 95)))
        have HEA := Lib.hid (hEk.step (bel_alloc (Below.refl _ w3) (.cells #[.int .u8 (f.h.ki : Int), .int .u32 (f.h.ep : Int), .int .u32 (f.h.ba : Int), .int .u16 (f.h.ix : Int), .int .u16 (f.h.ct : Int), .int .u32 (f.h.bl : Int), .int .u32 (f.h.mo : Int), .slice E.a E.n E.c] 95)))
        have HPA : Hid (SPat ⟨f.h, E⟩ w3.heap.size 0 (w3.alloc (.cells #[.int .u8 (f.h.ki : Int), .int .u32 (f.h.ep : Int), .int .u32 (f.h.ba : Int), .int .u16 (f.h.ix : Int), .int .u16 (f.h.ct : Int), .int .u32 (f.h.bl : Int), .int .u32 (f.h.mo : Int), .slice E.a E.n E.c] 95))) := Lib.hid (by
          obtain ⟨a0, a1, a2, a3, a4, a5, a6, a7⟩ := eight_at (heap_alloc_new w3 (.cells #[.int .u8 (f.h.ki : Int), .int .u32 (f.h.ep : Int), .int .u32 (f.h.ba : Int), .int .u16 (f.h.ix : Int), .int .u16 (f.h.ct : Int), .int .u32 (f.h.bl : Int), .int .u32 (f.h.mo : Int), .slice E.a E.n E.c] 95))
          exact ⟨a0, a1, a2, a3, a4, a5, a6, a7⟩)
        have HBA := Lib.hid (bel_alloc HB3.out (.cells #[.int .u8 (f.h.ki : Int), .int .u32 (f.h.ep : Int), .int .u32 (f.h.ba : Int), .int .u16 (f.h.ix : Int), .int .u16 (f.h.ct : Int), .int .u32 (f.h.bl : Int), .int .u32 (f.h.mo : Int), .slice E.a E.n E.c] 95))
        have HEE := Lib.hid (And.intro hEl (And.intro hEn hEf))
        clear hEl hEn hEk hEf hb3 HG3 z0 z1 z2 z3 z4 z5 z6 z7 z8 z9 c6
        go_wp2_with (at_builtin; refine wpList_appSP 84 Tryz.underlying84 info_sp rfl _ _ rfl W.heap.size _ L rfl HGA.out.1 w3.heap.size 1 ⟨f.h, E⟩ rfl HPA.out HBA.out.size (by rw [HGA.out.2.1]; have := HN.out; omega) ?_)
        intro v' w9 hap
        have hfx := ownSP_apart2 HP.out.1 (E := E) (fun x hx => Nat.le_trans HBr.out.size (HEE.out.2.2 x hx))
        have HG9 := Lib.hid (HGA.out.more HSZ.out.1 hap (by show ((F (memOf p i)).d.l, (F (memOf p i)).h) = (E.l, f.h); rw [← HMM.out.1, ← HF5.out.1, HEE.out.1]) HEA.out (by rw [HEE.out.2.1]; exact HF5.out.2) (fun x hx => Nat.le_trans HB2.out.size (HEE.out.2.2 x hx)) hfx)
        have HB9 := Lib.hid (HBA.out.trans hap.below)
        clear hap hfx
        go_wp2
        go_roundw
        case rel => exact ⟨i + 1, L ++ [⟨f.h, E⟩], by omega, by go_num, HG9.out, HB9.out⟩
        case measure => have := HN.out; simp [intOf]; omega
    · have q1 : decide ((i : Int) < (s.n : Int) - 1) = false := by simp; omega
      have hin : s.n - 1 = i := by omega
      have HIN := Lib.hid hin
      clear hin
      go_wp2_with fail
      go_ret
      exact ⟨_, L, rfl, by rw [HIN.out]; exact HP.out, HB.out⟩
set_option maxRecDepth 100000 in
theorem lineBlank_yes {V W : World} {lb ob : Nat} {s : RS} {seg row oc : Nat} {mi : Int} {F : Nat → FD} (h : LineI V lb ob s seg row oc mi s.n F W) (hn : s.n ≤ 1000) (hsz : s.sz ≤ 1000) (hF : ∀ m, m < s.n → (m : Int) ≠ mi → blankB (F m).d.l = true ∧ blankB (F m).o.l = true) :
    Calls Tryz.prog 80 #[.pointer (some ⟨lb, 0, none⟩)] W fun e w' => e = .returned (.bool true) ∧ Below W.heap.size W w' := by
  have HE := Lib.hid (every_blank h hn hsz hF)
  clear h hF
  go_enter Tryz.func80, Tryz.ntmps80
  go_wp2_with fail
  ((with_reducible refine HE.out.mono ?_))
  rintro e w1 ⟨rfl, hb⟩
  go_wp2
  go_ret
  exact ⟨rfl, hb⟩
section
variable {B : Nat} {s : RS} {w : World} {G : List PG} {P : PG} {L : List SP}
set_option maxRecDepth 100000 in
set_option maxHeartbeats 2000000 in
theorem row_blank_dead (h : Ram B s w) (hsz : s.sz ≤ 1000) (seg row : Nat) (hseg : seg + 5 < s.bl) (hrow : row < s.pg) (D : Nat) (hD : D < s.n) (hdead : s.gone D ≠ 0) (hH : ∀ m, m < s.n → m ≠ D → s.gone m = 0 ∧ s.F (m, seg, row) = none) :
    Calls Tryz.prog 62 #[.iface 51 (.pointer (some ⟨s.rb, 0, none⟩)), .int .i64 (seg : Int), .int .i64 (row : Int)] w fun e x => e = .returned (.tuple #[.slice none 0 0, .int .i64 0, .int .i64 0]) ∧ Below w.heap.size w x := by
  have hg := h.geo
  have hn16 : s.n ≤ 16 := by have := hg.2.1; omega
  have HTK := Lib.hid (stTake_dead h hsz seg row hseg hrow D (fun m hm hne => (hH m hm hne).1) hD hdead)
  have HBL := Lib.hid fun (V x : World) (lb ob oc : Nat) (F : Nat → FD) (hI : LineI V lb ob s seg row oc (D : Int) s.n F x) => lineBlank_yes hI (by omega) hsz (fun m hm hne => by
    have h1 := hI.found m hm hne
    obtain ⟨e1, e2⟩ := page_none s (m, seg, row) (hH m hm (fun e => hne (by rw [e]))).2
    rw [h1.2.2.1, h1.2.2.2.1, e1, e2]
    exact ⟨blank_rep _, blank_rep _⟩)
  clear h hg hseg hrow hH hsz hD hdead
  go_enter Tryz.func62, Tryz.ntmps62
  go_wp2_with fail
  ((with_reducible refine HTK.out.mono ?_))
  rintro e w1 ⟨V, lb, ob, oc, F, rfl, hI, hb1, hlb⟩
  have HB1 := Lib.hid hb1
  have HI1 := Lib.hid hI
  clear hb1 hI hlb HTK
  go_wp2_with fail
  ((with_reducible refine (HBL.out V w1 lb ob oc F HI1.out).mono ?_))
  rintro e w2 ⟨rfl, hb2⟩
  have HB2 := Lib.hid (bel_trans HB1.out hb2)
  clear hb2 HI1 HB1 HBL
  go_wp2_with fail
  refine bodyPost_ret (v := .tuple #[.slice none 0 0, .int .i64 0, .int .i64 0]) ?_ rfl ⟨rfl, HB2.out⟩
  simp [results, Tryz.results62, go_sem]
/-- What complete leaves of a whole stripe, where one member is dead. -/
def WholeD (lb ob oc : Nat) (s : RS) (seg row D p : Nat) (L : List SP) (W : World) (e : Ending) (x : World) : Prop :=
  ∃ F', e = .returned (.bool true) ∧ LineG lb ob s seg row oc (D : Int) p F' x ∧ (∀ j, j < s.n - 1 → ((F' (memOf p j)).d.l, (F' (memOf p j)).h) = ((L.getD j SP.nil).d.l, (L.getD j SP.nil).h)) ∧ Below lb W x
theorem complete_dead (hg : GoodG s.n s.bl s.pg s.sz) {V W : World} {lb ob oc seg row p D : Nat} {F : Nat → FD} (hI : LineI V lb ob s seg row oc (D : Int) s.n F W) (hsz : s.sz ≤ 1000) (hseg : seg ≤ 2000) (hrow : row ≤ 2000) (hp : ((p : Nat) : Int) = ParOf s.n s.pg seg row) (hpn : p < s.n) (hD : D < s.n)
    (hS : StripeB s.n p s.sz seg row L G P) (hL : LOk L s.sz) (hlen : L.length + 1 = s.n) (hH : ∀ m, m < s.n → m ≠ D → s.page (m, seg, row) = onB p G P m) :
    Calls Tryz.prog 81 #[.pointer (some ⟨lb, 0, none⟩)] W (WholeD lb ob oc s seg row D p L W) := by
  have hn3 : 3 ≤ s.n := by have := hg.1; omega
  have hlW : lb ≤ W.heap.size := Nat.le_of_lt (Array.getElem?_eq_some_iff.1 hI.box).1
  have hok : ∀ m, m < s.n → (m : Int) ≠ (D : Int) → (F m).b = true := fun m hm hne => by
    have h1 := hI.found m hm hne
    rw [h1.2.1, h1.2.2.1, h1.2.2.2.1, hH m hm (fun e => hne (by rw [e]))]
    exact decide_eq_true (any_ok hS hL hlen hpn hn3 hseg hrow hm)
  have hpage : ∀ j, j < s.n - 1 → memOf p j ≠ D → ((F (memOf p j)).d.l, (F (memOf p j)).h) = ((L.getD j SP.nil).d.l, (L.getD j SP.nil).h) := fun j hj hne => by
    have hmn : memOf p j < s.n := by unfold memOf; split <;> omega
    have h1 := hI.found (memOf p j) hmn (by omega)
    obtain ⟨d1, d2, _, _⟩ := data_at hS hL hlen hpn hmn (memOf_ne p j)
    rw [slot_mem] at d1 d2
    have f := hL.fit _ (sp_mem L j (by omega))
    rw [h1.1, h1.2.2.1, h1.2.2.2.1, hH _ hmn hne, d1, d2, openH_seal f.1 _ _ f.2]
  by_cases hDp : D = p
  · subst hDp
    refine (complete_plain hI hg hseg hrow D hp hok (.inr rfl)).mono ?_
    rintro e x ⟨rfl, hb⟩
    exact ⟨F, rfl, LineG.step ⟨hI.box, hI.on, fun m hm hne => ⟨(hI.found m hm (by omega)).2.2.2.2.1, (hI.found m hm (by omega)).2.2.2.2.2.2.1⟩⟩ hb, fun j hj => hpage j hj (memOf_ne D j), hb.mono hlW⟩
  · obtain ⟨p1, p2, _, p4, _⟩ := par_at hS hL hlen hn3 hseg hrow
    have hF' : ∀ m, m < s.n → m ≠ D → (F m).d.l = (onAt p G P m).d.l ∧ (F m).o.l = (onAt p G P m).o.l := fun m hm hne => by
      have h1 := hI.found m hm (by omega)
      rw [h1.2.2.1, h1.2.2.2.1, hH m hm hne]
      by_cases c : m = p
      · subst c
        rw [p1, p2]
        unfold onAt
        rw [if_pos rfl]
        exact ⟨rfl, rfl⟩
      · obtain ⟨c1, c2, c3, c4⟩ := data_at hS hL hlen hpn hm c
        rw [c1, c2, c3, c4]
        exact ⟨rfl, rfl⟩
    have hr := remade (mi := D) hS.len hpn hD hDp hF' (stripe_sealed hS hL hlen) hS.pd hS.po
    have hki : (takeH (F p).o.l).ki = 5 := by
      have h1 := hI.found p hpn (by omega)
      rw [h1.2.2.2.1, hH p hpn (fun e => hDp e.symm), p2, p4]; rfl
    refine (complete_back hI hg hsz hseg hrow p hpn hp hok hD hDp hki hr.2.2).mono ?_
    rintro e x ⟨f, rfl, hbx, hon, f1, f2, f3, f4, f5, f6⟩
    obtain ⟨d1, d2, d3, d4⟩ := data_at hS hL hlen hpn hD hDp
    rw [hr.1, d3] at f1
    rw [hr.2.1, d4] at f2
    have hsl : slotOf p D < L.length := by have := slot_lt hpn hD hDp; omega
    have fit := hL.fit _ (sp_mem L _ hsl)
    have hlo := hI.lo
    refine ⟨fdSet F D f, rfl, ⟨hbx, hon, fun m hm hne => ?_⟩, fun j hj => ?_, (Below.refl lb W).grown f6 hlW fun k e => by cases e; omega⟩
    · by_cases c : m = D
      · subst c
        unfold fdSet
        rw [if_pos rfl]
        refine ⟨?_, f5⟩
        rw [← f5.1.1, f1]
        exact hL.len _ (sp_mem L _ hsl)
      · unfold fdSet
        rw [if_neg c]
        have h1 := hI.found m hm (by omega)
        refine ⟨h1.2.2.2.2.1, h1.2.2.2.2.2.2.1.at_ fun h0 a ha => ?_⟩
        have h2 := h1.2.2.2.2.2.2.2.2.1 a ha
        exact f6.block _ (h1.2.2.2.2.2.2.1.lt h0 a ha) (fun e => by have := Option.some.inj e; omega)
    · by_cases c : memOf p j = D
      · unfold fdSet
        rw [c, if_pos rfl, f3, f1, f2]
        have e : slotOf p D = j := by rw [← c]; exact slot_mem p j
        rw [e] at fit ⊢
        rw [openH_seal fit.1 _ _ fit.2]
      · unfold fdSet
        rw [if_neg c]
        exact hpage j hj c
set_option maxRecDepth 100000 in
set_option maxHeartbeats 2000000 in
theorem row_whole_dead (h : Ram B s w) (hsz : s.sz ≤ 1000) (hs0 : 0 < s.sz) (seg row p : Nat) (hseg : seg + 5 < s.bl) (hrow : row < s.pg) (hp : ((p : Nat) : Int) = ParOf s.n s.pg seg row) (hpn : p < s.n) (D : Nat) (hD : D < s.n) (hdead : s.gone D ≠ 0)
    (hS : StripeB s.n p s.sz seg row L G P) (hL : LOk L s.sz) (hlen : L.length + 1 = s.n) (hH : ∀ m, m < s.n → m ≠ D → s.gone m = 0 ∧ s.page (m, seg, row) = onB p G P m) :
    Calls Tryz.prog 62 #[.iface 51 (.pointer (some ⟨s.rb, 0, none⟩)), .int .i64 (seg : Int), .int .i64 (row : Int)] w (RowWRet s L w) := by
  have hg := h.geo
  have hn3 : 3 ≤ s.n := by have := hg.1; omega
  have hn16 : s.n ≤ 16 := by have := hg.2.1; omega
  have hbl : s.bl ≤ 64 := by have := hg.2.2.2.1; omega
  have hpg : s.pg ≤ 32 := by have := hg.2.2.2.2.2.1; omega
  obtain ⟨j, hj, hjD⟩ : ∃ j, j < s.n ∧ j ≠ D := by
    rcases Nat.eq_zero_or_pos D with c | c
    · exact ⟨1, by omega, by omega⟩
    · exact ⟨0, by omega, by omega⟩
  have HTK := Lib.hid (stTake_dead h hsz seg row hseg hrow D (fun m hm hne => (hH m hm hne).1) hD hdead)
  have HBL := Lib.hid fun (V x : World) (lb ob oc : Nat) (F : Nat → FD) (hI : LineI V lb ob s seg row oc (D : Int) s.n F x) => lineBlank_no hI (by omega) hsz j hj (by omega) (by
    have h1 := hI.found j hj (by omega)
    rw [h1.2.2.2.1, (hH j hj hjD).2, open_marked (any_ok hS hL hlen hpn hn3 (by omega) (by omega) hj), Bool.and_false])
  have HCP := Lib.hid fun (V x : World) (lb ob oc : Nat) (F : Nat → FD) (hI : LineI V lb ob s seg row oc (D : Int) s.n F x) => complete_dead hg hI hsz (by omega) (by omega) hp hpn hD hS hL hlen fun m hm hne => (hH m hm hne).2
  have HPA := Lib.hid fun (x : World) (lb ob oc : Nat) (F : Nat → FD) (hI : LineG lb ob s seg row oc (D : Int) p F x) => linePagesG_any hg hsz hs0 (by omega) (by omega) p hp hI
  clear h hg hseg hrow hp hpn hS hL hlen hH hsz hs0 hD hdead
  go_enter Tryz.func62, Tryz.ntmps62
  go_wp2_with fail
  ((with_reducible refine HTK.out.mono ?_))
  rintro e w1 ⟨V, lb, ob, oc, F, rfl, hI, hb1, hlb⟩
  have HB1 := Lib.hid hb1
  have HI1 := Lib.hid hI
  have HLB := Lib.hid hlb
  clear hb1 hI hlb HTK
  go_wp2_with fail
  ((with_reducible refine (HBL.out V w1 lb ob oc F HI1.out).mono ?_))
  rintro e w2 ⟨rfl, hb2⟩
  have HI2 := Lib.hid (HI1.out.step hb2)
  have HB2 := Lib.hid (bel_trans HB1.out hb2)
  clear hb2 HI1 HB1 HBL
  go_wp2_with fail
  ((with_reducible refine (HCP.out V w2 lb ob oc F HI2.out).mono ?_))
  rintro e w3 ⟨F', rfl, hG3, hF3, hb3⟩
  have HG3 := Lib.hid hG3
  have HF3 := Lib.hid hF3
  have HB3 := Lib.hid (HB2.out.trans (hb3.mono HLB.out))
  clear hb3 hG3 hF3 HI2 HB2 HCP
  go_wp2_with fail
  ((with_reducible refine (HPA.out w3 lb ob oc F' HG3.out).mono ?_))
  rintro e w4 ⟨sv, Lr, rfl, hG, hb4⟩
  have HG4 := Lib.hid ((hG.mono HB3.out.size).congr HF3.out)
  have HB4 := Lib.hid (bel_trans HB3.out hb4)
  clear hG hb4 HG3 HB3 HPA
  go_wp2_with fail
  refine bodyPost_ret (v := .tuple #[sv, .int .i64 2, .int .i64 0]) ?_ rfl ⟨sv, Lr, rfl, HG4.out, HB4.out⟩
  simp [results, Tryz.results62, go_sem]
end
end Go.Proofs.YthgcjiocelcblaaGreat

namespace Go.Proofs.YthgcjiocelcblaaGreat
open Go.RowKit Go.Deep

/-- All members are there, but one perhaps. -/
def Alive (s : RS) : Prop := (∀ m, s.gone m = 0) ∨ ∃ D, D < s.n ∧ s.gone D ≠ 0 ∧ ∀ m, m ≠ D → s.gone m = 0
theorem RdW.toG {w : World} {f : Bool} {sq ba : Nat} {ml el : List Nat} {sz : Nat} {sv : Value} {L : List SP} {x : World} (h : RdW w f sq ba ml el sz sv L x) (hsz : 0 < sz) (hsz2 : sz ≤ 1000) : RdG w f sq ba ml el sq sq sv L x := by
  refine ⟨h.own, h.bel, h.len, h.ep, ?_, fun a c he y hy => h.join hsz hsz2 a c he y hy⟩
  cases f with
  | true => rw [if_neg (by have := h.pos rfl; omega)]
  | false => obtain ⟨-, h1, -⟩ := h.non rfl; rw [h1]; simp
theorem readAny {B : Nat} {s : RS} {w : World} (h : Ram B s w) (ha : Alive s) (which : Nat) (hw : which < 2) {x : PtD} (hS : PtD.In s (2 + which) x) (hsz : s.sz ≤ 1000) :
    Calls Tryz.prog 23 #[.iface 51 (.pointer (some ⟨s.rb, 0, none⟩)), .int .i64 (which : Int)] w (RdIs x.f x.q x.b x.m x.e x.q w) := by
  rcases ha with hl | ⟨D, hD, hd, hl⟩
  · exact ptRead_any h which hw hS hl hsz
  · have hg := h.geo
    have hn3 : 3 ≤ s.n := by have := hg.1; omega
    have hn16 : s.n ≤ 16 := by have := hg.2.1; omega
    have hbl : 16 ≤ s.bl := by have := hg.2.2.1; omega
    have hpg : s.pg ≤ 32 := by have := hg.2.2.2.2.2.1; omega
    have hsz0 : 256 ≤ s.sz := by have := hg.2.2.2.2.2.2.1; omega
    obtain ⟨R, C, hR, hSI, hGot⟩ := segPt_R hS hn3
    refine ptReadG_any s.rb which hw (top := x.q) (tp := x.q) fun W1 hW1 => ?_
    have h1 := h.step hW1
    have hh := ptRowsG_any h1 (2 + which) R C (by omega) hR hsz (fun k => k < R) (fun r hr => hr) (fun _ hc => Nat.lt_irrefl _ hc)
      (fun W k hW hk hc => by
        obtain ⟨p, Lk, Gk, Pk, r1, r2, r3, r4, r5, r6, r7⟩ := hSI.1 k hc
        refine (row_whole_dead (h1.step hW) hsz (by omega) (2 + which) k p (by omega) hk r1 r2 D hD hd r3 r4 r5 fun m hm hne => ⟨hl m hne, r7 m hm (hl m hne)⟩).mono ?_
        rintro e y ⟨sv, Lr, rfl, hG, hb⟩
        exact ⟨sv, Lr, rfl, hG.congr fun j hj => by rw [(r6 j (by omega)).1, (r6 j (by omega)).2], hb⟩)
      (fun W k hW hk hc => ⟨0, rfl, row_blank_dead (h1.step hW) hsz (2 + which) k (by omega) hk D hD hd fun m hm hne => ⟨hl m hne, hSI.2 k (Nat.le_of_not_lt hc) hk m hm⟩⟩)
    rw [show ((2 + which : Nat) : Int) = 2 + (which : Int) by omega] at hh
    refine hh.mono fun e y hy => ?_
    obtain ⟨sv, L, he, hr⟩ := hGot W1 e y hn16 hpg (by omega) hy
    exact ⟨sv, L, he, hr.toG (by omega) hsz⟩
theorem lastAny {B : Nat} {s : RS} {w : World} (h : Ram B s w) (ha : Alive s) (X : Nat → PtD) (h0 : PtD.In s 2 (X 0)) (h1 : PtD.In s 3 (X 1)) (t0 : (X 0).top = (X 0).q) (t1 : (X 1).top = (X 1).q) (hsz : s.sz ≤ 1000) :
    Calls Tryz.prog 22 #[.iface 51 (.pointer (some ⟨s.rb, 0, none⟩))] w (RdIs (PtD.foldT X 2).f (PtD.foldT X 2).q (PtD.foldT X 2).b (PtD.foldT X 2).m (PtD.foldT X 2).e (PtD.foldT X 2).top w) := by
  refine ptLastG_any s.rb X w fun k x hk hx => ?_
  rcases (show k = 0 ∨ k = 1 by omega) with rfl | rfl
  · rw [t0]; exact readAny (h.step hx) ha 0 (by omega) h0 hsz
  · rw [t1]; exact readAny (h.step hx) ha 1 (by omega) h1 hsz
theorem SegIs.kill {s : RS} {seg R : Nat} {C : Nat → RH × List Nat} (h : SegIs s seg R C) (hl : ∀ m, s.gone m = 0) (D : Nat) : SegIs (s.kill D) seg R C := by
  refine ⟨fun r hr => ?_, fun r hr hp m hm => h.2 r hr hp m hm⟩
  obtain ⟨p, Lk, Gk, Pk, r1, r2, r3, r4, r5, r6, r7⟩ := h.1 r hr
  exact ⟨p, Lk, Gk, Pk, r1, r2, r3, r4, r5, r6, fun m hm _ => r7 m hm (hl m)⟩
theorem PtD.In.kill {s : RS} {seg : Nat} {x : PtD} (h : PtD.In s seg x) (hl : ∀ m, s.gone m = 0) (D : Nat) : PtD.In (s.kill D) seg x := by
  unfold PtD.In SegPt at *
  rcases h with ⟨a, b, c, d⟩ | ⟨a, b, c, d, e, f⟩
  · exact .inl ⟨a, b, c, d.kill hl D⟩
  · exact .inr ⟨a, b, c, d, e, f.kill hl D⟩
theorem alive_kill {s : RS} (hl : ∀ m, s.gone m = 0) (D : Nat) (hD : D < s.n) : Alive (s.kill D) :=
  .inr ⟨D, hD, by show (if D = D then 1 else s.gone D) ≠ 0; simp, fun m hm => by show (if m = D then 1 else s.gone m) = 0; rw [if_neg hm]; exact hl m⟩
/-- What stands in the two segments, and which is the last one. -/
def LastX (X : Nat → PtD) (x : PtD) : Prop :=
  (x = PtD.zero ∧ X 0 = PtD.zero ∧ X 1 = PtD.zero) ∨
  (x.f = true ∧ x.top = x.q ∧ X (x.q % 2) = x ∧ (X (1 - x.q % 2) = PtD.zero ∨ ((X (1 - x.q % 2)).f = true ∧ (X (1 - x.q % 2)).q < x.q ∧ (X (1 - x.q % 2)).top = (X (1 - x.q % 2)).q)))
theorem LastX.fold {X : Nat → PtD} {x : PtD} (h : LastX X x) : PtD.foldT X 2 = x := by
  rcases h with ⟨rfl, h0, h1⟩ | ⟨hf, ht, hx, ho⟩
  · simp [PtD.foldT, h0, h1, PtD.stepT, PtD.zero]
  · obtain ⟨f, q, b, m, e, t⟩ := x
    simp only at hf ht hx ho
    subst hf ht
    rcases Nat.mod_two_eq_zero_or_one t with c | c
    · rw [c] at hx ho
      obtain ⟨y, hy⟩ : ∃ y, y = X 1 := ⟨_, rfl⟩
      rw [show (1 : Nat) - 0 = 1 from rfl, ← hy] at ho
      obtain ⟨f', q', b', m', e', t'⟩ := y
      rcases ho with ho | ⟨h1, h2, h3⟩
      · rw [PtD.zero, PtD.mk.injEq] at ho
        obtain ⟨rfl, rfl, rfl, rfl, rfl, rfl⟩ := ho
        simp [PtD.foldT, hx, ← hy, PtD.stepT, PtD.zero]
      · simp only at h1 h2 h3
        subst h1 h3
        have h4 : ¬ t < t' := by omega
        have h5 : max t t' = t := by omega
        simp [PtD.foldT, hx, ← hy, PtD.stepT, PtD.zero, h4, h5]
    · rw [c] at hx ho
      obtain ⟨y, hy⟩ : ∃ y, y = X 0 := ⟨_, rfl⟩
      rw [show (1 : Nat) - 1 = 0 from rfl, ← hy] at ho
      obtain ⟨f', q', b', m', e', t'⟩ := y
      rcases ho with ho | ⟨h1, h2, h3⟩
      · rw [PtD.zero, PtD.mk.injEq] at ho
        obtain ⟨rfl, rfl, rfl, rfl, rfl, rfl⟩ := ho
        simp [PtD.foldT, hx, ← hy, PtD.stepT, PtD.zero]
      · simp only at h1 h2 h3
        subst h1 h3
        have h5 : max t' t = t := by omega
        simp [PtD.foldT, hx, ← hy, PtD.stepT, PtD.zero, h2, h5]
theorem LastX.tops {X : Nat → PtD} {x : PtD} (h : LastX X x) : (X 0).top = (X 0).q ∧ (X 1).top = (X 1).q := by
  rcases h with ⟨rfl, h0, h1⟩ | ⟨hf, ht, hx, ho⟩
  · rw [h0, h1]; exact ⟨rfl, rfl⟩
  · rcases Nat.mod_two_eq_zero_or_one x.q with c | c
    · rw [c] at hx ho
      refine ⟨by rw [hx]; exact ht, ?_⟩
      rcases ho with ho | ⟨_, _, h3⟩
      · rw [show X 1 = PtD.zero from ho]; rfl
      · exact h3
    · rw [c] at hx ho
      refine ⟨?_, by rw [hx]; exact ht⟩
      rcases ho with ho | ⟨_, _, h3⟩
      · rw [show X 0 = PtD.zero from ho]; rfl
      · exact h3
/-- One more point, with a greater number, in the other segment. -/
theorem LastX.more {X : Nat → PtD} {x : PtD} (h : LastX X x) (q b : Nat) (m e : List Nat) (hq : x.q < q) (hpar : q % 2 = (x.q + 1) % 2) : LastX (setX X (q % 2) ⟨true, q, b, m, e, q⟩) ⟨true, q, b, m, e, q⟩ := by
  refine .inr ⟨rfl, rfl, by simp [setX], ?_⟩
  show setX X (q % 2) _ (1 - q % 2) = PtD.zero ∨ ((setX X (q % 2) ⟨true, q, b, m, e, q⟩ (1 - q % 2)).f = true ∧ (setX X (q % 2) ⟨true, q, b, m, e, q⟩ (1 - q % 2)).q < q ∧ (setX X (q % 2) ⟨true, q, b, m, e, q⟩ (1 - q % 2)).top = (setX X (q % 2) ⟨true, q, b, m, e, q⟩ (1 - q % 2)).q)
  have e1 : setX X (q % 2) ⟨true, q, b, m, e, q⟩ (1 - q % 2) = X (1 - q % 2) := by unfold setX; rw [if_neg (by omega)]
  rw [e1]
  rcases h with ⟨rfl, h0, h1⟩ | ⟨hf, ht, hx, ho⟩
  · refine .inl ?_
    have hc : q % 2 = 1 := by rw [hpar]; rfl
    rw [hc]
    exact h0
  · have e2 : 1 - q % 2 = x.q % 2 := by omega
    rw [e2, hx]
    exact .inr ⟨hf, hq, ht⟩
end Go.Proofs.YthgcjiocelcblaaGreat
