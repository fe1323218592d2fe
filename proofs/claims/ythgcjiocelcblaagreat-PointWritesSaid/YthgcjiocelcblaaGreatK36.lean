/- stripe.take: a stripe as all members have it, nobody dead. -/
import Derived.Test.YthgcjiocelcblaaGreatK29
import Derived.Test.YthgcjiocelcblaaGreatK30
import Derived.Test.YthgcjiocelcblaaGreatK31
import Derived.Test.YthgcjiocelcblaaGreatK35
namespace Go.Proofs.YthgcjiocelcblaaGreat
open Go.RowKit Go.Deep

def TakeRet (s : RS) (seg row : Nat) (w : World) (e : Ending) (x : World) : Prop :=
  ∃ V lb ob oc F, e = .returned (.tuple #[.pointer (some ⟨lb, 0, none⟩), .int .i64 0]) ∧ LineI V lb ob s seg row oc (-1) s.n F x ∧ Below w.heap.size w x ∧ w.heap.size ≤ lb
section
variable {B : Nat} {s : RS} {w : World}
set_option maxRecDepth 100000 in
set_option maxHeartbeats 2000000 in
theorem stTake_any (h : Ram B s w) (hsz : s.sz ≤ 1000) (seg row : Nat) (hseg : seg + 5 < s.bl) (hrow : row < s.pg) (hlive : ∀ m, m < s.n → s.gone m = 0) :
    Calls Tryz.prog 79 #[.iface 51 (.pointer (some ⟨s.rb, 0, none⟩)), .int .i64 (seg : Int), .int .i64 (row : Int)] w (TakeRet s seg row w) := by
  have hg := h.geo
  have hn3 : 3 ≤ s.n := by have := hg.1; omega
  have hbl : s.bl ≤ 64 := by have := hg.2.2.2.1; omega
  have hpg : s.pg ≤ 32 := by have := hg.2.2.2.2.2.1; omega
  have HSH := Lib.hid fun (x : World) (hx : Below w.heap.size w x) => shape_ok (h.step hx) (seg : Int) (row : Int) 0 (by omega) (by omega) (by omega)
  have HGA := Lib.hid fun (W : World) (hW : Below w.heap.size w W) (lb : Nat) (hlb : w.heap.size ≤ lb) (hbox : LineBox lb s seg row (.slice none 0 0) (-1) W) => gather_any h hsz W hW lb seg row hlb hseg hrow (-1) none 0 0 hbox (fun j hj _ => hlive j hj) ⟨by omega, by omega⟩
  clear hg hlive h hseg hrow
  go_enter Tryz.func79, Tryz.ntmps79
  go_wp2_with fail
  ((with_reducible refine (HSH.out _ (Below.refl _ _)).mono ?_))
  rintro e w1 ⟨rfl, hb1⟩
  have hbx := heap_alloc_new w1 (.cells #[.int .i64 (s.n : Int), .int .i64 (s.bl : Int), .int .i64 (s.pg : Int), .int .i64 (s.sz : Int)] 49)
  have hb2 := bel_alloc hb1 (.cells #[.int .i64 (s.n : Int), .int .i64 (s.bl : Int), .int .i64 (s.pg : Int), .int .i64 (s.sz : Int)] 49)
  go_upto_region 2 with fail
  obtain ⟨gb, hgb⟩ : ∃ x, x = w1.heap.size := ⟨_, rfl⟩
  obtain ⟨w2, hw2⟩ : ∃ x, x = w1.alloc (.cells #[.int .i64 (s.n : Int), .int .i64 (s.bl : Int), .int .i64 (s.pg : Int), .int .i64 (s.sz : Int)] 49) := ⟨_, rfl⟩
  rw [← hw2, ← hgb] at hbx
  rw [← hw2] at hb2
  rw [← hw2, ← hgb]
  obtain ⟨g0, g1, g2, g3⟩ := four_at hbx
  have HB2 := Lib.hid hb2
  clear hb1 hb2 hw2 hbx hgb
  go_upto_region 5 with fail
  have hlx := heap_alloc_new w2 (.cells #[.int .i64 (s.n : Int), .int .i64 (s.bl : Int), .int .i64 (s.pg : Int), .int .i64 (s.sz : Int), .int .i64 (seg : Int), .int .i64 (row : Int), .slice none 0 0, .int .i64 (-1)] 180)
  have hb3 := bel_alloc HB2.out (.cells #[.int .i64 (s.n : Int), .int .i64 (s.bl : Int), .int .i64 (s.pg : Int), .int .i64 (s.sz : Int), .int .i64 (seg : Int), .int .i64 (row : Int), .slice none 0 0, .int .i64 (-1)] 180)
  obtain ⟨lb, hlb⟩ : ∃ x, x = w2.heap.size := ⟨_, rfl⟩
  obtain ⟨w3, hw3⟩ : ∃ x, x = w2.alloc (.cells #[.int .i64 (s.n : Int), .int .i64 (s.bl : Int), .int .i64 (s.pg : Int), .int .i64 (s.sz : Int), .int .i64 (seg : Int), .int .i64 (row : Int), .slice none 0 0, .int .i64 (-1)] 180) := ⟨_, rfl⟩
  rw [← hw3, ← hlb] at hlx
  rw [← hw3] at hb3
  rw [← hw3, ← hlb]
  have HLB : Hid (w.heap.size ≤ lb) := Lib.hid (by rw [hlb]; exact HB2.out.size)
  have HB3 := Lib.hid hb3
  have HG3 := Lib.hid (HGA.out w3 hb3 lb HLB.out hlx)
  clear g0 g1 g2 g3 hb3 hw3 hlb hlx HGA
  go_wp2_with fail
  ((with_reducible refine HG3.out.mono ?_))
  rintro e x ⟨ob, oc, F, rfl, hI⟩
  have HI := Lib.hid hI
  have HBX := Lib.hid (below_of_grown HB3.out HLB.out hI.grown)
  clear hI HG3
  go_wp2_with fail
  refine bodyPost_ret (v := .tuple #[.pointer (some ⟨lb, 0, none⟩), .int .i64 0]) ?_ rfl ⟨w3, lb, ob, oc, F, rfl, HI.out, HBX.out, HLB.out⟩
  simp [results, Tryz.results79, go_sem]
end
end Go.Proofs.YthgcjiocelcblaaGreat

namespace Go.Proofs.YthgcjiocelcblaaGreat
open Go.RowKit Go.Deep

set_option maxRecDepth 100000 in
theorem blank1_any (f : FD) (w : World) (hd : PartOk w f.d) (ho : PartOk w f.o) (h1 : f.d.n ≤ 1000) (h2 : f.o.n ≤ 1000) : Calls Tryz.prog 99 #[.agg #[.slice f.d.a f.d.n f.d.c, .slice f.o.a f.o.n f.o.c, .int .u8 (f.h.ki : Int), .int .u32 (f.h.ep : Int), .int .u32 (f.h.ba : Int), .int .u16 (f.h.ix : Int), .int .u16 (f.h.ct : Int), .int .u32 (f.h.bl : Int), .int .u32 (f.h.mo : Int), .bool f.b]] w fun e w' => e = .returned (.bool (blankB f.d.l && blankB f.o.l)) ∧ Below w.heap.size w w' := by
  have HB : Hid (∀ x : World, Below w.heap.size w x → Calls Tryz.prog 100 #[.slice f.d.a f.d.n f.d.c, .slice f.o.a f.o.n f.o.c] x fun e w' => e = .returned (.bool (blankB f.d.l && blankB f.o.l)) ∧ w' = x) := Lib.hid fun x hx =>
    Blank_any _ _ _ f.d.l _ _ _ f.o.l x (hd.keep hx (Nat.le_refl _)).1 (by omega) (ho.keep hx (Nat.le_refl _)).1 (by omega)
  clear hd ho
  go_enter Tryz.func99, Tryz.ntmps99
  go_wp2_with fail
  ((with_reducible refine (HB.out _ (bel_alloc (Below.refl _ w) _)).mono ?_))
  rintro e w1 ⟨rfl, rfl⟩
  go_wp2
  go_ret
  exact ⟨rfl, bel_alloc (Below.refl _ _) _⟩
set_option maxRecDepth 100000 in
set_option maxHeartbeats 1000000 in
theorem every_blank {V W : World} {lb ob : Nat} {s : RS} {seg row oc : Nat} {mi : Int} {F : Nat → FD} (h : LineI V lb ob s seg row oc mi s.n F W) (hn : s.n ≤ 1000) (hsz : s.sz ≤ 1000) (hF : ∀ m, m < s.n → (m : Int) ≠ mi → blankB (F m).d.l = true ∧ blankB (F m).o.l = true) :
    Calls Tryz.prog 98 #[.pointer (some ⟨lb, 0, none⟩), .func (.func 99) #[] #[]] W fun e w' => e = .returned (.bool true) ∧ Below W.heap.size W w' := by
  have HI := Lib.hid h
  have HF := Lib.hid hF
  have HSZ := Lib.hid hsz
  obtain ⟨c0, c1, c2, c3, c4, c5, c6, c7⟩ := eightL_at h.box
  clear h hF hsz
  go_enter Tryz.func98, Tryz.ntmps98
  go_wp2_with fail
  clear c0 c1 c2 c3 c4 c5 c6 c7
  go_loopw [12] (fun iv wr => ∃ k : Nat, k ≤ s.n ∧ iv = .int .i64 (k : Int) ∧ Below W.heap.size W wr) (fun iv _ => (s.n - intOf iv).toNat)
  case atStart => exact ⟨0, Nat.zero_le _, rfl, Below.refl _ _⟩
  case round =>
    obtain ⟨k, hk, rfl, hb⟩ := hrel
    have HB := Lib.hid hb
    have hI := HI.out.step hb
    by_cases hlt : k < s.n
    · have q1 : decide (k < s.n) = true := by simpa using hlt
      obtain ⟨f, hf⟩ : ∃ f, f = F k := ⟨_, rfl⟩
      obtain ⟨z0, z1, z2, z3, z4, z5, z6, z7, z8, z9⟩ := fd_cells hI.on hlt f hf
      obtain ⟨c0, c1, c2, c3, c4, c5, c6, c7⟩ := eightL_at hI.box
      have hlw := (Array.getElem?_eq_some_iff.1 hI.box).1
      have i0 : (0 : Int) ≤ (k : Int) := by omega
      have i1 : (k : Int) < (s.n : Int) := by omega
      have HFB : Hid ((k : Int) ≠ mi → ∀ x : World, Below wr.heap.size wr x → Calls Tryz.prog 99 #[.agg #[.slice f.d.a f.d.n f.d.c, .slice f.o.a f.o.n f.o.c, .int .u8 (f.h.ki : Int), .int .u32 (f.h.ep : Int), .int .u32 (f.h.ba : Int), .int .u16 (f.h.ix : Int), .int .u16 (f.h.ct : Int), .int .u32 (f.h.bl : Int), .int .u32 (f.h.mo : Int), .bool f.b]] x fun e w' => e = .returned (.bool true) ∧ Below x.heap.size x w') := Lib.hid fun hne x hx => by
        obtain ⟨_, _, _, _, p5, p6, p7, p8, _, _⟩ := hI.found k hlt hne
        have hb := blank1_any (F k) x (p7.keep hx (Nat.le_refl _)) (p8.keep hx (Nat.le_refl _)) (by rw [p5]; exact HSZ.out) (by rw [p6]; omega)
        rw [(HF.out k hlt hne).1, (HF.out k hlt hne).2] at hb
        rw [hf]
        exact hb
      clear hb hI hf c0 c1 c2 c3 c4 c5 c6
      by_cases hkm : (k : Int) = mi
      · have q2 : ((k : Int) != mi) = false := by simpa using hkm
        clear hkm HFB
        go_wp2
        go_roundw
        case rel => exact ⟨k + 1, by omega, by go_num, bel_alloc HB.out _⟩
        case measure => simp [intOf]; omega
      · have q2 : ((k : Int) != mi) = true := by simpa using hkm
        have HS1 := Lib.hid (HFB.out hkm)
        clear hkm HFB
        go_wp2_with fail
        ((with_reducible refine (HS1.out _ (bel_alloc (Below.refl _ wr) _)).mono ?_))
        rintro e w2 ⟨rfl, hb2⟩
        have HB2 := Lib.hid (bel_trans (bel_alloc HB.out _) hb2)
        clear hb2 z0 z1 z2 z3 z4 z5 z6 z7 z8 z9 c7
        go_wp2
        go_roundw
        case rel => exact ⟨k + 1, by omega, by go_num, HB2.out⟩
        case measure => simp [intOf]; omega
    · have q1 : decide (k < s.n) = false := by simpa using hlt
      clear hb hI
      go_wp2
      go_ret
      exact ⟨rfl, HB.out⟩
set_option maxRecDepth 100000 in
set_option maxHeartbeats 1000000 in
theorem every_blank_no {V W : World} {lb ob : Nat} {s : RS} {seg row oc : Nat} {F : Nat → FD} (h : LineI V lb ob s seg row oc (-1) s.n F W) (hn : s.n ≤ 1000) (h0 : 0 < s.n) (hsz : s.sz ≤ 1000) (hF : (blankB (F 0).d.l && blankB (F 0).o.l) = false) :
    Calls Tryz.prog 98 #[.pointer (some ⟨lb, 0, none⟩), .func (.func 99) #[] #[]] W fun e w' => e = .returned (.bool false) ∧ Below W.heap.size W w' := by
  obtain ⟨f, hf⟩ : ∃ f, f = F 0 := ⟨_, rfl⟩
  have HS1 : Hid (∀ x : World, Below W.heap.size W x → Calls Tryz.prog 99 #[.agg #[.slice f.d.a f.d.n f.d.c, .slice f.o.a f.o.n f.o.c, .int .u8 (f.h.ki : Int), .int .u32 (f.h.ep : Int), .int .u32 (f.h.ba : Int), .int .u16 (f.h.ix : Int), .int .u16 (f.h.ct : Int), .int .u32 (f.h.bl : Int), .int .u32 (f.h.mo : Int), .bool f.b]] x fun e w' => e = .returned (.bool false) ∧ Below x.heap.size x w') := Lib.hid fun x hx => by
    obtain ⟨_, _, _, _, p5, p6, p7, p8, _, _⟩ := h.found 0 h0 (by decide)
    have hb := blank1_any (F 0) x (p7.keep hx (Nat.le_refl _)) (p8.keep hx (Nat.le_refl _)) (by rw [p5]; exact hsz) (by rw [p6]; omega)
    rw [hF] at hb
    rw [hf]
    exact hb
  obtain ⟨c0, c1, c2, c3, c4, c5, c6, c7⟩ := eightL_at h.box
  obtain ⟨z0, z1, z2, z3, z4, z5, z6, z7, z8, z9⟩ := fd_cells h.on h0 f hf
  have hlw := (Array.getElem?_eq_some_iff.1 h.box).1
  clear h hf hF hsz
  go_enter Tryz.func98, Tryz.ntmps98
  go_wp2_with fail
  go_loopw [12] (fun iv wr => iv = .int .i64 0 ∧ wr = W) (fun iv _ => (s.n - intOf iv).toNat)
  case atStart => exact ⟨rfl, rfl⟩
  case round =>
    obtain ⟨rfl, rfl⟩ := hrel
    have q1 : decide (0 < s.n) = true := by simpa using h0
    have q1' : decide ((0 : Int) < (s.n : Int)) = true := by simp; omega
    have i1 : (0 : Int) < (s.n : Int) := by omega
    go_wp2_with fail
    ((with_reducible refine (HS1.out _ (bel_alloc (Below.refl _ _) _)).mono ?_))
    rintro e w2 ⟨rfl, hb2⟩
    have HB2 := Lib.hid (bel_trans (bel_alloc (Below.refl _ _) _) hb2)
    clear hb2 z0 z1 z2 z3 z4 z5 z6 z7 z8 z9
    go_wp2_with fail
    go_ret
    exact ⟨rfl, HB2.out⟩
set_option maxRecDepth 100000 in
set_option maxHeartbeats 1000000 in
theorem every_sealed_no {V W : World} {lb ob : Nat} {s : RS} {seg row oc : Nat} {F : Nat → FD} (h : LineI V lb ob s seg row oc (-1) s.n F W) (hn : s.n ≤ 1000) (h0 : 0 < s.n) (hF : (F 0).b = false) :
    Calls Tryz.prog 98 #[.pointer (some ⟨lb, 0, none⟩), .func (.func 101) #[] #[]] W fun e w' => e = .returned (.bool false) ∧ Below W.heap.size W w' := by
  obtain ⟨f, hf⟩ : ∃ f, f = F 0 := ⟨_, rfl⟩
  have HS1 : Hid (∀ x : World, Below W.heap.size W x → Calls Tryz.prog 101 #[.agg #[.slice f.d.a f.d.n f.d.c, .slice f.o.a f.o.n f.o.c, .int .u8 (f.h.ki : Int), .int .u32 (f.h.ep : Int), .int .u32 (f.h.ba : Int), .int .u16 (f.h.ix : Int), .int .u16 (f.h.ct : Int), .int .u32 (f.h.bl : Int), .int .u32 (f.h.mo : Int), .bool f.b]] x fun e w' => e = .returned (.bool false) ∧ Below x.heap.size x w') := Lib.hid fun x _ => by
    have hb := sealed1_any f x
    have e : f.b = false := by rw [hf]; exact hF
    rw [e] at hb ⊢
    exact hb
  obtain ⟨c0, c1, c2, c3, c4, c5, c6, c7⟩ := eightL_at h.box
  obtain ⟨z0, z1, z2, z3, z4, z5, z6, z7, z8, z9⟩ := fd_cells h.on h0 f hf
  have hlw := (Array.getElem?_eq_some_iff.1 h.box).1
  clear h hf hF
  go_enter Tryz.func98, Tryz.ntmps98
  go_wp2_with fail
  go_loopw [12] (fun iv wr => iv = .int .i64 0 ∧ wr = W) (fun iv _ => (s.n - intOf iv).toNat)
  case atStart => exact ⟨rfl, rfl⟩
  case round =>
    obtain ⟨rfl, rfl⟩ := hrel
    have q1 : decide (0 < s.n) = true := by simpa using h0
    have q1' : decide ((0 : Int) < (s.n : Int)) = true := by simp; omega
    have i1 : (0 : Int) < (s.n : Int) := by omega
    go_wp2_with fail
    ((with_reducible refine (HS1.out _ (bel_alloc (Below.refl _ _) _)).mono ?_))
    rintro e w2 ⟨rfl, hb2⟩
    have HB2 := Lib.hid (bel_trans (bel_alloc (Below.refl _ _) _) hb2)
    clear hb2 z0 z1 z2 z3 z4 z5 z6 z7 z8 z9
    go_wp2_with fail
    go_ret
    exact ⟨rfl, HB2.out⟩
set_option maxRecDepth 100000 in
theorem lineBlank (z : Bool) {V W : World} {lb ob : Nat} {s : RS} {seg row oc : Nat} {F : Nat → FD} (h : LineI V lb ob s seg row oc (-1) s.n F W) (hn : s.n ≤ 1000) (h0 : 0 < s.n) (hsz : s.sz ≤ 1000)
    (hF : if z = true then (∀ m, m < s.n → blankB (F m).d.l = true ∧ blankB (F m).o.l = true) else (blankB (F 0).d.l && blankB (F 0).o.l) = false) :
    Calls Tryz.prog 80 #[.pointer (some ⟨lb, 0, none⟩)] W fun e w' => e = .returned (.bool z) ∧ Below W.heap.size W w' := by
  have HE : Hid (Calls Tryz.prog 98 #[.pointer (some ⟨lb, 0, none⟩), .func (.func 99) #[] #[]] W fun e w' => e = .returned (.bool z) ∧ Below W.heap.size W w') := Lib.hid (by
    cases z with
    | true =>
      simp only [if_true] at hF
      exact every_blank h hn hsz fun m hm _ => hF m hm
    | false => exact every_blank_no h hn h0 hsz (by simpa using hF))
  clear h hF
  go_enter Tryz.func80, Tryz.ntmps80
  go_wp2_with fail
  ((with_reducible refine HE.out.mono ?_))
  rintro e w1 ⟨rfl, hb⟩
  go_wp2
  go_ret
  exact ⟨rfl, hb⟩
set_option maxRecDepth 100000 in
theorem complete_no {V W : World} {lb ob : Nat} {s : RS} {seg row oc : Nat} {F : Nat → FD} (h : LineI V lb ob s seg row oc (-1) s.n F W) (hn : s.n ≤ 1000) (h0 : 0 < s.n) (hF : (F 0).b = false) :
    Calls Tryz.prog 81 #[.pointer (some ⟨lb, 0, none⟩)] W fun e w' => e = .returned (.bool false) ∧ Below W.heap.size W w' := by
  have HE := Lib.hid (every_sealed_no h hn h0 hF)
  clear h hF
  go_enter Tryz.func81, Tryz.ntmps81
  go_wp2_with fail
  ((with_reducible refine HE.out.mono ?_))
  rintro e w1 ⟨rfl, hb⟩
  go_wp2
  go_ret
  exact ⟨rfl, hb⟩
end Go.Proofs.YthgcjiocelcblaaGreat

namespace Go.Proofs.YthgcjiocelcblaaGreat
open Go.RowKit Go.Deep

theorem ownSP_apart2 {B : Nat} {w : World} {sv : Value} {L : List SP} (h : OwnSP B w sv L) {E : PS} (hf : ∀ x, E.a = some x → w.heap.size ≤ x.block) : ∀ x, E.a = some x → some x.block ≠ sv.ownBlock := fun x hx c => by
  have h1 := (h.lt x.block c.symm).2
  have h2 := hf x hx
  omega
set_option maxRecDepth 100000 in
set_option maxHeartbeats 4000000 in
theorem linePages_any {V W : World} {lb ob : Nat} {s : RS} {seg row oc : Nat} {F : Nat → FD} (h : LineI V lb ob s seg row oc (-1) s.n F W) (hg : GoodG s.n s.bl s.pg s.sz) (hsz : s.sz ≤ 1000) (hs0 : 0 < s.sz) (hseg : seg ≤ 2000) (hrow : row ≤ 2000) (p : Nat) (hp : ((p : Nat) : Int) = ParOf s.n s.pg seg row) :
    Calls Tryz.prog 82 #[.pointer (some ⟨lb, 0, none⟩)] W fun e x => ∃ sv L, e = .returned sv ∧ GotP s.sz (fun j => ((F (memOf p j)).d.l, (F (memOf p j)).h)) W.heap.size (s.n - 1) sv L x ∧ Below W.heap.size W x := by
  have hn16 : s.n ≤ 16 := by have := hg.2.1; omega
  have hn3 : 3 ≤ s.n := by have := hg.1; omega
  have HME := Lib.hid fun (x : World) (k : Nat) (hk : k ≤ 1000) => member_any s.n s.bl s.pg s.sz seg row p k x hg (by omega) (by omega) (by omega) (by omega) hp hk
  have HWI := Lib.hid fun (x : World) => width_any (s.n : Int) s.bl s.pg s.sz x (by omega) (by omega)
  have HI := Lib.hid h
  have HN := Lib.hid (And.intro hn3 hn16)
  have HSZ := Lib.hid (And.intro hs0 hsz)
  have HX : Hid (∀ x : World, Below W.heap.size W x → (x.cell? ⟨lb, 0, none⟩ = some (.int .i64 (s.n : Int)) ∧ x.cell? ⟨lb, 1, none⟩ = some (.int .i64 (s.bl : Int)) ∧ x.cell? ⟨lb, 2, none⟩ = some (.int .i64 (s.pg : Int)) ∧ x.cell? ⟨lb, 3, none⟩ = some (.int .i64 (s.sz : Int)) ∧ x.cell? ⟨lb, 4, none⟩ = some (.int .i64 (seg : Int)) ∧ x.cell? ⟨lb, 5, none⟩ = some (.int .i64 (row : Int))) ∧ x.cell? ⟨lb, 6, none⟩ = some (.slice (some ⟨ob, 0, none⟩) s.n oc)) := Lib.hid fun x hx => by
    obtain ⟨c0, c1, c2, c3, c4, c5, c6, c7⟩ := eightL_at (h.step hx).box
    exact ⟨⟨c0, c1, c2, c3, c4, c5⟩, c6⟩
  clear h hp hg hs0 hsz hseg hrow
  obtain ⟨⟨c0, c1, c2, c3, c4, c5⟩, c6⟩ := HX.out W (Below.refl _ _)
  go_enter Tryz.func82, Tryz.ntmps82
  go_wp2_with fail
  ((with_reducible refine (HWI.out _).mono ?_))
  rintro e w1 ⟨rfl, hb1⟩
  have HB1 := Lib.hid hb1
  clear hb1 c0 c1 c2 c3 c4 c5 c6
  go_wp2_with fail
  go_loopw [3, 11] (fun lv iv wr => ∃ (i : Nat) (L : List SP), i + 1 ≤ s.n ∧ iv = .int .i64 (i : Int) ∧ GotP s.sz (fun j => ((F (memOf p j)).d.l, (F (memOf p j)).h)) W.heap.size i lv L wr ∧ Below W.heap.size W wr) (fun _ iv _ => (s.n - intOf iv).toNat)
  case atStart => exact ⟨0, [], by have := HN.out; omega, rfl, ⟨ownSP_nil _ _, rfl, fun j hj => absurd hj (Nat.not_lt_zero _)⟩, HB1.out⟩
  case round =>
    obtain ⟨i, L, hi, rfl, hP, hB⟩ := hrel
    have HP := Lib.hid hP
    have HB := Lib.hid hB
    clear hP hB
    by_cases hlt : i + 1 < s.n
    · have q1 : decide ((i : Int) < (s.n : Int) - 1) = true := by simp; omega
      obtain ⟨m, hm⟩ : ∃ m, m = memOf p i := ⟨_, rfl⟩
      have hmn : m < s.n := by rw [hm]; unfold memOf; split <;> omega
      have HM1 := Lib.hid fun x : World => HME.out x i (by have := HN.out; omega)
      rw [← hm] at HM1
      have HMM := Lib.hid (And.intro hm hmn)
      have hS0 := (HX.out wr.drew HB.out.drew).1
      clear hm hmn
      go_upto_region 5 with fail
      go_region_held3 (fun x => x.cell? ⟨lb, 0, none⟩ = some (.int .i64 (s.n : Int)) ∧ x.cell? ⟨lb, 1, none⟩ = some (.int .i64 (s.bl : Int)) ∧ x.cell? ⟨lb, 2, none⟩ = some (.int .i64 (s.pg : Int)) ∧ x.cell? ⟨lb, 3, none⟩ = some (.int .i64 (s.sz : Int)) ∧ x.cell? ⟨lb, 4, none⟩ = some (.int .i64 (seg : Int)) ∧ x.cell? ⟨lb, 5, none⟩ = some (.int .i64 (row : Int)))
        (first | with_reducible exact hS0 | with_reducible exact hS1 | go_keep)
        ((go_simp; go_at_call 71; ((with_reducible refine (HM1.out _).mono ?_)); (intro e w2 hr; obtain ⟨rfl, hb2⟩ := hr; have HB2 := Lib.hid (bel_trans HB.out.drew hb2); have HBr := Lib.hid ((Below.refl wr.heap.size wr).drew.trans hb2); have hS1 := (HX.out w2 HB2.out).1; clear hb2)))
      all_goals
        clear hS0 hS1
        have hI2 := HI.out.step HB2.out
        obtain ⟨f, hf⟩ : ∃ f, f = F m := ⟨_, rfl⟩
        obtain ⟨z0, z1, z2, z3, z4, z5, z6, z7, z8, z9⟩ := fd_cells hI2.on HMM.out.2 f hf
        obtain ⟨_, c6⟩ := HX.out w2 HB2.out
        obtain ⟨_, _, _, _, p5, p6, p7, _, _, _⟩ := hI2.found m HMM.out.2 (by omega)
        rw [← hf] at p5 p7
        have HFP := Lib.hid (fpage_any f.d f.o f.h f.b w2 p7 (by rw [p5]; exact HSZ.out.2))
        have HF5 := Lib.hid (And.intro hf p5)
        have i0 : (0 : Int) ≤ (m : Int) := by omega
        have i1 : (m : Int) < (s.n : Int) := by have := HMM.out.2; omega
        clear hI2 hf p5 p6 p7
        go_wp2_with fail
        ((with_reducible refine HFP.out.mono ?_))
        rintro e w3 ⟨E, rfl, hEl, hEn, hEk, hEf, hb3⟩
        have HB3 := Lib.hid (bel_trans HB2.out hb3)
        have HG3 := HP.out.step (bel_trans HBr.out hb3)
        have HGA := Lib.hid (HG3.step (bel_alloc (Below.refl _ w3) (.cells #[.int .u8 (f.h.ki : Int), .int .u32 (f.h.ep : Int), .int .u32 (f.h.ba : Int), .int .u16 (f.h.ix : Int), .int .u16 (f.h.ct : Int), .int .u32 (f.h.bl : Int), .int .u32 (f.h.mo : Int), .slice E.a E.n E.c] 95)))
        have HEA := Lib.hid (hEk.step (bel_alloc (Below.refl _ w3) (.cells #[.int .u8 (f.h.ki : Int), .int .u32 (f.h.ep : Int), .int .u32 (f.h.ba : Int), .int .u16 (f.h.ix : Int), .int .u16 (f.h.ct : Int), .int .u32 (f.h.bl : Int), .int .u32 (f.h.mo : Int), .slice E.a E.n E.c] 95)))
        have HPA : Hid (SPat ⟨f.h, E⟩ w3.heap.size 0 (w3.alloc (.cells #[.int .u8 (f.h.ki : Int), .int .u32 (f.h.ep : Int), .int .u32 (f.h.ba : Int), .int .u16 (f.h.ix : Int), .int .u16 (f.h.ct : Int), .int .u32 (f.h.bl : Int), .int .u32 (f.h.mo : Int), .slice E.a E.n E.c] 95))) := Lib.hid (by
          obtain ⟨a0, a1, a2, a3, a4, a5, a6, a7⟩ := eight_at (heap_alloc_new w3 (.cells #[.int .u8 (f.h.ki : Int), .int .u32 (f.h.ep : Int), .int .u32 (f.h.ba : Int), .int .u16 (f.h.ix : Int), .int .u16 (f.h.ct : Int), .int .u32 (f.h.bl : Int), .int .u32 (f.h.mo : Int), .slice E.a E.n E.c] 95))
          exact ⟨a0, a1, a2, a3, a4, a5, a6, a7⟩)
        have HBA := Lib.hid (bel_alloc HB3.out (.cells #[.int .u8 (f.h.ki : Int), .int .u32 (f.h.ep : Int), .int .u32 (f.h.ba : Int), .int .u16 (f.h.ix : Int), .int .u16 (f.h.ct : Int), .int .u32 (f.h.bl : Int), .int .u32 (f.h.mo : Int), .slice E.a E.n E.c] 95))
        have HEE := Lib.hid (And.intro hEl (And.intro hEn hEf))
        clear hEl hEn hEk hEf hb3 HG3 z0 z1 z2 z3 z4 z5 z6 z7 z8 z9 c6
        go_wp2_with (at_builtin; refine wpList_appSP 84 Tryz.underlying84 info_sp rfl _ _ rfl W.heap.size _ L rfl HGA.out.1 w3.heap.size 1 ⟨f.h, E⟩ rfl HPA.out HBA.out.size (by rw [HGA.out.2.1]; have := HN.out; omega) ?_)
        intro v' w9 hap
        have hfx := ownSP_apart2 HP.out.1 (E := E) (fun x hx => Nat.le_trans HBr.out.size (HEE.out.2.2 x hx))
        have HG9 := Lib.hid (HGA.out.more HSZ.out.1 hap (by show ((F (memOf p i)).d.l, (F (memOf p i)).h) = (E.l, f.h); rw [← HMM.out.1, ← HF5.out.1, HEE.out.1]) HEA.out (by rw [HEE.out.2.1]; exact HF5.out.2) (fun x hx => Nat.le_trans HB2.out.size (HEE.out.2.2 x hx)) hfx)
        have HB9 := Lib.hid (HBA.out.trans hap.below)
        clear hap hfx
        go_wp2
        go_roundw
        case rel => exact ⟨i + 1, L ++ [⟨f.h, E⟩], by omega, by go_num, HG9.out, HB9.out⟩
        case measure => have := HN.out; simp [intOf]; omega
    · have q1 : decide ((i : Int) < (s.n : Int) - 1) = false := by simp; omega
      have hin : s.n - 1 = i := by omega
      have HIN := Lib.hid hin
      clear hin
      go_wp2_with fail
      go_ret
      exact ⟨_, L, rfl, by rw [HIN.out]; exact HP.out, HB.out⟩
end Go.Proofs.YthgcjiocelcblaaGreat

namespace Go.Proofs.YthgcjiocelcblaaGreat
open Go.RowKit Go.Deep

def fdD (F : Nat → FD) (k : Nat) : List PS := (List.range k).map fun m => (F m).d
theorem fdD_more (F : Nat → FD) (k : Nat) : fdD F (k + 1) = fdD F k ++ [(F k).d] := by simp [fdD, List.range_succ]
theorem fdD_len (F : Nat → FD) (k : Nat) : (fdD F k).length = k := by simp [fdD]
end Go.Proofs.YthgcjiocelcblaaGreat

namespace Go.Proofs.YthgcjiocelcblaaGreat
open Go.RowKit Go.Deep

theorem seal_first (h : RH) (d b : List Nat) : (sealB h d b).getD 0 0 = 84 := by
  unfold sealB headB
  simp [show Crc.les 2 22356 = [84, 87] by decide]
theorem open_marked {d o : List Nat} (h : OpenOk d o) : blankB o = false := by
  obtain ⟨h1, _, _, h4⟩ := h
  refine blankB_false (k := 0) (by omega) ?_
  rw [h4, seal_first]
  omega
theorem page_none (s : RS) (k : Nat × Nat × Nat) (h : s.F k = none) : (s.page k).take s.sz = List.replicate s.sz 255 ∧ (s.page k).drop s.sz = List.replicate 64 255 := by
  unfold RS.page
  rw [h]
  simp
theorem blank_rep (n : Nat) : blankB (List.replicate n 255) = true := by
  unfold blankB
  rw [List.all_eq_true]
  intro x hx
  rw [List.eq_of_mem_replicate hx]
  rfl
theorem blank_shut (d : List Nat) : ¬ OpenOk d (List.replicate 64 255) := fun h => by
  have h1 := h.2.2.1
  have h2 : (takeH (List.replicate 64 255)).ki = 255 := by decide
  omega
/-- All pages of a stripe, its parity among them, are nothing together. -/
theorem stripe_zero {n p sz seg row : Nat} {L : List SP} {G : List PG} {P : PG} (h : StripeB n p sz seg row L G P) (hp : p < n) : ∀ y ∈ xorL ((List.range n).map fun m => (onAt p G P m).d.l), y = 0 := by
  have hlen := h.len
  have key : ∀ j, xatL j ((List.range n).map fun m => (onAt p G P m).d.l) = 0 := fun j => by
    have e1 : ((List.range n).map fun m => (onAt p G P m).d.l) = (dsOf G).take p ++ ([P.d.l] ++ (dsOf G).drop p) := by
      have hdl : (dsOf G).length = G.length := by unfold dsOf; simp
      apply List.ext_getElem?
      intro i
      rcases Nat.lt_or_ge i n with hi | hi
      · rw [List.getElem?_map, List.getElem?_range hi]
        simp only [Option.map_some]
        unfold onAt slotOf
        by_cases h1 : i = p
        · subst h1
          rw [if_pos rfl, List.getElem?_append_right (by rw [List.length_take]; omega), List.length_take, show i - min i (dsOf G).length = 0 by omega]
          simp
        · rw [if_neg h1]
          by_cases h2 : i < p
          · rw [if_pos h2, List.getElem?_append_left (by rw [List.length_take]; omega), List.getElem?_take_of_lt h2]
            unfold dsOf
            simp [List.getD, show i < G.length by omega]
          · rw [if_neg h2, List.getElem?_append_right (by rw [List.length_take]; omega), List.length_take, List.getElem?_append_right (by simp; omega), List.getElem?_drop]
            rw [show p + (i - min p (dsOf G).length - [P.d.l].length) = i - 1 by simp; omega]
            unfold dsOf
            simp [List.getD, show i - 1 < G.length by omega]
      · rw [List.getElem?_eq_none (by simpa using hi), List.getElem?_eq_none (by simp; omega)]
    have e2 : xatL j ((dsOf G).take p) ^^^ xatL j ((dsOf G).drop p) = xatL j (dsOf G) := by
      rw [← xatL_append, List.take_append_drop]
    have e3 : xatL j [P.d.l] = xatL j (dsOf G) := by
      rw [xatL, xatL, Nat.xor_zero, h.pd, xorL_getD]
    rw [e1, xatL_append, xatL_append, e3, Nat.xor_comm (xatL j (dsOf G)), ← Nat.xor_assoc, e2, Nat.xor_self]
  intro y hy
  obtain ⟨j, hj, rfl⟩ := List.mem_iff_getElem.1 hy
  have h1 := xorL_getD ((List.range n).map fun m => (onAt p G P m).d.l) j
  rw [key j] at h1
  simpa [List.getD, hj] using h1
theorem GotP.mono {sz : Nat} {q : Nat → List Nat × RH} {B B' m : Nat} {sv : Value} {L : List SP} {w : World} (h : GotP sz q B m sv L w) (hb : B' ≤ B) : GotP sz q B' m sv L w := by
  refine ⟨⟨h.1.1, ?_⟩, h.2.1, fun j hj => ?_⟩
  · rcases h.1.2 with h0 | ⟨g, c, cur, h1, h2, h3⟩
    · exact .inl h0
    · exact .inr ⟨g, c, cur, h1, Nat.le_trans hb h2, h3⟩
  · obtain ⟨h1, h2, h3, h4, h5, h6⟩ := h.2.2 j hj
    exact ⟨h1, h2, h3, h4, fun a ha => Nat.le_trans hb (h5 a ha), h6⟩
theorem GotP.congr {sz : Nat} {q q' : Nat → List Nat × RH} {B m : Nat} {sv : Value} {L : List SP} {w : World} (h : GotP sz q B m sv L w) (hq : ∀ j, j < m → q j = q' j) : GotP sz q' B m sv L w :=
  ⟨h.1, h.2.1, fun j hj => by rw [← hq j hj]; exact h.2.2 j hj⟩
def RowWRet (s : RS) (L : List SP) (w : World) (e : Ending) (x : World) : Prop :=
  ∃ sv Lr, e = .returned (.tuple #[sv, .int .i64 2, .int .i64 0]) ∧ GotP s.sz (fun j => ((L.getD j SP.nil).d.l, (L.getD j SP.nil).h)) w.heap.size (s.n - 1) sv Lr x ∧ Below w.heap.size w x
section
variable {B : Nat} {s : RS} {w : World} {L : List SP} {G : List PG} {P : PG}
/-- What a line of a whole stripe is. -/
theorem line_whole (hg : GoodG s.n s.bl s.pg s.sz) {V x : World} {lb ob oc seg row p : Nat} {F : Nat → FD} (hI : LineI V lb ob s seg row oc (-1) s.n F x) (hseg : seg ≤ 2000) (hrow : row ≤ 2000) (hpn : p < s.n)
    (hS : StripeB s.n p s.sz seg row L G P) (hL : LOk L s.sz) (hlen : L.length + 1 = s.n) (hH : ∀ m, m < s.n → s.page (m, seg, row) = onB p G P m) :
    (∀ m, m < s.n → (F m).b = true ∧ blankB (F m).o.l = false ∧ (F m).d.l = (onAt p G P m).d.l) ∧ ∀ j, j < s.n - 1 → ((F (memOf p j)).d.l, (F (memOf p j)).h) = ((L.getD j SP.nil).d.l, (L.getD j SP.nil).h) := by
  have hn3 : 3 ≤ s.n := by have := hg.1; omega
  refine ⟨fun m hm => ?_, fun j hj => ?_⟩
  · have h1 := hI.found m hm (by omega)
    have ho := any_ok hS hL hlen hpn hn3 hseg hrow hm
    rw [h1.2.1, h1.2.2.1, h1.2.2.2.1, hH m hm]
    refine ⟨decide_eq_true ho, open_marked ho, ?_⟩
    by_cases e : m = p
    · subst e
      rw [(par_at hS hL hlen hn3 hseg hrow).1]
      unfold onAt; rw [if_pos rfl]
    · obtain ⟨d1, _, d3, _⟩ := data_at hS hL hlen hpn hm e
      rw [d1, d3]
  · have hmn : memOf p j < s.n := by unfold memOf; split <;> omega
    have h1 := hI.found (memOf p j) hmn (by omega)
    obtain ⟨d1, d2, _, _⟩ := data_at hS hL hlen hpn hmn (memOf_ne p j)
    rw [slot_mem] at d1 d2
    have f := hL.fit _ (sp_mem L j (by omega))
    rw [h1.1, h1.2.2.1, h1.2.2.2.1, hH _ hmn, d1, d2, openH_seal f.1 _ _ f.2]
set_option maxRecDepth 100000 in
set_option maxHeartbeats 2000000 in
theorem row_whole (h : Ram B s w) (hsz : s.sz ≤ 1000) (hs0 : 0 < s.sz) (seg row p : Nat) (hseg : seg + 5 < s.bl) (hrow : row < s.pg) (hp : ((p : Nat) : Int) = ParOf s.n s.pg seg row) (hpn : p < s.n)
    (hS : StripeB s.n p s.sz seg row L G P) (hL : LOk L s.sz) (hlen : L.length + 1 = s.n) (hH : ∀ m, m < s.n → s.gone m = 0 ∧ s.page (m, seg, row) = onB p G P m) :
    Calls Tryz.prog 62 #[.iface 51 (.pointer (some ⟨s.rb, 0, none⟩)), .int .i64 (seg : Int), .int .i64 (row : Int)] w (RowWRet s L w) := by
  have hg := h.geo
  have hn3 : 3 ≤ s.n := by have := hg.1; omega
  have hn16 : s.n ≤ 16 := by have := hg.2.1; omega
  have hbl : s.bl ≤ 64 := by have := hg.2.2.2.1; omega
  have hpg : s.pg ≤ 32 := by have := hg.2.2.2.2.2.1; omega
  have HTK := Lib.hid (stTake_any h hsz seg row hseg hrow fun m hm => (hH m hm).1)
  have HW := Lib.hid fun (V x : World) (lb ob oc : Nat) (F : Nat → FD) (hI : LineI V lb ob s seg row oc (-1) s.n F x) => line_whole hg hI (by omega) (by omega) hpn hS hL hlen fun m hm => (hH m hm).2
  have HBL := Lib.hid fun (V x : World) (lb ob oc : Nat) (F : Nat → FD) (hI : LineI V lb ob s seg row oc (-1) s.n F x) => lineBlank false hI (by omega) (by omega) hsz (by simp only [Bool.false_eq_true, if_false]; rw [((HW.out _ _ _ _ _ _ hI).1 0 (by omega)).2.1, Bool.and_false])
  have HCP := Lib.hid fun (V x : World) (lb ob oc : Nat) (F : Nat → FD) (hI : LineI V lb ob s seg row oc (-1) s.n F x) => complete_plain hI hg (by omega) (by omega) p hp (fun m hm _ => ((HW.out _ _ _ _ _ _ hI).1 m hm).1) (.inl rfl)
  have HPA := Lib.hid fun (V x : World) (lb ob oc : Nat) (F : Nat → FD) (hI : LineI V lb ob s seg row oc (-1) s.n F x) => linePages_any hI hg hsz hs0 (by omega) (by omega) p hp
  clear h hg hseg hrow hp hpn hS hL hlen hH hsz hs0
  go_enter Tryz.func62, Tryz.ntmps62
  go_wp2_with fail
  ((with_reducible refine HTK.out.mono ?_))
  rintro e w1 ⟨V, lb, ob, oc, F, rfl, hI, hb1, hlb⟩
  have HB1 := Lib.hid hb1
  have HI1 := Lib.hid hI
  clear hb1 hI hlb HTK
  go_wp2_with fail
  ((with_reducible refine (HBL.out V w1 lb ob oc F HI1.out).mono ?_))
  rintro e w2 ⟨rfl, hb2⟩
  have HI2 := Lib.hid (HI1.out.step hb2)
  have HB2 := Lib.hid (bel_trans HB1.out hb2)
  clear hb2 HI1 HB1 HBL
  go_wp2_with fail
  ((with_reducible refine (HCP.out V w2 lb ob oc F HI2.out).mono ?_))
  rintro e w3 ⟨rfl, hb3⟩
  have HI3 := Lib.hid (HI2.out.step hb3)
  have HB3 := Lib.hid (bel_trans HB2.out hb3)
  clear hb3 HI2 HB2 HCP
  go_wp2_with fail
  ((with_reducible refine (HPA.out V w3 lb ob oc F HI3.out).mono ?_))
  rintro e w4 ⟨sv, Lr, rfl, hG, hb4⟩
  have HG4 := Lib.hid ((hG.mono HB3.out.size).congr (HW.out V w3 lb ob oc F HI3.out).2)
  have HB4 := Lib.hid (bel_trans HB3.out hb4)
  clear hG hb4 HI3 HB3 HPA HW
  go_wp2_with fail
  refine bodyPost_ret (v := .tuple #[sv, .int .i64 2, .int .i64 0]) ?_ rfl ⟨sv, Lr, rfl, HG4.out, HB4.out⟩
  simp [results, Tryz.results62, go_sem]
set_option maxRecDepth 100000 in
set_option maxHeartbeats 2000000 in
theorem row_blank (h : Ram B s w) (hsz : s.sz ≤ 1000) (seg row : Nat) (hseg : seg + 5 < s.bl) (hrow : row < s.pg) (hH : ∀ m, m < s.n → s.gone m = 0 ∧ s.F (m, seg, row) = none) :
    Calls Tryz.prog 62 #[.iface 51 (.pointer (some ⟨s.rb, 0, none⟩)), .int .i64 (seg : Int), .int .i64 (row : Int)] w fun e x => e = .returned (.tuple #[.slice none 0 0, .int .i64 0, .int .i64 0]) ∧ Below w.heap.size w x := by
  have hg := h.geo
  have hn3 : 3 ≤ s.n := by have := hg.1; omega
  have hn16 : s.n ≤ 16 := by have := hg.2.1; omega
  have HTK := Lib.hid (stTake_any h hsz seg row hseg hrow fun m hm => (hH m hm).1)
  have HBL := Lib.hid fun (V x : World) (lb ob oc : Nat) (F : Nat → FD) (hI : LineI V lb ob s seg row oc (-1) s.n F x) => lineBlank true hI (by omega) (by omega) hsz (by
    simp only [if_true]
    intro m hm
    have h1 := hI.found m hm (by omega)
    obtain ⟨e1, e2⟩ := page_none s (m, seg, row) (hH m hm).2
    rw [h1.2.2.1, h1.2.2.2.1, e1, e2]
    exact ⟨blank_rep _, blank_rep _⟩)
  clear h hg hseg hrow hH hsz
  go_enter Tryz.func62, Tryz.ntmps62
  go_wp2_with fail
  ((with_reducible refine HTK.out.mono ?_))
  rintro e w1 ⟨V, lb, ob, oc, F, rfl, hI, hb1, hlb⟩
  have HB1 := Lib.hid hb1
  have HI1 := Lib.hid hI
  clear hb1 hI hlb HTK
  go_wp2_with fail
  ((with_reducible refine (HBL.out V w1 lb ob oc F HI1.out).mono ?_))
  rintro e w2 ⟨rfl, hb2⟩
  have HB2 := Lib.hid (bel_trans HB1.out hb2)
  clear hb2 HI1 HB1 HBL
  go_wp2_with fail
  refine bodyPost_ret (v := .tuple #[.slice none 0 0, .int .i64 0, .int .i64 0]) ?_ rfl ⟨rfl, HB2.out⟩
  simp [results, Tryz.results62, go_sem]
end
end Go.Proofs.YthgcjiocelcblaaGreat

namespace Go.Proofs.YthgcjiocelcblaaGreat
open Go.RowKit Go.Deep

/-- Stripe j is whole. -/
def Whole (n : Nat) (L : List SP) (s : RS) (j : Nat) : Prop :=
  ∃ p G P, ((p : Nat) : Int) = ParOf (n : Nat) (6 : Nat) ((6 + j / 6 : Nat)) ((j % 6 : Nat)) ∧ p < n ∧ StripeB n p 256 (6 + j / 6) (j % 6) L G P ∧ ∀ m, m < n → s.page (m, 6 + j / 6, j % 6) = onB p G P m
/-- The first i stripes are whole, all behind them aren't there. -/
structure MI (B rb n : Nat) (L : List SP) (a : Option Addr) (i : Nat) (s : RS) (x : World) : Prop where
  ram : Ram B s x
  rb_ : s.rb = rb
  n_ : s.n = n
  bl_ : s.bl = 20
  pg_ : s.pg = 6
  sz_ : s.sz = 256
  gone : ∀ m, s.gone m = 0
  ol : s.ol.length = i * n
  pgs : Pgs s x a L
  done : ∀ j, j < i → Whole n L s j
  rest : ∀ j, i ≤ j → j < 18 → ∀ m, m < n → s.F (m, 6 + j / 6, j % 6) = none
section
variable {B rb n i : Nat} {L : List SP} {a : Option Addr} {s : RS} {x y : World}
theorem MI.step (h : MI B rb n L a i s x) (hb : Below x.heap.size x y) : MI B rb n L a i s y :=
  ⟨h.ram.step hb, h.rb_, h.n_, h.bl_, h.pg_, h.sz_, h.gone, h.ol, h.pgs.step hb, h.done, h.rest⟩
theorem page_same {s s' : RS} {k : Nat × Nat × Nat} (hF : s'.F k = s.F k) (hz : s'.sz = s.sz) : s'.page k = s.page k := by
  unfold RS.page
  rw [hF, hz]
theorem MI.wrote {s' : RS} {G : List PG} {P : PG} {p : Nat} (h : MI B rb n L a i s x) (hr : Ram B s' y) (hs : RStep s x s' y) (hol : s'.ol = s.ol ++ ordL 0 s.n s.first) (hgo : s'.gone = s.gone)
    (hw : Wrote s s' (6 + i / 6) (i % 6) (ordL 0 s.n s.first) (onB p G P)) (hS : StripeB s.n p s.sz (6 + i / 6) (i % 6) L G P) (hp : ((p : Nat) : Int) = ParOf (n : Nat) (6 : Nat) ((6 + i / 6 : Nat)) ((i % 6 : Nat))) (hpn : p < n) : MI B rb n L a (i + 1) s' y := by
  obtain ⟨e1, _, _, e4, e5, e6, e7, _⟩ := hs.same
  have hne : ∀ j, j ≠ i → ∀ m, s'.F (m, 6 + j / 6, j % 6) = s.F (m, 6 + j / 6, j % 6) := fun j hj m => hw.2 _ fun m' _ _ e => by
    have e2 := congrArg (fun k : Nat × Nat × Nat => k.2.1) e
    have e3 := congrArg (fun k : Nat × Nat × Nat => k.2.2) e
    simp only at e2 e3
    omega
  rw [h.n_] at hw hS hol
  rw [h.sz_] at hS
  refine ⟨hr, e1.trans h.rb_, e4.trans h.n_, e5.trans h.bl_, e6.trans h.pg_, e7.trans h.sz_, fun m => by rw [hgo]; exact h.gone m, ?_, h.pgs.rstep hs, fun j hj => ?_, fun j hj hj2 m hm => ?_⟩
  · rw [hol, List.length_append, ordL_len, h.ol, Nat.succ_mul]
  · by_cases e : j = i
    · subst e
      exact ⟨p, G, P, hp, hpn, hS, fun m hm => has_wrote hw hm (h.gone m)⟩
    · obtain ⟨p', G', P', q1, q2, q3, q4⟩ := h.done j (by omega)
      exact ⟨p', G', P', q1, q2, q3, fun m hm => by rw [page_same (hne j e m) e7]; exact q4 m hm⟩
  · rw [hne j (by omega) m]
    exact h.rest j (by omega) hj2 m hm
theorem mi_new {rb pb gb : Nat} (hr : Ram B (rsNew rb pb gb n 20 6 256) x) (hp : Pgs (rsNew rb pb gb n 20 6 256) x a L) : MI B rb n L a 0 (rsNew rb pb gb n 20 6 256) x :=
  ⟨hr, rfl, rfl, rfl, rfl, rfl, fun _ => rfl, by show 0 = 0 * n; omega, hp, fun j hj => absurd hj (Nat.not_lt_zero j), fun _ _ _ _ _ => rfl⟩
theorem MI.write (h : MI B rb n L a i s x) (hB : B ≤ x.heap.size) (hi : i < 18) (hn : 3 ≤ n ∧ n ≤ 7) (k cap : Nat) (hk : k + 1 = n) (hL : L.length = k) (hd : ∀ q ∈ L, q.d.n = 256) :
    Calls Tryz.prog 40 #[.iface 51 (.pointer (some ⟨rb, 0, none⟩)), .int .i64 ((6 + i / 6 : Nat) : Int), .int .i64 ((i % 6 : Nat) : Int), .slice a k cap] x fun e y => e = .returned (.int .i64 0) ∧ ∃ s', MI B rb n L a (i + 1) s' y ∧ Below B x y ∧ x.heap.size ≤ y.heap.size := by
  obtain ⟨p, hp, hpn⟩ := par_nat n (6 + i / 6) (i % 6) (by omega)
  have hol : s.ol.length ≤ 1000 := by
    rw [h.ol]
    have := Nat.mul_le_mul (show i ≤ 17 by omega) hn.2
    omega
  have hw := write_any h.ram hB (6 + i / 6) (i % 6) p a k cap L (by rw [h.bl_]; omega) (by rw [h.pg_]; omega) (by rw [h.sz_]; omega) (by rw [h.n_, h.pg_]; exact hp) (by rw [h.n_]; exact hpn) hL.symm (by rw [h.n_]; exact hk) h.pgs.pg (by rw [h.sz_]; exact hd) hol (by rw [deads_none h.gone]; omega)
  rw [h.rb_] at hw
  refine hw.mono ?_
  rintro e y ⟨s', G, P, rfl, hr, hs, ho, hg, hwr, hst⟩
  exact ⟨rfl, s', h.wrote hr hs ho hg hwr hst hp hpn, hs.below h.ram hB, hs.size⟩
theorem MI.rowW (h : MI B rb n L a i s x) (j : Nat) (hj : j < 18) (hji : j < i) (hLO : LOk L 256) (hL : L.length + 1 = n) :
    Calls Tryz.prog 62 #[.iface 51 (.pointer (some ⟨rb, 0, none⟩)), .int .i64 ((6 + j / 6 : Nat) : Int), .int .i64 ((j % 6 : Nat) : Int)] x fun e y => ∃ pa pc Lr, e = .returned (.tuple #[.slice pa (n - 1) pc, .int .i64 2, .int .i64 0]) ∧ (CellsSP y pa Lr ∧ Lr.length = n - 1 ∧ ∀ q, q < n - 1 → (Lr.getD q SP.nil).h = (L.getD q SP.nil).h ∧ (Lr.getD q SP.nil).d.l = (L.getD q SP.nil).d.l ∧ PartOk y (Lr.getD q SP.nil).d) ∧ Below x.heap.size x y := by
  obtain ⟨p, G, P, q1, q2, q3, q4⟩ := h.done j hji
  have hr := row_whole h.ram (by rw [h.sz_]; omega) (by rw [h.sz_]; omega) (6 + j / 6) (j % 6) p (by rw [h.bl_]; omega) (by rw [h.pg_]; omega) (by rw [h.n_, h.pg_]; exact q1) (by rw [h.n_]; exact q2) (by rw [h.n_, h.sz_]; exact q3) (by rw [h.sz_]; exact hLO) (by rw [h.n_]; exact hL) (fun m hm => ⟨h.gone m, q4 m (by rw [h.n_] at hm; exact hm)⟩)
  rw [h.rb_] at hr
  refine hr.mono ?_
  rintro e y ⟨sv, Lr, rfl, hG, hb⟩
  rw [h.n_] at hG
  obtain ⟨pa, pc, rfl, hc⟩ := cellsSP_own hG.1
  rw [hG.2.1]
  exact ⟨pa, pc, Lr, rfl, ⟨hc, hG.2.1, fun q hq => ⟨(hG.2.2 q hq).1, (hG.2.2 q hq).2.1, (hG.2.2 q hq).2.2.1⟩⟩, hb⟩
theorem MI.rowB (h : MI B rb n L a i s x) (j : Nat) (hj : j < 18) (hji : i ≤ j) :
    Calls Tryz.prog 62 #[.iface 51 (.pointer (some ⟨rb, 0, none⟩)), .int .i64 ((6 + j / 6 : Nat) : Int), .int .i64 ((j % 6 : Nat) : Int)] x fun e y => e = .returned (.tuple #[.slice none 0 0, .int .i64 0, .int .i64 0]) ∧ Below x.heap.size x y := by
  have := row_blank h.ram (by rw [h.sz_]; omega) (6 + j / 6) (j % 6) (by rw [h.bl_]; omega) (by rw [h.pg_]; omega) (fun m hm => ⟨h.gone m, h.rest j hji hj m (by rw [h.n_] at hm; exact hm)⟩)
  rw [h.rb_] at this
  exact this
end
end Go.Proofs.YthgcjiocelcblaaGreat
