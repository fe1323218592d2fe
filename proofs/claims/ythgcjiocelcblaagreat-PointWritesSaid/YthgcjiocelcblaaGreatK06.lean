/- Parts of the proof: ReadRel, TakeR, PtTake. -/
import Derived.Test.YthgcjiocelcblaaGreatK03
import Derived.Test.YthgcjiocelcblaaGreatK05
import Derived.Test.YthgcjiocelcblaaGreatK04
import Derived.Laws.MakeOwn
import Derived.Deep.DeepCutAuto
import Derived.Maps.AppendAt
namespace Go.Proofs.YthgcjiocelcblaaGreat
open Go.RowKit

def TookR (w : World) (pr pg : Nat) (a : Option Addr) (c : Nat) (bs : List Nat) (n : Nat) (e : Ending) (w' : World) : Prop :=
  ∃ a2, e = .returned (.slice a n c) ∧ w' = w.setCell ⟨pr, 0, none⟩ (.slice a2 (bs.length - n) (c - n)) ∧ RD w' pr pg a2 (c - n) (bs.drop n) ∧ Row w' a n (bs.take n) ∧ ∀ x2, a2 = some x2 → ∃ x, a = some x ∧ x2.block = x.block
theorem took_ofR {w w' : World} {pr pg c n : Nat} {a a2 : Option Addr} {bs : List Nat} {v : Value} (h : RD w pr pg a c bs) (hn : n ≤ bs.length)
    (ha : (a = none ∧ a2 = none) ∨ ∃ b off sp, a = some ⟨b, off, sp⟩ ∧ (a2 = some (Addr.add ⟨b, off, sp⟩ n) ∨ (c = n ∧ a2 = some ⟨b, off, sp⟩)))
    (hv : v = .slice a n c) (hw : w' = w.setCell ⟨pr, 0, none⟩ (.slice a2 (bs.length - n) (c - n))) : TookR w pr pg a c bs n (.returned v) w' := by
  have hr := rd_advance h n hn ha
  refine ⟨a2, by rw [hv], hw, by rw [hw]; exact hr.1, by rw [hw]; exact hr.2, fun x2 hx2 => ?_⟩
  rcases ha with ⟨_, h2⟩ | ⟨b, off, sp, h1, h2⟩
  · rw [h2] at hx2; cases hx2
  · refine ⟨_, h1, ?_⟩
    rcases h2 with h2 | ⟨_, h2⟩
    · rw [h2] at hx2; cases hx2; exact add_block _ _
    · rw [h2] at hx2; cases hx2; rfl
set_option maxHeartbeats 400000 in
theorem take_okR {w : World} {pr pg c : Nat} {a : Option Addr} {bs : List Nat} (n : Nat) (h : RD w pr pg a c bs) (hn : n ≤ bs.length) :
    Calls Tryz.prog 65 #[.pointer (some ⟨pr, 0, none⟩), .int .i64 (n : Int)] w (TookR w pr pg a c bs n) := by
  obtain ⟨h0, h1, h2⟩ := rd_cells h
  have hc : bs.length ≤ c ∧ c ≤ maxLen := ⟨h.2.2.2.1, h.2.2.2.2.1⟩
  have HN := Lib.hid hn
  unfold maxLen at hc
  cases a with
  | none =>
    obtain rfl : c = 0 := h.2.2.1 rfl
    obtain rfl : n = 0 := by omega
    have hb0 : bs.length = 0 := by omega
    have HH := Lib.hid h
    clear h
    go_enter Tryz.func65, Tryz.ntmps65
    go_wp2_with (go_at_call 50; refine (left_ok HH.out).mono ?_; rintro e w1 ⟨rfl, rfl⟩)
    go_ret
    exact took_ofR (a2 := none) HH.out HN.out (Or.inl ⟨rfl, rfl⟩) rfl (by rw [hb0])
  | some x =>
    obtain ⟨b, off, sp⟩ := x
    have HH := Lib.hid h
    clear h
    go_enter Tryz.func65, Tryz.ntmps65
    go_wp2_with (go_at_call 50; refine (left_ok HH.out).mono ?_; rintro e w1 ⟨rfl, rfl⟩)
    · have hcn : c = n := by assumption
      subst hcn
      go_ret
      exact took_ofR (a2 := some ⟨b, off, sp⟩) HH.out HN.out (Or.inr ⟨b, off, sp, rfl, Or.inr ⟨rfl, rfl⟩⟩) rfl (by rw [Nat.sub_self])
    · go_ret
      exact took_ofR (a2 := some (Addr.add ⟨b, off, sp⟩ n)) HH.out HN.out (Or.inr ⟨b, off, sp, rfl, Or.inl rfl⟩) rfl rfl

def NumRetR (w : World) (pr pg : Nat) (a : Option Addr) (c : Nat) (bs : List Nat) (n : Nat) (v : Value) (e : Ending) (w' : World) : Prop :=
  ∃ a2, e = .returned v ∧ w' = w.setCell ⟨pr, 0, none⟩ (.slice a2 (bs.length - n) (c - n)) ∧ RD w' pr pg a2 (c - n) (bs.drop n) ∧ ∀ x2, a2 = some x2 → ∃ x, a = some x ∧ x2.block = x.block
set_option maxHeartbeats 400000 in
theorem number_okR {w : World} {pr pg c : Nat} {a : Option Addr} {bs : List Nat} (n : Nat) (h : RD w pr pg a c bs) (hn : n ≤ bs.length) (h8 : n ≤ 8) :
    Calls Tryz.prog 49 #[.pointer (some ⟨pr, 0, none⟩), .int .i64 (n : Int)] w (NumRetR w pr pg a c bs n (.int .u64 (leVal (bs.take n) : Int))) := by
  have HH := Lib.hid h
  have HN := Lib.hid hn
  clear h hn
  go_enter Tryz.func49, Tryz.ntmps49
  go_wp2_with fail
  refine (take_okR n HH.out HN.out).mono ?_
  rintro e w1 ⟨a2, rfl, hw1, hrd, hrow, hrel2⟩
  have HL2 := Lib.hid hrel2
  clear hrel2
  have HW := Lib.hid hw1
  clear hw1
  go_wp2
  go_loop [5, 12] (fun v i => ∃ k : Nat, k ≤ n ∧ i = .int .i64 k ∧ v = .int .u64 ((leVal ((bs.take n).take k) : Nat) : Int)) (fun _ i => n - (intOf i).toNat)
  case atStart => exact ⟨0, by omega, rfl, by simp [leVal]⟩
  case round =>
    obtain ⟨k, hk, rfl, rfl⟩ := hrel
    by_cases hlt : k < n
    · obtain ⟨b, off, rfl, hcl⟩ := hrow.2.2 (by omega)
      have hkl : k < (bs.take n).length := by rw [hrow.1]; exact hlt
      obtain ⟨x, hxe⟩ : ∃ x, x = (bs.take n)[k] := ⟨_, rfl⟩
      have hx : x < 256 := by rw [hxe]; exact hrow.2.1 _ (List.getElem_mem hkl)
      have hck : w1.cell? ⟨b, off + k, none⟩ = some (.int .u8 (x : Int)) := by rw [hcl k hlt, getD_in _ _ hkl, hxe]
      have hle : leVal ((bs.take n).take (k + 1)) = leVal ((bs.take n).take k) + x * 256 ^ k := by
        rw [← List.take_append_getElem hkl, leVal_snoc, ← hxe, List.length_take, Nat.min_eq_left (by omega)]
      have hlow : leVal ((bs.take n).take k) < 256 ^ k := by
        have h1 := leVal_lt ((bs.take n).take k) (fun y hy => hrow.2.1 y (List.mem_of_mem_take hy))
        rw [List.length_take, Nat.min_eq_left (by omega)] at h1
        exact h1
      have hst := Lib.hid (num_step _ x k hlow hx (by omega))
      have HLE := Lib.hid hle
      clear hcl hlow hle hxe
      go_wp2
      go_round
      case rel => exact ⟨k + 1, by omega, by go_num, by rw [hst.out, HLE.out]⟩
      case measure => simp [intOf]; omega
    · obtain rfl : k = n := by omega
      go_wp2
      go_ret
      exact ⟨a2, by simp [List.take_take], HW.out, hrd, HL2.out⟩
set_option maxHeartbeats 400000 in
theorem rU8_okR {w : World} {pr pg c : Nat} {a : Option Addr} {bs : List Nat} (h : RD w pr pg a c bs) (hn : 1 ≤ bs.length) :
    Calls Tryz.prog 117 #[.pointer (some ⟨pr, 0, none⟩)] w (NumRetR w pr pg a c bs 1 (.int .u8 ((bs.getD 0 0 : Nat) : Int))) := by
  have hx : bs.getD 0 0 < 256 := by rw [getD_in _ _ (by omega)]; exact h.2.1.2.1 _ (List.getElem_mem _)
  obtain ⟨m, hm⟩ : ∃ m, m = bs.getD 0 0 := ⟨_, rfl⟩
  rw [← hm] at hx ⊢
  have H1 : Hid (leVal (bs.take 1) = m) := by rw [hm]; exact leVal_one bs hn
  have hmod : (m : Int) % 256 = (m : Int) := by omega
  clear hm
  have HH := Lib.hid h
  clear h
  go_enter Tryz.func117, Tryz.ntmps117
  go_wp2_with fail
  refine (number_okR 1 HH.out hn (by omega)).mono ?_
  rintro e w1 ⟨a2, rfl, hw1, hrd, hrel2⟩
  have HL2 := Lib.hid hrel2
  clear hrel2
  rw [H1.out]
  have HW := Lib.hid hw1
  clear hw1
  go_wp2
  go_ret
  exact ⟨a2, rfl, HW.out, hrd, HL2.out⟩

end Go.Proofs.YthgcjiocelcblaaGreat

namespace Go.Proofs.YthgcjiocelcblaaGreat
open Go.RowKit

set_option maxHeartbeats 400000 in
theorem rU32_okR {w : World} {pr pg c : Nat} {a : Option Addr} {bs : List Nat} (h : RD w pr pg a c bs) (hn : 4 ≤ bs.length) :
    Calls Tryz.prog 30 #[.pointer (some ⟨pr, 0, none⟩)] w (NumRetR w pr pg a c bs 4 (.int .u32 ((leVal (bs.take 4) : Nat) : Int))) := by
  have hx : leVal (bs.take 4) < 256 ^ 4 := by
    have h1 := leVal_lt (bs.take 4) (fun y hy => h.2.1.2.1 y (List.mem_of_mem_take hy))
    rw [List.length_take, Nat.min_eq_left hn] at h1
    exact h1
  obtain ⟨m, hm⟩ : ∃ m, m = leVal (bs.take 4) := ⟨_, rfl⟩
  rw [← hm] at hx ⊢
  have H1 : Hid (leVal (bs.take 4) = m) := hm.symm
  have hx' : m < 4294967296 := hx
  have hmod : (m : Int) % 4294967296 = (m : Int) := by omega
  clear hm hx
  have HH := Lib.hid h
  clear h
  go_enter Tryz.func30, Tryz.ntmps30
  go_wp2_with fail
  refine (number_okR 4 HH.out hn (by omega)).mono ?_
  rintro e w1 ⟨a2, rfl, hw1, hrd, hrel2⟩
  have HL2 := Lib.hid hrel2
  clear hrel2
  rw [H1.out]
  have HW := Lib.hid hw1
  clear hw1
  go_wp2
  go_ret
  exact ⟨a2, rfl, HW.out, hrd, HL2.out⟩
/-- The reader, and that its row lies below H. -/
def RdLow (H : Nat) (x : World) (pr pg : Nat) (bs : List Nat) : Prop := ∃ a c, RD x pr pg a c bs ∧ ∀ z, a = some z → z.block < H
theorem rdLow_of {x : World} {pr pg c : Nat} {a : Option Addr} {bs : List Nat} (h : RD x pr pg a c bs) (h0 : 0 < bs.length) : RdLow x.heap.size x pr pg bs := by
  refine ⟨a, c, h, fun z hz => ?_⟩
  obtain ⟨b, o, e, hc⟩ := h.2.1.2.2 h0
  rw [e] at hz
  cases hz
  exact World.block_lt_of_cell? x _ (hc 0 h0)
theorem rdLow_far {H : Nat} {x y : World} {pr pg : Nat} {bs : List Nat} (h : RdLow H x pr pg bs) (hp : pr < H) (hb : Below H x y) : RdLow H y pr pg bs := by
  obtain ⟨a, c, ⟨r1, r2, r3, r4, r5, r6⟩, hz⟩ := h
  refine ⟨a, c, ⟨(hb.block pr hp).trans r1, ⟨r2.1, r2.2.1, fun h0 => ?_⟩, r3, r4, r5, r6⟩, hz⟩
  obtain ⟨b, o, e, hcs⟩ := r2.2.2 h0
  refine ⟨b, o, e, fun i hi => ?_⟩
  rw [World.cell?_of_block (w := x) (a := ⟨b, o + i, none⟩) (hb.block b (hz _ e))]
  exact hcs i hi
/-- Boxes, and a reader whose row lies below H. -/
structure TkR (w W : World) (p pr pg : Nat) (bx : List (Array Value × TypeId)) (H : Nat) (x : World) (bs : List Nat) : Prop where
  tk : TkB w W p pr pg bx x bs
  lo : RdLow H x pr pg bs
section
variable {w W : World} {p pr pg H : Nat} {bx : List (Array Value × TypeId)} {x : World} {bs : List Nat}
/-- What a call of the reader leaves: only its own block is another one. -/
def TSameBut (x : World) (pr : Nat) (y : World) : Prop := y.heap.size = x.heap.size ∧ (∀ j, j ≠ pr → y.heap[j]? = x.heap[j]?) ∧ y.os = x.os ∧ y.tape = x.tape ∧ y.output = x.output
theorem TkR.u32 {k : Nat} (hI : TkR w W p pr pg bx H x (bs.drop k)) (hp : p + bx.length ≤ pr) (hk : k + 4 ≤ bs.length) :
    Calls Tryz.prog 30 #[.pointer (some ⟨pr, 0, none⟩)] x fun e y => e = .returned (.int .u32 ((leVal ((bs.drop k).take 4) : Nat) : Int)) ∧ TkR w W p pr pg bx H y (bs.drop (k + 4)) ∧ TSameBut x pr y := by
  obtain ⟨a, c, hr, hz⟩ := hI.lo
  refine (rU32_okR hr (by rw [List.length_drop]; omega)).mono fun e y h => ?_
  obtain ⟨a2, he, hw, hrd, hrel⟩ := h
  obtain ⟨h1, h2⟩ := hI.tk.num hp ⟨a2, he, hw, hrd⟩
  rw [List.drop_drop] at h2 hrd
  refine ⟨h1, ⟨h2, a2, _, hrd, fun z hz2 => ?_⟩, ?_, fun j hj => ?_, by rw [hw]; exact ⟨rfl, rfl, rfl⟩⟩
  · obtain ⟨z', e1, e2⟩ := hrel z hz2
    rw [e2]; exact hz z' e1
  · rw [hw]; simp [World.setCell]
  · rw [hw]; exact Below.heap_setCell _ _ _ _ hj
/-- Something that is done from H on leaves all of it. -/
theorem TkR.far (hI : TkR w W p pr pg bx H x bs) (hp : p + bx.length ≤ pr) (hW : W.heap.size ≤ H) (hpr : pr < H) {y : World} (hb : Below H x y) : TkR w W p pr pg bx H y bs := by
  have hlo := rdLow_far hI.lo hpr hb
  obtain ⟨a, c, hrd, _⟩ := hlo
  refine ⟨⟨⟨a, c, hrd⟩, fun i cs t h => (hb.block _ ?_).trans (hI.tk.box i cs t h), ⟨Nat.le_trans hI.tk.inner.1 hb.size, fun j k1 k2 k3 => (hb.block _ (by omega)).trans (hI.tk.inner.2 j k1 k2 k3)⟩, hI.tk.bel.trans (hb.mono (by omega))⟩, rdLow_far hI.lo hpr hb⟩
  have := (List.getElem?_eq_some_iff.1 h).1
  omega
end
end Go.Proofs.YthgcjiocelcblaaGreat

namespace Go.Proofs.YthgcjiocelcblaaGreat
open Go.RowKit

def valU (l : List Nat) : List Value := l.map fun (y : Nat) => Value.int .u32 (y : Int)
/-- A row of uint32 of the call's own. -/
def OwnU (B : Nat) (w : World) (v : Value) (l : List Nat) : Prop := w.ownsRow B 22 1 v l.length (valU l)
theorem info_uint32 : (Tryz.prog.info? 22).map (fun i => (i.zero, i.size, i.bytes)) = some (some (.int .u32 0), 1, 4) := by kernel_rfl
theorem ownU_low {B : Nat} {x y : World} {v : Value} {l : List Nat} {pr : Nat} (h : OwnU B x v l) (hp : pr < B) (hs : TSameBut x pr y) : OwnU B y v l :=
  World.ownsRow.kept (row := some pr) h ⟨hs.2.2.1, hs.2.2.2.1, hs.2.2.2.2, by rw [hs.1]; exact Nat.le_refl _, fun b _ hb => hs.2.1 b (fun e => hb (by rw [e]))⟩ (.inr fun e => by have := (World.ownsRow.lt h pr e).1; omega)
theorem ownU_bel {B : Nat} {w w' : World} {sv : Value} {l : List Nat} (h : OwnU B w sv l) (hb : Below w.heap.size w w') : OwnU B w' sv l :=
  World.ownsRow.kept (row := none) h ⟨hb.os, hb.tape, hb.output, hb.size, fun b hb' _ => hb.block b hb'⟩ (by cases hv : sv.ownBlock <;> simp)
theorem wpList_appU {w : World} {ops : Array Oper} {rest : List Oper} {o : Oper} {a : Act} {Q : Exit → Act → World → Prop} (hgd : o.guard = none) (s x : Operand)
    (ho : o.op = .call { callee := .builtin .append, args := #[s, x], argTypes := #[23, 23] })
    (B : Nat) (sv : Value) (l : List Nat) (hs : a.eval s = sv) (hown : OwnU B w sv l) (b c n : Nat) (hx : a.eval x = .slice (some ⟨b, 0, none⟩) 1 c)
    (hh : w.cell? ⟨b, 0, none⟩ = some (.int .u32 (n : Int))) (hB : B ≤ w.heap.size) (hlen : l.length + 1 ≤ 1000000)
    (h : ∀ v' w', OwnU B w' v' (l ++ [n]) → Below B w w' → wpList Tryz.prog ops Q rest (a.put o.dst v') w') : wpList Tryz.prog ops Q (o :: rest) a w := by
  obtain ⟨i0, hi, hz0, hz1, hz2⟩ := info_parts info_uint32
  refine wpList_append_own_at w hgd s x 23 ho B 22 i0 _ 1 4 Tryz.underlying23 hi hz0 hz1 hz2 rfl (by decide) sv _ _ hs hown ⟨b, 0, none⟩ 1 c (valU [n]) hx rfl ?_ ?_ (by unfold maxLen; omega) (by omega) hB ?_
  · intro j u hj
    match j, hj with
    | 0, hj =>
      simp [valU] at hj
      rw [← hj]
      simpa [Addr.add] using hh
    | j + 1, hj => simp [valU] at hj
  · intro u hu
    simp [valU] at hu
    rw [hu]; rfl
  · intro v' w' h2 h3 _ h5
    refine h v' w' ?_ ((Below.refl B w).grown h3 hB (fun k hk => (World.ownsRow.lt hown k hk).1))
    unfold OwnU
    rw [show valU (l ++ [n]) = valU l ++ valU [n] by simp [valU], List.length_append]
    exact h2
/-- The numbers that bytes are, from the k-th on. -/
def numsU (bs : List Nat) (k n : Nat) : List Nat := (List.range n).map fun i => leVal ((bs.drop (k + 4 * i)).take 4)
theorem numsU_len (bs : List Nat) (k n : Nat) : (numsU bs k n).length = n := by simp [numsU]
theorem numsU_step (bs : List Nat) (k n : Nat) : numsU bs k (n + 1) = numsU bs k n ++ [leVal ((bs.drop (k + 4 * n)).take 4)] := by
  unfold numsU
  rw [List.range_succ, List.map_append]; rfl
section
variable {w W : World} {p pr pg : Nat} {bx : List (Array Value × TypeId)} {x : World} {bs : List Nat}
set_option maxRecDepth 100000 in
set_option maxHeartbeats 2000000 in
theorem ptTake_ok {k many : Nat} (hI : TkR w W p pr pg bx x.heap.size x (bs.drop k)) (hp : p + bx.length ≤ pr) (hpr : pr < x.heap.size) (hW : W.heap.size ≤ x.heap.size) (hk : k + 4 * many ≤ bs.length) (hl : bs.length ≤ 100000) :
    Calls Tryz.prog 31 #[.pointer (some ⟨pr, 0, none⟩), .int .u32 (many : Int)] x fun e y => ∃ v, e = .returned v ∧ OwnU x.heap.size y v (numsU bs k many) ∧ TkR w W p pr pg bx x.heap.size y (bs.drop (k + 4 * many)) ∧ x.heap.size ≤ y.heap.size ∧ ∀ j, j < x.heap.size → j ≠ pr → y.heap[j]? = x.heap[j]? := by
  obtain ⟨i0, hi, hz0, hz1, hz2⟩ := info_parts info_uint32
  have hmk : ∀ u, (Instr.makeSlice 23 (.int .i64 0) (.int .i64 ((many : Nat) : Int))).run Tryz.prog u = _ := fun u => run_make u 23 22 i0 _ Tryz.underlying23 hi hz0 .i64 .i64 0 ((many : Nat) : Int) (by omega) (by omega) (by rw [hz2]; omega) (by omega)
  simp only [Int.toNat_natCast, hz1, Value.cells] at hmk
  obtain ⟨a0, c0, hr0, hz⟩ := hI.lo
  have HL := Lib.hid (left_ok hr0)
  obtain ⟨L, hL⟩ : ∃ L, (bs.drop k).length = L := ⟨_, rfl⟩
  rw [hL] at HL
  rw [List.length_drop] at hL
  obtain ⟨q, hq⟩ : ∃ q, L / 4 = q := ⟨_, rfl⟩
  have e1 : (L : Int).tdiv 4 = (q : Int) := by rw [Int.tdiv_eq_ediv_of_nonneg (by omega)]; omega
  have hmq : many ≤ q := by omega
  have HI := Lib.hid hI
  go_enter Tryz.func31, Tryz.ntmps31
  go_wp2_with fail
  ((with_reducible refine HL.out.mono ?_))
  rintro e w1 ⟨rfl, rfl⟩
  go_upto_region 2 with fail
  obtain ⟨X, hX⟩ : ∃ y, y = w1.alloc (.cells (madeCells #[.int .u32 0] many) 22) := ⟨_, rfl⟩
  obtain ⟨g, hg⟩ : ∃ y, y = w1.heap.size := ⟨_, rfl⟩
  have hXg : X.heap[g]? = some (.cells (madeCells #[.int .u32 0] many) 22 (0, 0)) := by rw [hX, hg]; exact heap_alloc_new _ _
  have hXb : Below w1.heap.size w1 X := by rw [hX]; exact bel_alloc (Below.refl _ _) _
  have hOX : OwnU w1.heap.size X (.slice (some ⟨g, 0, none⟩) 0 many) [] := ⟨rfl, .inr ⟨g, many, _, rfl, by omega, hXg, Nat.zero_le _, by unfold maxLen; omega, by simp [madeCells], rfl⟩⟩
  have HOX := Lib.hid hOX
  have HIX := Lib.hid (hI.far hp hW hpr hXb)
  have HS : Hid (w1.heap.size ≤ X.heap.size ∧ ∀ j, j < w1.heap.size → j ≠ pr → X.heap[j]? = w1.heap[j]?) := Lib.hid ⟨hXb.size, fun j hj _ => hXb.block j hj⟩
  have HP : Hid (p + bx.length ≤ pr ∧ pr < w1.heap.size ∧ W.heap.size ≤ w1.heap.size ∧ k + 4 * many ≤ bs.length ∧ bs.length ≤ 100000) := Lib.hid ⟨hp, hpr, hW, hk, hl⟩
  rw [← hX, ← hg]
  clear hX hg hXg hXb hOX hI hr0 hz HL HI hp hpr hW hk hl hmk hz0 hz1 hz2 hi hL hq e1 hmq
  go_wp2_with fail
  go_loopw [5, 14] (fun v iv wr => ∃ n : Nat, iv = .int .u32 (n : Int) ∧ n ≤ many ∧ OwnU w1.heap.size wr v (numsU bs k n) ∧ TkR w W p pr pg bx w1.heap.size wr (bs.drop (k + 4 * n)) ∧ w1.heap.size ≤ wr.heap.size ∧ ∀ j, j < w1.heap.size → j ≠ pr → wr.heap[j]? = w1.heap[j]?) (fun _ iv _ => many - (intOf iv).toNat)
  case atStart => exact ⟨0, rfl, Nat.zero_le _, HOX.out, HIX.out, HS.out.1, HS.out.2⟩
  case round =>
    clear HOX HIX HS
    obtain ⟨n, rfl, hn, ho, hI, hs1, hs2⟩ := hrel
    have HO := Lib.hid ho
    have HI := Lib.hid hI
    have HS := Lib.hid (And.intro hs1 hs2)
    clear ho hI hs1 hs2
    by_cases hlt : n < many
    · have t1 : decide ((n : Int) < (many : Int)) = true := by simp; omega
      have t1' : decide (n < many) = true := by simpa using hlt
      obtain ⟨n1, hn1⟩ : ∃ y, n + 1 = y := ⟨_, rfl⟩
      have e1 : (n : Int) + 1 = (n1 : Int) := by omega
      have hP := HP.out
      have u1 : IntKind.u32.wrap (n1 : Int) = (n1 : Int) := by rw [IntKind.wrap_u32]; omega
      have HN : Hid (n < many ∧ n1 = n + 1) := Lib.hid ⟨hlt, by omega⟩
      have HC := Lib.hid (HI.out.u32 (k := k + 4 * n) hP.1 (by omega))
      have HNS := Lib.hid (numsU_step bs k n)
      obtain ⟨y, hy⟩ : ∃ y, leVal ((bs.drop (k + 4 * n)).take 4) = y := ⟨_, rfl⟩
      rw [hy] at HC HNS
      rw [hn1] at HNS
      clear hP hlt hn hn1 hy
      go_wp2_with fail
      ((with_reducible refine HC.out.mono ?_))
      rintro e w2 ⟨rfl, hI2, hsb⟩
      have HO2 : Hid (OwnU w1.heap.size w2 u5 (numsU bs k n)) := Lib.hid (ownU_low HO.out HP.out.2.1 hsb)
      have HI2 : Hid (TkR w W p pr pg bx w1.heap.size w2 (bs.drop (k + 4 * n1))) := Lib.hid (by rw [HN.out.2, Nat.mul_add]; exact hI2)
      have HS2 : Hid (w1.heap.size ≤ w2.heap.size ∧ ∀ j, j < w1.heap.size → j ≠ pr → w2.heap[j]? = w1.heap[j]?) := Lib.hid ⟨by rw [hsb.1]; exact HS.out.1, fun j h1 h2 => (hsb.2.1 j h2).trans (HS.out.2 j h1 h2)⟩
      clear hI2 hsb
      go_wp2_with (at_builtin; refine wpList_appU rfl _ _ rfl w1.heap.size _ (numsU bs k n) rfl (World.ownsRow.alloc HO2.out _) w2.heap.size 1 y rfl (cell_new1 _ _ _) (Nat.le_trans HS2.out.1 (by simp)) ?c1 ?_)
      case c1 => rw [numsU_len]; have := HP.out; have := HN.out; omega
      intro v' w3 ho3 hb3
      have hb23 : Below w1.heap.size w2 w3 := ((Below.refl w1.heap.size w2).alloc HS2.out.1 _).trans hb3
      have HO3 : Hid (OwnU w1.heap.size w3 v' (numsU bs k n1)) := Lib.hid (by rw [HNS.out]; exact ho3)
      have HI3 := Lib.hid (HI2.out.far HP.out.1 HP.out.2.2.1 HP.out.2.1 hb23)
      have HS3 : Hid (w1.heap.size ≤ w3.heap.size ∧ ∀ j, j < w1.heap.size → j ≠ pr → w3.heap[j]? = w1.heap[j]?) := Lib.hid ⟨Nat.le_trans HS2.out.1 hb23.size, fun j h1 h2 => (hb23.block j h1).trans (HS2.out.2 j h1 h2)⟩
      clear ho3 hb3 hb23
      go_wp2_with fail
      clear e1 u1
      go_roundw
      case rel => exact ⟨n1, rfl, by have := HN.out; omega, HO3.out, HI3.out, HS3.out.1, HS3.out.2⟩
      case measure => have := HN.out; simp [intOf]; omega
    · obtain rfl : n = many := by omega
      have t1 : decide ((n : Int) < (n : Int)) = false := by simp
      have t1' : decide (n < n) = false := by simp
      clear hlt hn
      go_wp2_with fail
      go_ret
      exact ⟨_, rfl, HO.out, HI.out, HS.out.1, HS.out.2⟩
set_option maxRecDepth 100000 in
set_option maxHeartbeats 2000000 in
theorem ptTake_dies {k many : Nat} (hI : TkR w W p pr pg bx x.heap.size x (bs.drop k)) (hp : p + bx.length ≤ pr) (hpr : pr < x.heap.size) (hW : W.heap.size ≤ x.heap.size) (hk : bs.length < k + 4 * many) (hkl : k ≤ bs.length) (hl : bs.length ≤ 100000) (hm : many < 4294967296) (hg : RG x pg false) (hpg : pg < x.heap.size) :
    Calls Tryz.prog 31 #[.pointer (some ⟨pr, 0, none⟩), .int .u32 (many : Int)] x fun e y => e = .panicked (outChain pg) ∧ RG y pg true ∧ (x.heap.size ≤ y.heap.size ∧ y.os = x.os ∧ y.tape = x.tape ∧ y.output = x.output) ∧ ∀ j, j < x.heap.size → j ≠ pr → j ≠ pg → y.heap[j]? = x.heap[j]? := by
  obtain ⟨i0, hi, hz0, hz1, hz2⟩ := info_parts info_uint32
  obtain ⟨a0, c0, hr0, hz⟩ := hI.lo
  have HL := Lib.hid (left_ok hr0)
  obtain ⟨L, hL⟩ : ∃ L, (bs.drop k).length = L := ⟨_, rfl⟩
  rw [hL] at HL
  rw [List.length_drop] at hL
  obtain ⟨q, hq⟩ : ∃ q, L / 4 = q := ⟨_, rfl⟩
  have e1 : (L : Int).tdiv 4 = (q : Int) := by rw [Int.tdiv_eq_ediv_of_nonneg (by omega)]; omega
  have hmq : q < many := by omega
  have hmk : ∀ u, (Instr.makeSlice 23 (.int .i64 0) (.int .i64 ((q : Nat) : Int))).run Tryz.prog u = _ := fun u => run_make u 23 22 i0 _ Tryz.underlying23 hi hz0 .i64 .i64 0 ((q : Nat) : Int) (by omega) (by omega) (by rw [hz2]; omega) (by omega)
  simp only [Int.toNat_natCast, hz1, Value.cells] at hmk
  have hmq1 : ¬ many ≤ q := by omega
  have hmq2 : ¬ (many : Int) ≤ (q : Int) := by omega
  have hmq3 : (q : Int) < (many : Int) := by omega
  have u0 : IntKind.i64.wrap (many : Int) = (many : Int) := by rw [IntKind.wrap_i64]; omega
  have hne := rg_ne hr0 hg
  have HI := Lib.hid hI
  go_enter Tryz.func31, Tryz.ntmps31
  go_wp2_with fail
  ((with_reducible refine HL.out.mono ?_))
  rintro e w1 ⟨rfl, rfl⟩
  go_upto_region 2 with fail
  obtain ⟨X, hX⟩ : ∃ y, y = w1.alloc (.cells (madeCells #[.int .u32 0] q) 22) := ⟨_, rfl⟩
  obtain ⟨g, hgg⟩ : ∃ y, y = w1.heap.size := ⟨_, rfl⟩
  have hXg : X.heap[g]? = some (.cells (madeCells #[.int .u32 0] q) 22 (0, 0)) := by rw [hX, hgg]; exact heap_alloc_new _ _
  have hXb : Below w1.heap.size w1 X := by rw [hX]; exact bel_alloc (Below.refl _ _) _
  have hOX : OwnU w1.heap.size X (.slice (some ⟨g, 0, none⟩) 0 q) [] := ⟨rfl, .inr ⟨g, q, _, rfl, by omega, hXg, Nat.zero_le _, by unfold maxLen; omega, by simp [madeCells], rfl⟩⟩
  have HOX := Lib.hid hOX
  have HIX := Lib.hid (hI.far hp hW hpr hXb)
  have HS : Hid (Below w1.heap.size w1 X) := Lib.hid hXb
  have HG := Lib.hid hg
  have HP : Hid (p + bx.length ≤ pr ∧ pr < w1.heap.size ∧ W.heap.size ≤ w1.heap.size ∧ bs.length < k + 4 * (q + 1) ∧ k + 4 * q ≤ bs.length ∧ bs.length ≤ 100000 ∧ pg < w1.heap.size ∧ pr ≠ pg ∧ q < many ∧ many < 4294967296) := Lib.hid ⟨hp, hpr, hW, by omega, by omega, hl, hpg, hne, hmq, hm⟩
  rw [← hX, ← hgg]
  clear hX hgg hg hpg hne hkl hm hmq1 hmq2 hmq3 u0 hXg hXb hOX hI hr0 hz HL HI hp hpr hW hk hl hmk hz0 hz1 hz2 hi hL hq e1 hmq
  go_wp2_with fail
  go_loopw [5, 14] (fun v iv wr => ∃ n : Nat, iv = .int .u32 (n : Int) ∧ n ≤ q ∧ OwnU w1.heap.size wr v (numsU bs k n) ∧ TkR w W p pr pg bx w1.heap.size wr (bs.drop (k + 4 * n)) ∧ (w1.heap.size ≤ wr.heap.size ∧ wr.os = w1.os ∧ wr.tape = w1.tape ∧ wr.output = w1.output) ∧ ∀ j, j < w1.heap.size → j ≠ pr → wr.heap[j]? = w1.heap[j]?) (fun _ iv _ => many - (intOf iv).toNat)
  case atStart => exact ⟨0, rfl, Nat.zero_le _, HOX.out, HIX.out, ⟨HS.out.size, HS.out.os, HS.out.tape, HS.out.output⟩, fun j hj _ => HS.out.block j hj⟩
  case round =>
    clear HOX HIX HS
    obtain ⟨n, rfl, hn, ho, hI, hs1, hs2⟩ := hrel
    have HO := Lib.hid ho
    have HI := Lib.hid hI
    have HS := Lib.hid (And.intro hs1.1 (And.intro hs2 hs1.2))
    clear ho hI hs1 hs2
    have t1a : n < many := by have := HP.out; omega
    by_cases hlt : n < q
    · have t1 : decide ((n : Int) < (many : Int)) = true := by simp; omega
      have t1' : decide (n < many) = true := by simpa using t1a
      obtain ⟨n1, hn1⟩ : ∃ y, n + 1 = y := ⟨_, rfl⟩
      have e1 : (n : Int) + 1 = (n1 : Int) := by omega
      have hP := HP.out
      have u1 : IntKind.u32.wrap (n1 : Int) = (n1 : Int) := by rw [IntKind.wrap_u32]; omega
      have HN : Hid (n < q ∧ n1 = n + 1) := Lib.hid ⟨hlt, by omega⟩
      have HC := Lib.hid (HI.out.u32 (k := k + 4 * n) hP.1 (by omega))
      have HNS := Lib.hid (numsU_step bs k n)
      obtain ⟨y, hy⟩ : ∃ y, leVal ((bs.drop (k + 4 * n)).take 4) = y := ⟨_, rfl⟩
      rw [hy] at HC HNS
      rw [hn1] at HNS
      clear hP hlt hn hn1 hy t1a
      go_wp2_with fail
      ((with_reducible refine HC.out.mono ?_))
      rintro e w2 ⟨rfl, hI2, hsb⟩
      have HO2 : Hid (OwnU w1.heap.size w2 u5 (numsU bs k n)) := Lib.hid (ownU_low HO.out HP.out.2.1 hsb)
      have HI2 : Hid (TkR w W p pr pg bx w1.heap.size w2 (bs.drop (k + 4 * n1))) := Lib.hid (by rw [HN.out.2, Nat.mul_add]; exact hI2)
      have HS2 : Hid (w1.heap.size ≤ w2.heap.size ∧ (∀ j, j < w1.heap.size → j ≠ pr → w2.heap[j]? = w1.heap[j]?) ∧ w2.os = w1.os ∧ w2.tape = w1.tape ∧ w2.output = w1.output) := Lib.hid ⟨by rw [hsb.1]; exact HS.out.1, fun j h1 h2 => (hsb.2.1 j h2).trans (HS.out.2.1 j h1 h2), hsb.2.2.1.trans HS.out.2.2.1, hsb.2.2.2.1.trans HS.out.2.2.2.1, hsb.2.2.2.2.trans HS.out.2.2.2.2⟩
      clear hI2 hsb
      go_wp2_with (at_builtin; refine wpList_appU rfl _ _ rfl w1.heap.size _ (numsU bs k n) rfl (World.ownsRow.alloc HO2.out _) w2.heap.size 1 y rfl (cell_new1 _ _ _) (Nat.le_trans HS2.out.1 (by simp)) ?c1 ?_)
      case c1 => rw [numsU_len]; have := HP.out; have := HN.out; omega
      intro v' w3 ho3 hb3
      have hb23 : Below w1.heap.size w2 w3 := ((Below.refl w1.heap.size w2).alloc HS2.out.1 _).trans hb3
      have HO3 : Hid (OwnU w1.heap.size w3 v' (numsU bs k n1)) := Lib.hid (by rw [HNS.out]; exact ho3)
      have HI3 := Lib.hid (HI2.out.far HP.out.1 HP.out.2.2.1 HP.out.2.1 hb23)
      have HS3 : Hid (w1.heap.size ≤ w3.heap.size ∧ (∀ j, j < w1.heap.size → j ≠ pr → w3.heap[j]? = w1.heap[j]?) ∧ w3.os = w1.os ∧ w3.tape = w1.tape ∧ w3.output = w1.output) := Lib.hid ⟨Nat.le_trans HS2.out.1 hb23.size, fun j h1 h2 => (hb23.block j h1).trans (HS2.out.2.1 j h1 h2), hb23.os.trans HS2.out.2.2.1, hb23.tape.trans HS2.out.2.2.2.1, hb23.output.trans HS2.out.2.2.2.2⟩
      clear ho3 hb3 hb23
      go_wp2_with fail
      clear e1 u1
      go_roundw
      case rel => exact ⟨n1, rfl, by have := HN.out; omega, HO3.out, HI3.out, ⟨HS3.out.1, HS3.out.2.2⟩, HS3.out.2.1⟩
      case measure => have h1 := HN.out; have h2 := HP.out; simp [intOf]; omega
    · obtain rfl : n = q := by omega
      have t1 : decide ((n : Int) < (many : Int)) = true := by simp; omega
      have t1' : decide (n < many) = true := by simpa using t1a
      obtain ⟨a1, c1, hr1, hz1⟩ := HI.out.lo
      have hg1 : RG wr pg false := by
        have h := HG.out
        unfold RG at h ⊢
        rw [HS.out.2.1 pg HP.out.2.2.2.2.2.2.1 (fun e => HP.out.2.2.2.2.2.2.2.1 e.symm)]; exact h
      have HD := Lib.hid (rU32_dies hr1 hg1 (by rw [List.length_drop]; have := HP.out; omega))
      clear hlt hn hr1 hz1 hg1 t1a
      go_wp2_with fail
      refine HD.out.mono ?_
      intro e w3 hd
      obtain ⟨he, h2, h3, h4, h5, h6, h7⟩ := hd
      have hR : RG w3 pg true ∧ (w1.heap.size ≤ w3.heap.size ∧ w3.os = w1.os ∧ w3.tape = w1.tape ∧ w3.output = w1.output) ∧ ∀ j, j < w1.heap.size → j ≠ pr → j ≠ pg → w3.heap[j]? = w1.heap[j]? :=
        ⟨h2, ⟨Nat.le_trans HS.out.1 h3, h4.trans HS.out.2.2.1, h5.trans HS.out.2.2.2.1, h6.trans HS.out.2.2.2.2⟩, fun j k1 k2 k3 => (h7 j k2 k3).trans (HS.out.2.1 j k1 k2)⟩
      subst he
      exact ⟨rfl, rfl, hR⟩
end
end Go.Proofs.YthgcjiocelcblaaGreat
