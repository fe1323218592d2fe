/- CursorBack's own function. -/
import Derived.Test.YtejhdafipjajnaaSets
import Derived.Test.YtejhdafipjajnaaReaderMore
namespace Go.Proofs.Ytejhdafipjajnaa
open Go.RowKit

/-- What an item lays, noughts left out. -/
def enc (k : Int) (n : Nat) (bs : List Nat) : List Nat :=
  if k = 1 then Crc.les 1 n else if k = 2 then Crc.les 2 n else if k = 3 then bs else if k = 4 then Crc.les 4 n else if k = 5 then textOf bs else if k = 8 then Crc.les 8 n else []
theorem layItem_enc (k : Int) (n : Nat) (bs X : List Nat) (h6 : k ≠ 6) : layItem k n bs X = X ++ enc k n bs := by
  unfold layItem enc
  rw [if_neg h6]
  split
  · rfl
  split
  · rfl
  split
  · rfl
  split
  · rfl
  split
  · rfl
  split
  · rfl
  · simp
theorem enc_six (n : Nat) (bs : List Nat) : enc 6 n bs = [] := by simp [enc]
def rests (K : Nat → Int) (N : Nat → Nat) (B : Nat → List Nat) : Nat → Nat → List Nat
  | _, 0 => []
  | i, m + 1 => enc (K i) (N i) (B i) ++ rests K N B (i + 1) m
theorem rests_snoc (K : Nat → Int) (N : Nat → Nat) (B : Nat → List Nat) (m i : Nat) : rests K N B i (m + 1) = rests K N B i m ++ enc (K (i + m)) (N (i + m)) (B (i + m)) := by
  induction m generalizing i with
  | zero => simp [rests]
  | succ m ih =>
    rw [rests, ih, rests, List.append_assoc, show i + 1 + m = i + (m + 1) by omega]
theorem rests_step (K : Nat → Int) (N : Nat → Nat) (B : Nat → List Nat) {k n : Nat} (h : k < n) : rests K N B k (n - k) = enc (K k) (N k) (B k) ++ rests K N B (k + 1) (n - (k + 1)) := by
  rw [show n - k = (n - (k + 1)) + 1 by omega, rests]

/-- Where the closure stands: the reader holds what is left, the caller's variables and items are as they were. -/
structure BackI (w w7 W : World) (al aS aL pr pg : Nat) (ia : Option Addr) (n cap : Nat) (wr : World) (bs : List Nat) : Prop where
  rd : ∃ a c, RD wr pr pg a c bs
  inner : Inner w7.heap.size W pr wr
  bel : Below w.heap.size w wr
  cl : wr.cell? ⟨al, 0, none⟩ = some (.slice ia n cap)
  cs : wr.cell? ⟨aS, 0, none⟩ = some (.bool true)
  fs : wr.frozen? ⟨aS, 0, none⟩ = false
  cL : ∃ v, wr.cell? ⟨aL, 0, none⟩ = some v
  fL : wr.frozen? ⟨aL, 0, none⟩ = false
/-- Where the variables stand. -/
def BackAt (w w7 : World) (al aS aL pr : Nat) : Prop := w.heap.size ≤ al ∧ w.heap.size ≤ aS ∧ w.heap.size ≤ aL ∧ al < w7.heap.size ∧ aS < w7.heap.size ∧ aL < w7.heap.size ∧ al ≠ aS ∧ aS ≠ aL ∧ al ≠ aL ∧ w7.heap.size + 3 ≤ pr
section
variable {w w7 W wr w' : World} {al aS aL pr pg n cap : Nat} {ia : Option Addr} {bs bs' : List Nat}
theorem BackI.step (h : BackI w w7 W al aS aL pr pg ia n cap wr bs) (hp : BackAt w w7 al aS aL pr) (hk : ∀ k, k < wr.heap.size → k ≠ pr → w'.heap[k]? = wr.heap[k]?) (hz : wr.heap.size ≤ w'.heap.size) (h1 : w'.os = wr.os) (h2 : w'.tape = wr.tape) (h3 : w'.output = wr.output)
    (hrd : ∃ a c, RD w' pr pg a c bs') : BackI w w7 W al aS aL pr pg ia n cap w' bs' := by
  obtain ⟨p1, p2, p3, p4, p5, p6, p7, p8, p9, p10⟩ := hp
  have hc : ∀ (b : Nat) (v : Value), b ≠ pr → wr.cell? ⟨b, 0, none⟩ = some v → w'.cell? ⟨b, 0, none⟩ = some v := fun b v hb hv => by
    rw [World.cell?_of_block (w := wr) (a := ⟨b, 0, none⟩) (hk b (World.block_lt_of_cell? wr ⟨b, 0, none⟩ hv) hb)]; exact hv
  have hf : ∀ (b : Nat) (v : Value), b ≠ pr → wr.cell? ⟨b, 0, none⟩ = some v → wr.frozen? ⟨b, 0, none⟩ = false → w'.frozen? ⟨b, 0, none⟩ = false := fun b v hb hv hx => by
    rw [World.frozen?_of_block (w := wr) (a := ⟨b, 0, none⟩) (hk b (World.block_lt_of_cell? wr ⟨b, 0, none⟩ hv) hb)]; exact hx
  obtain ⟨v, hv⟩ := h.cL
  have hwz := h.bel.size
  refine ⟨hrd, ⟨Nat.le_trans h.inner.1 hz, fun k k1 k2 k3 => ?_⟩, ⟨h1.trans h.bel.os, h2.trans h.bel.tape, h3.trans h.bel.output, Nat.le_trans h.bel.size hz, fun k k1 => ?_⟩, hc _ _ (by omega) h.cl, hc _ _ (by omega) h.cs, hf _ _ (by omega) h.cs h.fs, ⟨v, hc _ _ (by omega) hv⟩, hf _ _ (by omega) hv h.fL⟩
  · rw [hk k (Nat.lt_of_lt_of_le k2 h.inner.1) k3]; exact h.inner.2 k k1 k2 k3
  · rw [hk k (by omega) (by omega)]; exact h.bel.block k k1
theorem BackI.drew (h : BackI w w7 W al aS aL pr pg ia n cap wr bs) : BackI w w7 W al aS aL pr pg ia n cap wr.drew bs :=
  ⟨h.rd, h.inner, h.bel.drew, h.cl, h.cs, h.fs, h.cL, h.fL⟩
theorem BackI.below (h : BackI w w7 W al aS aL pr pg ia n cap wr bs) (hp : BackAt w w7 al aS aL pr) (hb : Below wr.heap.size wr w') : BackI w w7 W al aS aL pr pg ia n cap w' bs := by
  obtain ⟨a, c, hrd⟩ := h.rd
  exact h.step hp (fun k k1 _ => hb.block k k1) hb.size hb.os hb.tape hb.output ⟨a, c, rd_below hrd hb⟩
theorem BackI.num {c s : Nat} {v : Value} {e : Ending} (h : BackI w w7 W al aS aL pr pg ia n cap wr bs) (hp : BackAt w w7 al aS aL pr) (hr : NumRet wr pr pg c bs s v e w') : e = .returned v ∧ BackI w w7 W al aS aL pr pg ia n cap w' (bs.drop s) := by
  obtain ⟨a2, rfl, rfl, hrd⟩ := hr
  exact ⟨rfl, h.step hp (fun k _ k2 => Below.heap_setCell _ _ _ _ k2) (by simp [World.setCell]) rfl rfl rfl ⟨_, _, hrd⟩⟩
theorem BackI.raw {c s : Nat} {e : Ending} (h : BackI w w7 W al aS aL pr pg ia n cap wr bs) (hp : BackAt w w7 al aS aL pr) (hr : RawRet wr pr pg c bs s e w') : ∃ sv, e = .returned sv ∧ Own wr.heap.size w' sv (bs.take s) ∧ BackI w w7 W al aS aL pr pg ia n cap w' (bs.drop s) := by
  obtain ⟨a2, w1, rfl, hrd, hb, sv, rfl, ho⟩ := hr
  have hs : (wr.setCell ⟨pr, 0, none⟩ (.slice a2 (bs.length - s) (c - s))).heap.size = wr.heap.size := by simp [World.setCell]
  rw [hs] at ho
  refine ⟨sv, rfl, ho, h.step hp (fun k k1 k2 => ?_) (by have := hb.size; omega) hb.os hb.tape hb.output ⟨_, _, hrd⟩⟩
  rw [hb.block k (by omega)]; exact Below.heap_setCell _ _ _ _ k2
theorem BackI.text {c s : Nat} {e : Ending} (h : BackI w w7 W al aS aL pr pg ia n cap wr bs) (hp : BackAt w w7 al aS aL pr) (hr : TextRet wr pr pg c bs s e w') : e = .returned (.string (strOf ((bs.drop 1).take s))) ∧ BackI w w7 W al aS aL pr pg ia n cap w' ((bs.drop 1).drop s) := by
  obtain ⟨a2, rfl, hrd, hs, h1, h2, h3, h4⟩ := hr
  exact ⟨rfl, h.step hp (fun k _ k2 => h4 k k2) (by omega) h1 h2 h3 ⟨_, _, hrd⟩⟩
theorem BackI.set (h : BackI w w7 W al aS aL pr pg ia n cap wr bs) (hp : BackAt w w7 al aS aL pr) : BackI w w7 W al aS aL pr pg ia n cap (wr.setCell ⟨aS, 0, none⟩ (.bool true)) bs := by
  obtain ⟨p1, p2, p3, p4, p5, p6, p7, p8, p9, p10⟩ := hp
  obtain ⟨a, c, hrd⟩ := h.rd
  obtain ⟨v, hv⟩ := h.cL
  have hk : ∀ k, k ≠ aS → (wr.setCell ⟨aS, 0, none⟩ (.bool true)).heap[k]? = wr.heap[k]? := fun k hk => Below.heap_setCell _ _ _ _ hk
  refine ⟨⟨a, c, ?_⟩, inner_set h.inner p5 _, h.bel.setCell (p := ⟨aS, 0, none⟩) p2 _, ?_, ?_, ?_, ⟨v, ?_⟩, ?_⟩
  · obtain ⟨r1, r2, r3, r4, r5, r6⟩ := hrd
    refine ⟨by rw [hk _ (by omega)]; exact r1, ⟨r2.1, r2.2.1, fun h0 => ?_⟩, r3, r4, r5, r6⟩
    obtain ⟨b, off, e, hc⟩ := r2.2.2 h0
    refine ⟨b, off, e, fun i hi => ?_⟩
    have hci := hc i hi
    rw [World.cell?_setCell_other _ _ _ _ (fun e2 => by rw [← e2, h.cs] at hci; cases hci)]
    exact hci
  · rw [World.cell?_of_block (w := wr) (a := ⟨al, 0, none⟩) (hk al p7)]; exact h.cl
  · simp [go_sem, h.cs]
  · simp [go_sem, h.fs]
  · rw [World.cell?_of_block (w := wr) (a := ⟨aL, 0, none⟩) (hk aL (fun e => p8 e.symm))]; exact hv
  · rw [World.frozen?_of_block (w := wr) (a := ⟨aL, 0, none⟩) (hk aL (fun e => p8 e.symm))]; exact h.fL
theorem BackI.cells {K : Nat → Int} {N : Nat → Nat} {A : Nat → Option Addr} {L C : Nat → Nat} {B : Nat → List Nat} (h : BackI w w7 W al aS aL pr pg ia n cap wr bs) (hi : InItems w ia n cap K N A L C B) {k : Nat} (hk : k < n) :
    ∃ b off, ia = some ⟨b, off, none⟩ ∧ wr.cell? ⟨b, off + k * 3, none⟩ = some (.int .i64 (K k)) ∧ wr.cell? ⟨b, off + k * 3 + 1, none⟩ = some (.int .u64 (N k : Int)) ∧ wr.cell? ⟨b, off + k * 3 + 2, none⟩ = some (.slice (A k) (L k) (C k)) ∧ Row wr (A k) (L k) (B k) := by
  obtain ⟨h1, h2, h3, h4⟩ := hi
  obtain ⟨b, off, e, hc⟩ := h3 (by omega)
  obtain ⟨c0, c1, c2⟩ := hc k hk
  exact ⟨b, off, e, below_cell h.bel c0, below_cell h.bel c1, below_cell h.bel c2, row_keep (h4 k hk).2.2.1 h.bel (Nat.le_refl _)⟩
theorem rowOf {K : Nat → Int} {N : Nat → Nat} {A : Nat → Option Addr} {L C : Nat → Nat} {B : Nat → List Nat} (hi : InItems w ia n cap K N A L C B) {k : Nat} (hk : k < n) (h : BackI w w7 W al aS aL pr pg ia n cap wr bs) : Row wr (A k) (L k) (B k) := row_keep (hi.2.2.2 k hk).2.2.1 h.bel (Nat.le_refl _)
end
theorem textOf_take (bs : List Nat) : textOf (bs.take 255) = textOf bs := by
  unfold textOf
  rw [List.take_take, List.length_take]
  simp
theorem text_take (bs R : List Nat) (m : Nat) (hm : m = min bs.length 255) : (textOf bs ++ R).getD 0 0 = m ∧ strOf (((textOf bs ++ R).drop 1).take m) = strOf (bs.take 255) ∧ ((textOf bs ++ R).drop 1).drop m = R ∧ 1 + m ≤ (textOf bs ++ R).length := by
  have hl : (bs.take 255).length = m := by rw [List.length_take, hm, Nat.min_comm]
  have e : textOf bs = m :: bs.take 255 := by unfold textOf; rw [hl]
  rw [e]
  refine ⟨rfl, ?_, ?_, ?_⟩
  · rw [List.cons_append, List.drop_succ_cons, List.drop_zero, List.take_left' hl]
  · rw [List.cons_append, List.drop_succ_cons, List.drop_zero, List.drop_left' hl]
  · rw [List.cons_append, List.length_cons, List.length_append, hl]; omega
theorem rests_app (K : Nat → Int) (N : Nat → Nat) (B : Nat → List Nat) (m k i : Nat) : rests K N B i (k + m) = rests K N B i k ++ rests K N B (i + k) m := by
  induction m with
  | zero => simp [rests]
  | succ m ih => rw [← Nat.add_assoc, rests_snoc, ih, rests_snoc, List.append_assoc, Nat.add_assoc]
theorem rests_le (K : Nat → Int) (N : Nat → Nat) (B : Nat → List Nat) {k n M : Nat} (h : k < n) (hm : (rests K N B 0 n).length ≤ M) : (rests K N B k (n - k)).length ≤ M := by
  have h1 := rests_app K N B (n - k) k 0
  rw [show k + (n - k) = n by omega, Nat.zero_add] at h1
  rw [h1, List.length_append] at hm
  omega

set_option maxRecDepth 100000 in
set_option maxHeartbeats 1000000 in
theorem backBy (al aS aL : Nat) (ia : Option Addr) (n cap : Nat) (K : Nat → Int) (N : Nat → Nat) (A : Nat → Option Addr) (L C : Nat → Nat) (B : Nat → List Nat) (w w7 : World) (vL : Value) (hi : InItems w ia n cap K N A L C B) (hl : Light n L)
    (h07 : Below w.heap.size w w7) (p1 : w.heap.size ≤ al) (p2 : w.heap.size ≤ aS) (p3 : w.heap.size ≤ aL) (p4 : al ≠ aS) (p5 : aS ≠ aL) (p6 : al ≠ aL)
    (hcl : w7.cell? ⟨al, 0, none⟩ = some (.slice ia n cap)) (hcs : w7.cell? ⟨aS, 0, none⟩ = some (.bool true)) (hfs : w7.frozen? ⟨aS, 0, none⟩ = false) (hcL : w7.cell? ⟨aL, 0, none⟩ = some vL) (hfL : w7.frozen? ⟨aL, 0, none⟩ = false) (hlen : (rests K N B 0 n).length ≤ 30000) :
    ByOk 12 #[.pointer (some ⟨al, 0, none⟩), .pointer (some ⟨aS, 0, none⟩), .pointer (some ⟨aL, 0, none⟩)] (rests K N B 0 n) w7 (fun W => Below w.heap.size w W ∧ W.cell? ⟨aS, 0, none⟩ = some (.bool true) ∧ W.cell? ⟨aL, 0, none⟩ = some (.int .i64 0)) := by
  intro W pr pg a c hrd hb hp3
  have hp : w7.heap.size ≤ pr := by omega
  have q4 : al < w7.heap.size := World.block_lt_of_cell? w7 ⟨al, 0, none⟩ hcl
  have q5 : aS < w7.heap.size := World.block_lt_of_cell? w7 ⟨aS, 0, none⟩ hcs
  have q6 : aL < w7.heap.size := World.block_lt_of_cell? w7 ⟨aL, 0, none⟩ hcL
  have HAT : Hid (BackAt w w7 al aS aL pr) := ⟨p1, p2, p3, q4, q5, q6, p4, p5, p6, hp3⟩
  have hB0 : BackI w w7 W al aS aL pr pg ia n cap W (rests K N B 0 n) :=
    ⟨⟨a, c, hrd⟩, ⟨Nat.le_refl _, fun _ _ _ _ => rfl⟩, h07.trans (hb.mono h07.size), below_cell hb hcl, below_cell hb hcs, by rw [hb.frozen (p := ⟨aS, 0, none⟩) q5]; exact hfs, ⟨vL, below_cell hb hcL⟩, by rw [hb.frozen (p := ⟨aL, 0, none⟩) q6]; exact hfL⟩
  obtain ⟨h40, h400⟩ := hl
  have HL := Lib.hid h400
  have HI := Lib.hid hi
  have hcap : cap ≤ maxLen := hi.2.1
  have hnc : n ≤ cap := hi.1
  have HLEN := Lib.hid hlen
  have HAL := hB0.cl
  clear h400 hcl hcs hfs hcL hfL hrd hb h07 p1 p2 p3 p4 p5 p6 hlen hi
  show Calls Try.prog _ #[.pointer (some ⟨pr, 0, none⟩), .pointer (some ⟨al, 0, none⟩), .pointer (some ⟨aS, 0, none⟩), .pointer (some ⟨aL, 0, none⟩)] W _
  go_enter Try.func12, Try.ntmps12
  go_wp2_with fail
  go_loopw [5] (fun i wr => ∃ k : Nat, k ≤ n ∧ i = .int .i64 k ∧ BackI w w7 W al aS aL pr pg ia n cap wr (rests K N B k (n - k))) (fun i _ => n - (intOf i).toNat)
  case atStart => exact ⟨0, by omega, rfl, hB0⟩
  case round =>
    obtain ⟨k, hk, rfl, hB⟩ := hrel
    clear hB0 HAL
    have hal := hB.cl
    by_cases hlt : k < n
    · obtain ⟨b, off, hia, hc0, hc1, hc2, hrow⟩ := hB.cells HI.out hlt
      have HIA := Lib.hid hia
      have hst := rests_step K N B hlt
      have hlk := rests_le K N B hlt HLEN.out
      rw [hst] at hB hlk
      have HLK := Lib.hid hlk
      clear hia hst hlk
      rw [HIA.out]
      rw [HIA.out] at hal
      by_cases k1 : K k = 1
      · rw [k1] at hc0 hB
        have hE : enc 1 (N k) (B k) = Crc.les 1 (N k) := by simp [enc]
        rw [hE] at hB
        obtain ⟨R, hR⟩ : ∃ R, R = rests K N B (k + 1) (n - (k + 1)) := ⟨_, rfl⟩
        rw [← hR] at hB
        have HR := Lib.hid hR
        obtain ⟨ar, cr, hrd⟩ := hB.rd
        obtain ⟨M, hM⟩ : ∃ M, M = N k % 256 := ⟨_, rfl⟩
        have hM1 : (Crc.les 1 (N k) ++ R).getD 0 0 = M := by rw [hM]; simp [Crc.les]
        have hM2 : (Crc.les 1 (N k) ++ R).drop 1 = R := by rw [List.drop_left' (Crc.les_len 1 (N k))]
        have hM3 : 1 ≤ (Crc.les 1 (N k) ++ R).length := by rw [List.length_append, Crc.les_len]; omega
        have hcmp : ((M : Int) == (N k : Int) % 256) = true := by rw [hM]; simp
        have HM1 := Lib.hid hM1
        have HM2 := Lib.hid hM2
        clear k1 hE hR hM hM1 hM2
        have hsame := hB.cs
        go_wp2_with fail
        refine (rU8_ok hrd hM3).mono ?_
        intro e w1 h1
        rw [HM1.out] at h1
        obtain ⟨rfl, hB1⟩ := hB.num HAT.out h1
        rw [HM2.out] at hB1
        clear h1 hB hrd hsame hc0 hc1 hc2 hrow hal
        have hsame := hB1.cs
        have hfr := hB1.fs
        go_wp2
        exact ⟨⟨k + 1, by omega, by go_num, by rw [← HIA.out, ← HR.out]; exact hB1.set HAT.out⟩, by simp [intOf]; omega⟩
      by_cases k2 : K k = 2
      · rw [k2] at hc0 hB
        have hE : enc 2 (N k) (B k) = Crc.les 2 (N k) := by simp [enc]
        rw [hE] at hB
        obtain ⟨R, hR⟩ : ∃ R, R = rests K N B (k + 1) (n - (k + 1)) := ⟨_, rfl⟩
        rw [← hR] at hB
        have HR := Lib.hid hR
        obtain ⟨ar, cr, hrd⟩ := hB.rd
        obtain ⟨M, hM⟩ : ∃ M, M = N k % 65536 := ⟨_, rfl⟩
        have hM1 : leVal ((Crc.les 2 (N k) ++ R).take 2) = M := by rw [hM, List.take_left' (Crc.les_len 2 (N k)), leVal_les]
        have hM2 : (Crc.les 2 (N k) ++ R).drop 2 = R := by rw [List.drop_left' (Crc.les_len 2 (N k))]
        have hM3 : 2 ≤ (Crc.les 2 (N k) ++ R).length := by rw [List.length_append, Crc.les_len]; omega
        have hcmp : ((M : Int) == IntKind.u16.wrap (N k : Int)) = true := by rw [hM, IntKind.wrap_u16]; simp
        have HM1 := Lib.hid hM1
        have HM2 := Lib.hid hM2
        clear k2 hE hR hM hM1 hM2
        have hsame := hB.cs
        go_wp2_with fail
        refine (rU16_ok hrd hM3).mono ?_
        intro e w1 h1
        rw [HM1.out] at h1
        obtain ⟨rfl, hB1⟩ := hB.num HAT.out h1
        rw [HM2.out] at hB1
        clear h1 hB hrd hsame hc0 hc1 hc2 hrow hal
        have hsame := hB1.cs
        have hfr := hB1.fs
        go_wp2
        exact ⟨⟨k + 1, by omega, by go_num, by rw [← HIA.out, ← HR.out]; exact hB1.set HAT.out⟩, by simp [intOf]; omega⟩
      by_cases k3 : K k = 3
      · rw [k3] at hc0 hB
        have hE : enc 3 (N k) (B k) = B k := by simp [enc]
        rw [hE] at hB
        obtain ⟨R, hR⟩ : ∃ R, R = rests K N B (k + 1) (n - (k + 1)) := ⟨_, rfl⟩
        rw [← hR] at hB
        have HR := Lib.hid hR
        obtain ⟨ar, cr, hrd⟩ := hB.rd
        have hbl := hrow.1
        have hM1 : (B k ++ R).take (L k) = B k := List.take_left' hbl
        have hM2 : (B k ++ R).drop (L k) = R := List.drop_left' hbl
        have hM3 : L k ≤ (B k ++ R).length := by rw [List.length_append]; omega
        have HM1 := Lib.hid hM1
        have HM2 := Lib.hid hM2
        have HBL := Lib.hid hbl
        have hl7 : (B k ++ R).length ≤ 100000 := by have h7 := HLK.out; rw [k3, hE, ← hR] at h7; omega
        clear k3 hE hR hM1 hM2 hbl
        have hsame := hB.cs
        have hi2 : ∀ wx, BackI w w7 W al aS aL pr pg ia n cap wx R → wx.cell? ⟨b, off + k * 3 + 2, none⟩ = some (.slice (A k) (L k) (C k)) := fun wx hx => by
          obtain ⟨b2, off2, e2, _, _, h2, _⟩ := hx.cells HI.out hlt
          rw [HIA.out] at e2
          cases e2
          exact h2
        have hal2 : ∀ wx, BackI w w7 W al aS aL pr pg ia n cap wx R → wx.cell? ⟨al, 0, none⟩ = some (.slice (some ⟨b, off, none⟩) n cap) := fun wx hx => by rw [hx.cl, HIA.out]
        have HI2 := Lib.hid hi2
        have HAL2 := Lib.hid hal2
        clear hi2 hal2
        go_wp2_with fail
        go_region_held3 (fun w' => w'.cell? ⟨al, 0, none⟩ = some (.slice (some ⟨b, off, none⟩) n cap) ∧ w'.cell? ⟨b, off + k * 3 + 2, none⟩ = some (.slice (A k) (L k) (C k)) ∧ w'.cell? ⟨aS, 0, none⟩ = some (.bool true)) (first | exact hS | exact hS2 | go_keep)
          (first
            | (go_simp; go_at_call 16; ((with_reducible refine (rRaw_ok (pg := pg) (c := cr) (a := ar) (L k) ?_ hM3 hl7).mono ?_)); (· exact hrd); (intro e w1 h1; obtain ⟨sv, rfl, ho1, hB1⟩ := hB.drew.raw HAT.out h1; rw [HM2.out] at hB1; rw [HM1.out] at ho1; obtain ⟨a5, c5, hsv, hr5, _⟩ := row_of_own ho1; rw [HBL.out] at hsv hr5; subst hsv; have hr6 := rowOf HI.out hlt hB1; have hfr1 := hB1.fs; clear h1 ho1; have hS := And.intro (HAL2.out _ hB1) (And.intro (HI2.out _ hB1) hB1.cs); have hS2 := And.intro (HAL2.out _ (hB1.set HAT.out)) (And.intro (HI2.out _ (hB1.set HAT.out)) (hB1.set HAT.out).cs)))
            | (go_simp; go_at_call 15; ((with_reducible refine (same_any _ _ _ _ _ _ _ _ hr5 hr6).mono ?_)); (rintro e w' ⟨rfl, rfl⟩)))
        go_wp2
        exact ⟨⟨k + 1, by omega, by go_num, by rw [← HIA.out, ← HR.out]; exact hB1.set HAT.out⟩, by simp [intOf]; omega⟩
      by_cases k4 : K k = 4
      · rw [k4] at hc0 hB
        have hE : enc 4 (N k) (B k) = Crc.les 4 (N k) := by simp [enc]
        rw [hE] at hB
        obtain ⟨R, hR⟩ : ∃ R, R = rests K N B (k + 1) (n - (k + 1)) := ⟨_, rfl⟩
        rw [← hR] at hB
        have HR := Lib.hid hR
        obtain ⟨ar, cr, hrd⟩ := hB.rd
        obtain ⟨M, hM⟩ : ∃ M, M = N k % 4294967296 := ⟨_, rfl⟩
        have hM1 : leVal ((Crc.les 4 (N k) ++ R).take 4) = M := by rw [hM, List.take_left' (Crc.les_len 4 (N k)), leVal_les]
        have hM2 : (Crc.les 4 (N k) ++ R).drop 4 = R := by rw [List.drop_left' (Crc.les_len 4 (N k))]
        have hM3 : 4 ≤ (Crc.les 4 (N k) ++ R).length := by rw [List.length_append, Crc.les_len]; omega
        have hcmp : ((M : Int) == (N k : Int) % 4294967296) = true := by rw [hM]; simp
        have HM1 := Lib.hid hM1
        have HM2 := Lib.hid hM2
        clear k4 hE hR hM hM1 hM2
        have hsame := hB.cs
        go_wp2_with fail
        refine (rU32_ok hrd hM3).mono ?_
        intro e w1 h1
        rw [HM1.out] at h1
        obtain ⟨rfl, hB1⟩ := hB.num HAT.out h1
        rw [HM2.out] at hB1
        clear h1 hB hrd hsame hc0 hc1 hc2 hrow hal
        have hsame := hB1.cs
        have hfr := hB1.fs
        go_wp2
        exact ⟨⟨k + 1, by omega, by go_num, by rw [← HIA.out, ← HR.out]; exact hB1.set HAT.out⟩, by simp [intOf]; omega⟩
      by_cases k5 : K k = 5
      · rw [k5] at hc0 hB
        have hE : enc 5 (N k) (B k) = textOf (B k) := by simp [enc]
        rw [hE] at hB
        obtain ⟨R, hR⟩ : ∃ R, R = rests K N B (k + 1) (n - (k + 1)) := ⟨_, rfl⟩
        rw [← hR] at hB
        have HR := Lib.hid hR
        obtain ⟨ar, cr, hrd⟩ := hB.rd
        obtain ⟨m, hm⟩ : ∃ m, m = min (B k).length 255 := ⟨_, rfl⟩
        obtain ⟨T, hT⟩ : ∃ T, T = strOf ((B k).take 255) := ⟨_, rfl⟩
        have hb8 := hrow.2.1
        obtain ⟨hM1, hM2, hM4, hM5⟩ := text_take (B k) R m hm
        have hM3 : 1 ≤ (textOf (B k) ++ R).length := by omega
        have hTx : textOf (sbytes T) = textOf (B k) := by rw [hT, sbytes_strOf (fun x hx => hb8 x (List.mem_of_mem_take hx)), textOf_take]
        have hTy : textOf (sbytes (strOf (B k))) = textOf (B k) := by rw [sbytes_strOf hb8]
        have hbl := hrow.1
        have hTs : T.size ≤ maxLen := by rw [hT, strOf_size, List.length_take]; unfold maxLen; omega
        have hTz : (strOf (B k)).size ≤ maxLen := by rw [strOf_size, hbl]; have := HL.out k hlt; unfold maxLen; omega
        obtain ⟨S2, hS2⟩ : ∃ S2, S2 = strOf (B k) := ⟨_, rfl⟩
        rw [← hS2] at hTy hTz
        obtain ⟨X, hX⟩ : ∃ X, X = textOf (B k) := ⟨_, rfl⟩
        rw [← hT] at hM2
        have HM2 := Lib.hid hM2
        have HM4 := Lib.hid hM4
        have HX := Lib.hid hX
        have HTX := Lib.hid hTx
        have HTY := Lib.hid hTy
        have HS2 := Lib.hid hS2
        have HM1 := Lib.hid hM1
        clear k5 hE hR hM1 hM2 hM4 hX hTx hTy hS2 hm hT hb8 hbl
        have hsame := hB.cs
        have hcv : ∀ (bx : List Nat) (wx : World), BackI w w7 W al aS aL pr pg ia n cap wx bx → (convert 26 9 (.slice (A k) (L k) (C k))).run Try.prog wx = .ok (.string S2) wx := fun bx wx hx => by
          rw [HS2.out]; exact conv_str wx (A k) (L k) (C k) (B k) (rowOf HI.out hlt hx)
        have HCV := Lib.hid hcv
        have hS0 := And.intro hal (And.intro hc2 (And.intro hsame (hcv _ _ hB.drew)))
        clear hcv
        have hi2 : ∀ wx, BackI w w7 W al aS aL pr pg ia n cap wx R → wx.cell? ⟨b, off + k * 3 + 2, none⟩ = some (.slice (A k) (L k) (C k)) := fun wx hx => by
          obtain ⟨b2, off2, e2, _, _, h2, _⟩ := hx.cells HI.out hlt
          rw [HIA.out] at e2
          cases e2
          exact h2
        have hal2 : ∀ wx, BackI w w7 W al aS aL pr pg ia n cap wx R → wx.cell? ⟨al, 0, none⟩ = some (.slice (some ⟨b, off, none⟩) n cap) := fun wx hx => by rw [hx.cl, HIA.out]
        have HI2 := Lib.hid hi2
        have HAL2 := Lib.hid hal2
        clear hi2 hal2
        go_wp2_with fail
        go_region_held3 (fun w' => w'.cell? ⟨al, 0, none⟩ = some (.slice (some ⟨b, off, none⟩) n cap) ∧ w'.cell? ⟨b, off + k * 3 + 2, none⟩ = some (.slice (A k) (L k) (C k)) ∧ w'.cell? ⟨aS, 0, none⟩ = some (.bool true) ∧ (convert 26 9 (.slice (A k) (L k) (C k))).run Try.prog w' = .ok (.string S2) w') (first | exact hS0 | exact hS3 | exact hS4 | exact hS2 | exact hS1 | go_keep)
          (first
            | (go_simp; go_at_call 19; ((with_reducible refine (rText_ok (pg := pg) (c := cr) (a := ar) m ?_ hM3 HM1.out hM5).mono ?_)); (· exact hrd); (intro e w1 h1; obtain ⟨rfl, hB1⟩ := hB.drew.text HAT.out h1; rw [HM4.out] at hB1; rw [HM2.out]; clear h1; have hS1 := And.intro (HAL2.out _ hB1) (And.intro (HI2.out _ hB1) (And.intro hB1.cs (HCV.out _ _ hB1)))))
            | (go_simp; go_at_call 18; ((with_reducible refine (refText_any T _ hTs).mono ?_)); (intro e w2 h2; rw [HTX.out, ← HX.out] at h2; obtain ⟨a5, c5, rfl, hr5, _, _, hb12⟩ := retOwn_len h2; have hB2 := hB1.below HAT.out hb12; clear h2; have hS2 := And.intro (HAL2.out _ hB2) (And.intro (HI2.out _ hB2) (And.intro hB2.cs (HCV.out _ _ hB2)))))
            | (go_simp; go_at_call 18; ((with_reducible refine (refText_any S2 _ hTz).mono ?_)); (intro e w3 h3; rw [HTY.out, ← HX.out] at h3; obtain ⟨a6, c6, rfl, hr6, _, _, hb23⟩ := retOwn_len h3; have hB3 := hB2.below HAT.out hb23; have hr53 := row_keep hr5 hb23 (Nat.le_refl _); clear h3; have hfr3 := hB3.fs; have hS3 := And.intro (HAL2.out _ hB3) (And.intro (HI2.out _ hB3) (And.intro hB3.cs (HCV.out _ _ hB3))); have hS4 := And.intro (HAL2.out _ (hB3.set HAT.out)) (And.intro (HI2.out _ (hB3.set HAT.out)) (And.intro (hB3.set HAT.out).cs (HCV.out _ _ (hB3.set HAT.out))))))
            | (go_simp; go_at_call 15; ((with_reducible refine (same_any _ _ _ _ _ _ _ _ hr53 hr6).mono ?_)); (rintro e w' ⟨rfl, rfl⟩)))
        go_wp2
        exact ⟨⟨k + 1, by omega, by go_num, by rw [← HIA.out, ← HR.out]; exact hB3.set HAT.out⟩, by simp [intOf]; omega⟩
      by_cases k8 : K k = 8
      · rw [k8] at hc0 hB
        have hE : enc 8 (N k) (B k) = Crc.les 8 (N k) := by simp [enc]
        rw [hE] at hB
        obtain ⟨R, hR⟩ : ∃ R, R = rests K N B (k + 1) (n - (k + 1)) := ⟨_, rfl⟩
        rw [← hR] at hB
        have HR := Lib.hid hR
        obtain ⟨ar, cr, hrd⟩ := hB.rd
        obtain ⟨M, hM⟩ : ∃ M, M = N k % 18446744073709551616 := ⟨_, rfl⟩
        have hM1 : leVal ((Crc.les 8 (N k) ++ R).take 8) = M := by rw [hM, List.take_left' (Crc.les_len 8 (N k)), leVal_les]
        have hM2 : (Crc.les 8 (N k) ++ R).drop 8 = R := by rw [List.drop_left' (Crc.les_len 8 (N k))]
        have hM3 : 8 ≤ (Crc.les 8 (N k) ++ R).length := by rw [List.length_append, Crc.les_len]; omega
        have hcmp : ((M : Int) == (N k : Int)) = true := by rw [hM, Nat.mod_eq_of_lt (HI.out.2.2.2 k hlt).2.1]; simp
        have HM1 := Lib.hid hM1
        have HM2 := Lib.hid hM2
        clear k8 hE hR hM hM1 hM2
        have hsame := hB.cs
        go_wp2_with fail
        refine (rU64_ok hrd hM3).mono ?_
        intro e w1 h1
        rw [HM1.out] at h1
        obtain ⟨rfl, hB1⟩ := hB.num HAT.out h1
        rw [HM2.out] at hB1
        clear h1 hB hrd hsame hc0 hc1 hc2 hrow hal
        have hsame := hB1.cs
        have hfr := hB1.fs
        go_wp2
        exact ⟨⟨k + 1, by omega, by go_num, by rw [← HIA.out, ← HR.out]; exact hB1.set HAT.out⟩, by simp [intOf]; omega⟩
      have d1 : (K k == 1) = false := by simpa using k1
      have d2 : (K k == 2) = false := by simpa using k2
      have d3 : (K k == 3) = false := by simpa using k3
      have d4 : (K k == 4) = false := by simpa using k4
      have d5 : (K k == 5) = false := by simpa using k5
      have d8 : (K k == 8) = false := by simpa using k8
      have hE : enc (K k) (N k) (B k) = [] := by simp [enc, k1, k2, k3, k4, k5, k8]
      rw [hE, List.nil_append] at hB
      obtain ⟨R, hR⟩ : ∃ R, R = rests K N B (k + 1) (n - (k + 1)) := ⟨_, rfl⟩
      rw [← hR] at hB
      have HR := Lib.hid hR
      obtain ⟨ar, cr, hrd⟩ := hB.rd
      clear k1 k2 k3 k4 k5 k8 hE hR
      have hsame := hB.cs
      have hfr := hB.fs
      go_wp2_with fail
      refine (left_ok hrd).mono ?_
      rintro e w1 ⟨rfl, hw1⟩
      subst hw1
      go_wp2
      exact ⟨⟨k + 1, by omega, by go_num, by rw [← HIA.out, ← HR.out]; exact hB.set HAT.out⟩, by simp [intOf]; omega⟩
    · obtain rfl : k = n := by omega
      have hE : rests K N B k (k - k) = [] := by rw [Nat.sub_self]; rfl
      rw [hE] at hB
      obtain ⟨ar, cr, hrd⟩ := hB.rd
      obtain ⟨v2, hv2⟩ := hB.cL
      have hf2 := hB.fL
      clear hE
      go_wp2_with fail
      refine (left_ok hrd).mono ?_
      rintro e w1 ⟨rfl, hw1⟩
      subst hw1
      go_wp2
      go_end0
      refine ⟨rfl, inner_set hB.inner q6 _, hB.bel.setCell (p := ⟨aL, 0, none⟩) (HAT.out.2.2.1) _, ?_, by simp [go_sem, hv2]⟩
      rw [World.cell?_setCell_other _ _ _ _ (fun e => HAT.out.2.2.2.2.2.2.2.1 (by have := congrArg Addr.block e; simp at this; exact this.symm))]
      exact hB.cs

end Go.Proofs.Ytejhdafipjajnaa
