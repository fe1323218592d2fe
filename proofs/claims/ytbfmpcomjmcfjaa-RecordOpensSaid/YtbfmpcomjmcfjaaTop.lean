/- TopFrames: frames, plain; bits turned; where its own function stands. -/
import Derived.Test.YtbfmpcomjmcfjaaSets
import Derived.Test.YtbfmpcomjmcfjaaReaderMore
import Derived.Test.YtbfmpcomjmcfjaaSumOf
import Derived.Test.YtbfmpcomjmcfjaaTurn
import Derived.Test.YtbfmpcomjmcfjaaFrameParts
import Derived.StillTailTactics
import Derived.Deep.Draws
namespace Go.Proofs.Ytbfmpcomjmcfjaa
open Go.RowKit

/-- A text with its length and its sum. -/
def frame (b : List Nat) : List Nat := Crc.les 4 b.length ++ (Crc.les 4 (Crc.of b) ++ b)
theorem frame_len (b : List Nat) : (frame b).length = 8 + b.length := by
  unfold frame
  rw [List.length_append, List.length_append, Crc.les_len, Crc.les_len]; omega
def frames (B : Nat → List Nat) : Nat → Nat → List Nat
  | _, 0 => []
  | i, m + 1 => frame (B i) ++ frames B (i + 1) m
theorem frames_snoc (B : Nat → List Nat) (m i : Nat) : frames B i (m + 1) = frames B i m ++ frame (B (i + m)) := by
  induction m generalizing i with
  | zero => simp [frames]
  | succ m ih => rw [frames, ih, frames, List.append_assoc, show i + 1 + m = i + (m + 1) by omega]
theorem frames_step (B : Nat → List Nat) {k n : Nat} (h : k < n) : frames B k (n - k) = frame (B k) ++ frames B (k + 1) (n - (k + 1)) := by
  rw [show n - k = (n - (k + 1)) + 1 by omega, frames]
theorem frames_len (B : Nat → List Nat) (m i : Nat) (h : ∀ j, i ≤ j → j < i + m → (B j).length ≤ 300) : (frames B i m).length ≤ 308 * m := by
  induction m generalizing i with
  | zero => simp [frames]
  | succ m ih =>
    have h1 := ih (i + 1) (fun j h1 h2 => h j (by omega) (by omega))
    have h2 := h i (by omega) (by omega)
    rw [frames, List.length_append, frame_len]; omega

theorem bit_test (B k : Nat) (hB : B < 4294967296) : (bits BinOp.and IntKind.u32 ((B : Int) / 2 ^ k) 1 == 1) = decide (B / 2 ^ k % 2 = 1) := by
  have h := odd_test (B / 2 ^ k) (Nat.lt_of_le_of_lt (Nat.div_le_self _ _) hB)
  rw [← h]
  simp
theorem quo_wrap {r k : Nat} (h : r + k < 100000) : IntKind.i64.wrap (((r : Int) + (k : Int)).tdiv 8) = (((r + k) / 8 : Nat) : Int) := by
  rw [Int.tdiv_eq_ediv_of_nonneg (by omega), IntKind.wrap_i64]; omega
theorem rem_plain (r k : Nat) : ((r : Int) + (k : Int)).tmod 8 = (((r + k) % 8 : Nat) : Int) := by
  rw [Int.tmod_eq_emod_of_nonneg (by omega)]; omega
theorem pow_lt8 (s : Nat) (h : s < 8) : 2 ^ s < 256 := by
  have h1 : 2 ^ s ≤ 2 ^ 7 := Nat.pow_le_pow_right (by omega) (by omega)
  omega
theorem xor_pow (y s : Nat) (hy : y < 256) (hs : s < 8) : bits BinOp.xor IntKind.u8 (y : Int) (IntKind.u8.wrap (2 ^ s)) = ((y ^^^ 2 ^ s : Nat) : Int) := by
  have h1 := pow_lt8 s hs
  have h2 : IntKind.u8.wrap (2 ^ s) = ((2 ^ s : Nat) : Int) := by
    have e : ((2 : Int) ^ s) = ((2 ^ s : Nat) : Int) := by simp
    rw [IntKind.wrap_u8, e]
    clear e
    generalize 2 ^ s = p at h1 ⊢
    omega
  rw [h2]
  exact u8_xor_nat y (2 ^ s) hy h1
theorem xor_pow_lt (y s : Nat) (hy : y < 256) (hs : s < 8) : y ^^^ 2 ^ s < 256 := Nat.xor_lt_two_pow (n := 8) hy (pow_lt8 s hs)
theorem neq_true_of {x y : Nat} (h : x ≠ y) : ((x : Int) != (y : Int)) = true := by
  rw [bne_iff_ne]; omega
/-- Bytes of the call's own at a known place. -/
def OwnB (B : Nat) (w : World) (g n cap : Nat) (l : List Nat) : Prop := Own B w (.slice (some ⟨g, 0, none⟩) n cap) l ∧ l.length = n
theorem ownB_of {B : Nat} {w : World} {sv : Value} {l : List Nat} (h : Own B w sv l) (h0 : 0 < l.length) : ∃ g cap, sv = .slice (some ⟨g, 0, none⟩) l.length cap ∧ B ≤ g ∧ g < w.heap.size ∧ OwnB B w g l.length cap l ∧ l.length ≤ maxLen := by
  have hlt := own_base h
  have h' := h
  rcases h.1.2 with ⟨_, h2⟩ | ⟨g, cap, cur, rfl, hb, _, hc1, hc2, _⟩
  · omega
  · have := hlt g rfl
    exact ⟨g, cap, rfl, hb, this.2, ⟨h', rfl⟩, Nat.le_trans hc1 hc2⟩
theorem ownB_cell {B : Nat} {w : World} {g n cap : Nat} {l : List Nat} (h : OwnB B w g n cap l) (j : Nat) (hj : j < n) : w.cell? ⟨g, j, none⟩ = some (.int .u8 ((l.getD j 0 : Nat) : Int)) := by
  have hl := h.2
  obtain ⟨h1, _⟩ := h
  have h2 := h1.1
  rw [hl] at h2
  rw [h2.cellAt j (by omega), List.getElem?_map, List.getElem?_eq_getElem (by omega), getD_in _ _ (by omega)]
  rfl
theorem ownB_frozen {B : Nat} {w : World} {g n cap : Nat} {l : List Nat} (h : OwnB B w g n cap l) (j : Nat) : w.frozen? ⟨g, j, none⟩ = false := by
  have h2 := h.1.1
  rw [h.2] at h2
  exact h2.frozenAt j
theorem ownB_set {B : Nat} {w : World} {g n cap : Nat} {l : List Nat} (h : OwnB B w g n cap l) (j y : Nat) (hy : y < 256) : OwnB B (w.setCell ⟨g, j, none⟩ (.int .u8 (y : Int))) g n cap (l.set j y) := by
  have h2 := h.1.1
  rw [h.2] at h2
  refine ⟨⟨?_, Crc.set_lt _ _ _ h.1.2 hy⟩, by rw [List.length_set]; exact h.2⟩
  rw [List.map_set, List.length_set, h.2]
  exact (h2.stored j (u8v y)).1
theorem row_ownB {B : Nat} {w : World} {g n cap : Nat} {l : List Nat} (h : OwnB B w g n cap l) : Row w (some ⟨g, 0, none⟩) n l :=
  ⟨h.2, h.1.2, fun _ => ⟨g, 0, rfl, fun i hi => by rw [Nat.zero_add]; exact ownB_cell h i hi⟩⟩
theorem of_one (b : Nat) (o : Nat) (cap : Nat) (a : Option Addr) (len c : Nat) (bs : List Nat) (w : World)
    (hp : w.cell? ⟨b, o, none⟩ = some (.slice a len c)) (hl : len ≤ maxLen) (hr : Row w a len bs) :
    Calls Try.prog 86 #[.slice (some ⟨b, o, none⟩) 1 cap] w fun e w' => e = .returned (.int .u32 ((Crc.of bs : Nat) : Int)) ∧ w = w' := by
  have h := of_any 1 (some ⟨b, o, none⟩) cap (fun _ => a) (fun _ => len) (fun _ => c) (fun _ => bs) w (by unfold maxLen; omega)
    (fun _ => ⟨b, o, rfl, fun i hi => by rw [show i = 0 by omega]; exact hp⟩) (fun _ _ => ⟨hl, hr⟩)
  have e : flat (fun _ => bs) 1 = bs := by simp [flat]
  rw [e] at h
  exact h
/-- gabiontop.pick. -/
theorem pick_any (x : Int) (m : Nat) (h1 : 0 < m) (h2 : m ≤ 100000) : ∃ r : Nat, r < m ∧ ∀ w, Calls Try.prog 72 #[.int .i64 x, .int .i64 (m : Int)] w fun e w' => e = .returned (.int .i64 (r : Int)) ∧ w' = w := by
  have h0 := wrap_u64_nonneg x
  have e : (IntKind.u64.wrap x).tmod (m : Int) = (IntKind.u64.wrap x) % (m : Int) := Int.tmod_eq_emod_of_nonneg h0
  have h3 := Int.emod_nonneg (IntKind.u64.wrap x) (show (m : Int) ≠ 0 by omega)
  have h4 := Int.emod_lt_of_pos (IntKind.u64.wrap x) (show 0 < (m : Int) by omega)
  refine ⟨((IntKind.u64.wrap x) % (m : Int)).toNat, by omega, fun w => ?_⟩
  have hm0 : ((m : Int) == 0) = false := by rw [beq_eq_false_iff_ne]; omega
  have hm1 : (0 : Int) < (m : Int) := by omega
  have HR : Hid ((IntKind.u64.wrap x) % (m : Int) = ((((IntKind.u64.wrap x) % (m : Int)).toNat : Nat) : Int)) := Lib.hid (by omega)
  clear e
  go_enter Try.func72, Try.ntmps72
  go_wp2_with fail
  go_ret
  exact ⟨ret_int HR.out, rfl⟩

/-- Where the variables stand: the mark, the count; the texts, which, where, the bits. -/
def TopAt (w w7 : World) (p1 p2 p3 p4 p5 p6 pr : Nat) : Prop := w.heap.size ≤ p3 ∧ w.heap.size ≤ p4 ∧ w.heap.size ≤ p5 ∧ w.heap.size ≤ p6 ∧ p3 < p1 ∧ p4 < p1 ∧ p5 < p1 ∧ p6 < p1 ∧ p2 = p1 + 1 ∧ p2 < w7.heap.size ∧ w7.heap.size + 3 ≤ pr
structure TopV (p1 p2 p3 p4 p5 p6 : Nat) (a : Option Addr) (n c : Nat) (x y : Int) (z : Nat) (i : Nat) (wr : World) : Prop where
  c1 : wr.cell? ⟨p1, 0, none⟩ = some (.bool true)
  f1 : wr.frozen? ⟨p1, 0, none⟩ = false
  c2 : wr.cell? ⟨p2, 0, none⟩ = some (.int .i64 (i : Int))
  f2 : wr.frozen? ⟨p2, 0, none⟩ = false
  c3 : wr.cell? ⟨p3, 0, none⟩ = some (.slice a n c)
  c4 : wr.cell? ⟨p4, 0, none⟩ = some (.int .i64 x)
  c5 : wr.cell? ⟨p5, 0, none⟩ = some (.int .i64 y)
  c6 : wr.cell? ⟨p6, 0, none⟩ = some (.int .u32 (z : Int))
/-- Where the function stands; no row of the reader's lies in block G. -/
structure TopI (w w7 W : World) (p1 p2 p3 p4 p5 p6 pr pg : Nat) (a : Option Addr) (n c : Nat) (x y : Int) (z : Nat) (G : Nat) (i : Nat) (wr : World) (bs : List Nat) : Prop where
  rd : ∃ ra rc, RD wr pr pg ra rc bs ∧ ∀ q, ra = some q → 0 < bs.length → q.block ≠ G
  inner : Inner w7.heap.size W pr wr
  bel : Below w.heap.size w wr
  v : TopV p1 p2 p3 p4 p5 p6 a n c x y z i wr
section
variable {w w7 W wr w' : World} {p1 p2 p3 p4 p5 p6 pr pg n c z G i : Nat} {a : Option Addr} {x y : Int} {bs bs' : List Nat}
theorem TopV.keep {B : Nat} (h : TopV p1 p2 p3 p4 p5 p6 a n c x y z i wr) (hk : ∀ k, k < B → w'.heap[k]? = wr.heap[k]?) (h1 : p1 < B) (h2 : p2 < B) (h3 : p3 < B) (h4 : p4 < B) (h5 : p5 < B) (h6 : p6 < B) : TopV p1 p2 p3 p4 p5 p6 a n c x y z i w' := by
  have hc : ∀ (b : Nat) (v : Value), b < B → wr.cell? ⟨b, 0, none⟩ = some v → w'.cell? ⟨b, 0, none⟩ = some v := fun b v hb hv => by
    rw [World.cell?_of_block (w := wr) (a := ⟨b, 0, none⟩) (hk b hb)]; exact hv
  have hf : ∀ (b : Nat), b < B → wr.frozen? ⟨b, 0, none⟩ = false → w'.frozen? ⟨b, 0, none⟩ = false := fun b hb hx => by
    rw [World.frozen?_of_block (w := wr) (a := ⟨b, 0, none⟩) (hk b hb)]; exact hx
  exact ⟨hc _ _ h1 h.c1, hf _ h1 h.f1, hc _ _ h2 h.c2, hf _ h2 h.f2, hc _ _ h3 h.c3, hc _ _ h4 h.c4, hc _ _ h5 h.c5, hc _ _ h6 h.c6⟩
theorem TopI.pr_lt (h : TopI w w7 W p1 p2 p3 p4 p5 p6 pr pg a n c x y z G i wr bs) : pr < wr.heap.size := by
  obtain ⟨ra, rc, hr, _⟩ := h.rd
  exact World.block_lt_of_cell? wr ⟨pr, 0, none⟩ (rd_cells hr).1
theorem TopI.step {G' : Nat} (h : TopI w w7 W p1 p2 p3 p4 p5 p6 pr pg a n c x y z G i wr bs) (hp : TopAt w w7 p1 p2 p3 p4 p5 p6 pr) (hk : ∀ k, k < wr.heap.size → k ≠ pr → w'.heap[k]? = wr.heap[k]?) (hz : wr.heap.size ≤ w'.heap.size) (h1 : w'.os = wr.os) (h2 : w'.tape = wr.tape) (h3 : w'.output = wr.output)
    (hrd : ∃ ra rc, RD w' pr pg ra rc bs' ∧ ∀ q, ra = some q → 0 < bs'.length → q.block ≠ G') : TopI w w7 W p1 p2 p3 p4 p5 p6 pr pg a n c x y z G' i w' bs' := by
  obtain ⟨q1, q2, q3, q4, q5, q6, q7, q8, q9, q10, q11⟩ := hp
  have hzw := h.pr_lt
  have hwz := h.bel.size
  refine ⟨hrd, ⟨Nat.le_trans h.inner.1 hz, fun k k1 k2 k3 => ?_⟩, ⟨h1.trans h.bel.os, h2.trans h.bel.tape, h3.trans h.bel.output, Nat.le_trans h.bel.size hz, fun k k1 => ?_⟩, h.v.keep (B := w7.heap.size) (fun k k1 => hk k (by omega) (by omega)) (by omega) (by omega) (by omega) (by omega) (by omega) (by omega)⟩
  · rw [hk k (Nat.lt_of_lt_of_le k2 h.inner.1) k3]; exact h.inner.2 k k1 k2 k3
  · rw [hk k (by omega) (by omega)]; exact h.bel.block k k1
theorem TopI.below (h : TopI w w7 W p1 p2 p3 p4 p5 p6 pr pg a n c x y z G i wr bs) (hp : TopAt w w7 p1 p2 p3 p4 p5 p6 pr) (hb : Below wr.heap.size wr w') : TopI w w7 W p1 p2 p3 p4 p5 p6 pr pg a n c x y z G i w' bs := by
  obtain ⟨ra, rc, hrd, hg⟩ := h.rd
  exact h.step hp (fun k k1 _ => hb.block k k1) hb.size hb.os hb.tape hb.output ⟨ra, rc, rd_below hrd hb, hg⟩
theorem TopI.num {rc s : Nat} {v : Value} {e : Ending} (h : TopI w w7 W p1 p2 p3 p4 p5 p6 pr pg a n c x y z pr i wr bs) (hp : TopAt w w7 p1 p2 p3 p4 p5 p6 pr) (hr : NumRet wr pr pg rc bs s v e w') : e = .returned v ∧ TopI w w7 W p1 p2 p3 p4 p5 p6 pr pg a n c x y z pr i w' (bs.drop s) := by
  obtain ⟨a2, rfl, rfl, hrd⟩ := hr
  exact ⟨rfl, h.step hp (fun k _ k2 => Below.heap_setCell _ _ _ _ k2) (by simp [World.setCell]) rfl rfl rfl ⟨_, _, hrd, fun q hq _ => hrd.2.2.2.2.2 q hq⟩⟩
/-- A block in which nothing of the reader's lies is written. -/
theorem TopI.poke {g off : Nat} {v : Value} (h : TopI w w7 W p1 p2 p3 p4 p5 p6 pr pg a n c x y z g i wr bs) (hp : TopAt w w7 p1 p2 p3 p4 p5 p6 pr) (hW : W.heap.size ≤ g) (hW7 : w7.heap.size ≤ W.heap.size) (hprW : pr < W.heap.size) : TopI w w7 W p1 p2 p3 p4 p5 p6 pr pg a n c x y z g i (wr.setCell ⟨g, off, none⟩ v) bs := by
  obtain ⟨q1, q2, q3, q4, q5, q6, q7, q8, q9, q10, q11⟩ := hp
  obtain ⟨ra, rc, hrd, hg⟩ := h.rd
  have hk : ∀ k, k ≠ g → (wr.setCell ⟨g, off, none⟩ v).heap[k]? = wr.heap[k]? := fun k hk => Below.heap_setCell _ _ _ _ hk
  refine ⟨⟨ra, rc, ?_, hg⟩, ⟨by simpa [World.setCell] using h.inner.1, fun k k1 k2 k3 => ?_⟩, h.bel.setCell (p := ⟨g, off, none⟩) (by show w.heap.size ≤ g; omega) _, h.v.keep (B := w7.heap.size) (fun k k1 => hk k (by omega)) (by omega) (by omega) (by omega) (by omega) (by omega) (by omega)⟩
  · obtain ⟨r1, r2, r3, r4, r5, r6⟩ := hrd
    refine ⟨by rw [hk pr (by omega)]; exact r1, ⟨r2.1, r2.2.1, fun h0 => ?_⟩, r3, r4, r5, r6⟩
    obtain ⟨b, o, e, hc⟩ := r2.2.2 h0
    refine ⟨b, o, e, fun j hj => ?_⟩
    rw [World.cell?_of_block (w := wr) (a := ⟨b, o + j, none⟩) (hk b (hg _ e h0))]
    exact hc j hj
  · rw [hk k (by omega)]; exact h.inner.2 k k1 k2 k3
theorem rd_setInt {b : Nat} {u v : Value} {ra : Option Addr} {rc : Nat} (hr : RD wr pr pg ra rc bs) (hb : b ≠ pr) (hc : wr.cell? ⟨b, 0, none⟩ = some u) (hu : ∀ q : Nat, u ≠ .int .u8 q) : RD (wr.setCell ⟨b, 0, none⟩ v) pr pg ra rc bs := by
  obtain ⟨r1, r2, r3, r4, r5, r6⟩ := hr
  refine ⟨by rw [Below.heap_setCell _ _ _ _ (by show pr ≠ b; omega)]; exact r1, ⟨r2.1, r2.2.1, fun h0 => ?_⟩, r3, r4, r5, r6⟩
  obtain ⟨b2, off, e, hcs⟩ := r2.2.2 h0
  refine ⟨b2, off, e, fun i hi => ?_⟩
  have hci := hcs i hi
  rw [World.cell?_setCell_other _ _ _ _ (fun e2 => by rw [← e2, hc] at hci; simp only [Option.some.injEq] at hci; exact hu _ hci)]
  exact hci
/-- The mark is set again. -/
theorem TopI.mark (h : TopI w w7 W p1 p2 p3 p4 p5 p6 pr pg a n c x y z G i wr bs) (hp : TopAt w w7 p1 p2 p3 p4 p5 p6 pr) : TopI w w7 W p1 p2 p3 p4 p5 p6 pr pg a n c x y z G i (wr.setCell ⟨p1, 0, none⟩ (.bool true)) bs := by
  obtain ⟨q1, q2, q3, q4, q5, q6, q7, q8, q9, q10, q11⟩ := hp
  obtain ⟨ra, rc, hrd, hg⟩ := h.rd
  have hk : ∀ k, k ≠ p1 → (wr.setCell ⟨p1, 0, none⟩ (.bool true)).heap[k]? = wr.heap[k]? := fun k hk => Below.heap_setCell _ _ _ _ hk
  have hc : ∀ (b : Nat) (v : Value), b ≠ p1 → wr.cell? ⟨b, 0, none⟩ = some v → (wr.setCell ⟨p1, 0, none⟩ (.bool true)).cell? ⟨b, 0, none⟩ = some v := fun b v hb hv => by
    rw [World.cell?_of_block (w := wr) (a := ⟨b, 0, none⟩) (hk b hb)]; exact hv
  refine ⟨⟨ra, rc, rd_setInt hrd (by omega) h.v.c1 (fun q e => by cases e), hg⟩, inner_set h.inner (by omega) _, h.bel.setCell (p := ⟨p1, 0, none⟩) (by show w.heap.size ≤ p1; omega) _,
    ?_, ?_, hc _ _ (by omega) h.v.c2, ?_, hc _ _ (by omega) h.v.c3, hc _ _ (by omega) h.v.c4, hc _ _ (by omega) h.v.c5, hc _ _ (by omega) h.v.c6⟩
  · simp [go_sem, h.v.c1]
  · simp [go_sem, h.v.f1]
  · rw [World.frozen?_of_block (w := wr) (a := ⟨p2, 0, none⟩) (hk p2 (by omega))]; exact h.v.f2
/-- The count goes up. -/
theorem TopI.bump (h : TopI w w7 W p1 p2 p3 p4 p5 p6 pr pg a n c x y z G i wr bs) (hp : TopAt w w7 p1 p2 p3 p4 p5 p6 pr) : TopI w w7 W p1 p2 p3 p4 p5 p6 pr pg a n c x y z pr (i + 1) (wr.setCell ⟨p2, 0, none⟩ (.int .i64 ((i : Int) + 1))) bs := by
  obtain ⟨q1, q2, q3, q4, q5, q6, q7, q8, q9, q10, q11⟩ := hp
  obtain ⟨ra, rc, hrd, hg⟩ := h.rd
  have hk : ∀ k, k ≠ p2 → (wr.setCell ⟨p2, 0, none⟩ (.int .i64 ((i : Int) + 1))).heap[k]? = wr.heap[k]? := fun k hk => Below.heap_setCell _ _ _ _ hk
  have hc : ∀ (b : Nat) (v : Value), b ≠ p2 → wr.cell? ⟨b, 0, none⟩ = some v → (wr.setCell ⟨p2, 0, none⟩ (.int .i64 ((i : Int) + 1))).cell? ⟨b, 0, none⟩ = some v := fun b v hb hv => by
    rw [World.cell?_of_block (w := wr) (a := ⟨b, 0, none⟩) (hk b hb)]; exact hv
  refine ⟨⟨ra, rc, rd_setInt hrd (by omega) h.v.c2 (fun q e => by cases e), fun q hq _ => hrd.2.2.2.2.2 q hq⟩, inner_set h.inner (by omega) _, h.bel.setCell (p := ⟨p2, 0, none⟩) (by show w.heap.size ≤ p2; omega) _,
    hc _ _ (by omega) h.v.c1, ?_, ?_, ?_, hc _ _ (by omega) h.v.c3, hc _ _ (by omega) h.v.c4, hc _ _ (by omega) h.v.c5, hc _ _ (by omega) h.v.c6⟩
  · rw [World.frozen?_of_block (w := wr) (a := ⟨p1, 0, none⟩) (hk p1 (by omega))]; exact h.v.f1
  · simp [go_sem, h.v.c2]
  · simp [go_sem, h.v.f2]
theorem TopI.drewN (h : TopI w w7 W p1 p2 p3 p4 p5 p6 pr pg a n c x y z G i wr bs) (m : Nat) : TopI w w7 W p1 p2 p3 p4 p5 p6 pr pg a n c x y z G i (wr.drewN m) bs := ⟨h.rd, h.inner, ⟨h.bel.os, h.bel.tape, h.bel.output, h.bel.size, h.bel.block⟩, ⟨h.v.c1, h.v.f1, h.v.c2, h.v.f2, h.v.c3, h.v.c4, h.v.c5, h.v.c6⟩⟩
theorem TopI.drew (h : TopI w w7 W p1 p2 p3 p4 p5 p6 pr pg a n c x y z G i wr bs) : TopI w w7 W p1 p2 p3 p4 p5 p6 pr pg a n c x y z G i wr.drew bs := ⟨h.rd, h.inner, h.bel.drew, ⟨h.v.c1, h.v.f1, h.v.c2, h.v.f2, h.v.c3, h.v.c4, h.v.c5, h.v.c6⟩⟩
end
/-- The reader's Raw, and where the row of what is left lies. -/
def RawRet2 (w : World) (pr pg : Nat) (c : Nat) (bs : List Nat) (n : Nat) (e : Ending) (w' : World) : Prop :=
  ∃ a2 w1, w1 = w.setCell ⟨pr, 0, none⟩ (.slice a2 (bs.length - n) (c - n)) ∧ RD w1 pr pg a2 (c - n) (bs.drop n) ∧ Below w1.heap.size w1 w' ∧ ∃ sv, e = .returned sv ∧ Own w1.heap.size w' sv (bs.take n)
set_option maxHeartbeats 400000 in
theorem rRaw2_ok {w : World} {pr pg c : Nat} {a : Option Addr} {bs : List Nat} (n : Nat) (h : RD w pr pg a c bs) (hn : n ≤ bs.length) (hl : bs.length ≤ 100000) :
    Calls Try.prog 154 #[.pointer (some ⟨pr, 0, none⟩), .int .i64 (n : Int)] w (RawRet2 w pr pg c bs n) := by
  have hl8 : n ≤ 100000000 := by omega
  have hnil := h.2.2.1
  have HH := Lib.hid h
  have HN := Lib.hid hn
  clear h hn
  go_enter Try.func154, Try.ntmps154
  go_wp2_with (first | (go_at_call 160; refine (take_ok n HH.out HN.out).mono ?_; (rintro e w1 ⟨a2, rfl, hw1, hrd, hrow⟩; have HW := Lib.hid hw1; clear hw1)) | (go_at_call 99; refine (clone_any a n c (bs.take n) _ ?_ hnil hl8).mono ?_; (· exact hrow); rintro e w2 ⟨sv, rfl, hown, hb⟩))
  go_ret
  exact ⟨a2, w1, HW.out, hrd, hb, sv, rfl, hown⟩
section
variable {w w7 W wr w' : World} {p1 p2 p3 p4 p5 p6 pr pg n c z i : Nat} {a : Option Addr} {x y : Int} {bs : List Nat}
theorem TopI.raw {rc s : Nat} {e : Ending} (h : TopI w w7 W p1 p2 p3 p4 p5 p6 pr pg a n c x y z pr i wr bs) (hp : TopAt w w7 p1 p2 p3 p4 p5 p6 pr) (hr : RawRet2 wr pr pg rc bs s e w') :
    ∃ sv, e = .returned sv ∧ Own wr.heap.size w' sv (bs.take s) ∧ ∀ g, wr.heap.size ≤ g → TopI w w7 W p1 p2 p3 p4 p5 p6 pr pg a n c x y z g i w' (bs.drop s) := by
  obtain ⟨a2, w1, hw1, hrd, hb, sv, rfl, ho⟩ := hr
  have hs : w1.heap.size = wr.heap.size := by rw [hw1]; simp [World.setCell]
  rw [hs] at ho
  refine ⟨sv, rfl, ho, fun g hg => h.step hp (fun k k1 k2 => ?_) (by have := hb.size; omega) (by rw [hb.os, hw1]; rfl) (by rw [hb.tape, hw1]; rfl) (by rw [hb.output, hw1]; rfl) ⟨_, _, rd_below hrd hb, fun q hq h0 => ?_⟩⟩
  · rw [hb.block k (by omega), hw1]; exact Below.heap_setCell _ _ _ _ k2
  · obtain ⟨b, off, e, hc⟩ := hrd.2.1.2.2 h0
    rw [hq] at e
    cases e
    have := World.block_lt_of_cell? w1 ⟨b, off + 0, none⟩ (hc 0 h0)
    show b ≠ g
    have h2 : b < w1.heap.size := this
    omega
end

end Go.Proofs.Ytbfmpcomjmcfjaa
