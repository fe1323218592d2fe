/- Parts of the proof: XorL, Parts. -/
import Derived.Test.YthgcjiocelcblaaGreatK00
import Derived.Deep.LoopGhost
import Derived.Test.YthgcjiocelcblaaGreatK01
namespace Go.Proofs.YthgcjiocelcblaaGreat
open Go.RowKit

theorem set_lt (l : List Nat) (j x : Nat) (h : ∀ y ∈ l, y < 256) (hx : x < 256) : ∀ y ∈ l.set j x, y < 256 := by
  intro y hy
  rcases List.mem_or_eq_of_mem_set hy with hy | rfl
  · exact h y hy
  · exact hx
/-- Bytes of the call's own at a known place. -/
def OwnB (B : Nat) (w : World) (g n cap : Nat) (l : List Nat) : Prop := Own B w (.slice (some ⟨g, 0, none⟩) n cap) l ∧ l.length = n
theorem ownB_of {B : Nat} {w : World} {sv : Value} {l : List Nat} (h : Own B w sv l) (h0 : 0 < l.length) : ∃ g cap, sv = .slice (some ⟨g, 0, none⟩) l.length cap ∧ B ≤ g ∧ g < w.heap.size ∧ OwnB B w g l.length cap l ∧ l.length ≤ maxLen := by
  have hlt := own_base h
  have h' := h
  rcases h.1.2 with ⟨_, h2⟩ | ⟨g, cap, cur, rfl, hb, _, hc1, hc2, _⟩
  · omega
  · have := hlt g rfl
    exact ⟨g, cap, rfl, hb, this.2, ⟨h', rfl⟩, Nat.le_trans hc1 hc2⟩
theorem ownB_cell {B : Nat} {w : World} {g n cap : Nat} {l : List Nat} (h : OwnB B w g n cap l) (j : Nat) (hj : j < n) : w.cell? ⟨g, j, none⟩ = some (.int .u8 ((l.getD j 0 : Nat) : Int)) := by
  have hl := h.2
  obtain ⟨h1, _⟩ := h
  have h2 := h1.1
  rw [hl] at h2
  rw [h2.cellAt j (by omega), List.getElem?_map, List.getElem?_eq_getElem (by omega), getD_in _ _ (by omega)]
  rfl
theorem ownB_frozen {B : Nat} {w : World} {g n cap : Nat} {l : List Nat} (h : OwnB B w g n cap l) (j : Nat) : w.frozen? ⟨g, j, none⟩ = false := by
  have h2 := h.1.1
  rw [h.2] at h2
  exact h2.frozenAt j
theorem ownB_set {B : Nat} {w : World} {g n cap : Nat} {l : List Nat} (h : OwnB B w g n cap l) (j y : Nat) (hy : y < 256) : OwnB B (w.setCell ⟨g, j, none⟩ (.int .u8 (y : Int))) g n cap (l.set j y) := by
  have h2 := h.1.1
  rw [h.2] at h2
  refine ⟨⟨?_, set_lt _ _ _ h.1.2 hy⟩, by rw [List.length_set]; exact h.2⟩
  rw [List.map_set, List.length_set, h.2]
  exact (h2.stored j (u8v y)).1
theorem row_ownB {B : Nat} {w : World} {g n cap : Nat} {l : List Nat} (h : OwnB B w g n cap l) : Row w (some ⟨g, 0, none⟩) n l :=
  ⟨h.2, h.1.2, fun _ => ⟨g, 0, rfl, fun i hi => by rw [Nat.zero_add]; exact ownB_cell h i hi⟩⟩

end Go.Proofs.YthgcjiocelcblaaGreat

namespace Go.Proofs.YthgcjiocelcblaaGreat
open Go.RowKit

/-- One part. -/
structure PS where
  a : Option Addr
  n : Nat
  c : Nat
  l : List Nat
def PartOk (W : World) (p : PS) : Prop := Row W p.a p.n p.l ∧ p.n ≤ p.c ∧ p.c ≤ maxLen ∧ (p.a = none → p.c = 0)
/-- A slice of parts. -/
def PartsAt (W : World) (a : Option Addr) (n : Nat) (P : Nat → PS) : Prop :=
  (0 < n → ∃ b off, a = some ⟨b, off, none⟩ ∧ ∀ i, i < n → W.cell? ⟨b, off + i, none⟩ = some (.slice (P i).a (P i).n (P i).c)) ∧ ∀ i, i < n → PartOk W (P i)
theorem PartOk.keep {W W' : World} {p : PS} {B : Nat} (h : PartOk W p) (hb : Below B W W') (hB : W.heap.size ≤ B) : PartOk W' p := ⟨row_keep h.1 hb hB, h.2⟩
theorem PartsAt.keep {W W' : World} {a : Option Addr} {n : Nat} {P : Nat → PS} {B : Nat} (h : PartsAt W a n P) (hb : Below B W W') (hB : W.heap.size ≤ B) : PartsAt W' a n P := by
  obtain ⟨h1, h2⟩ := h
  refine ⟨fun h0 => ?_, fun i hi => (h2 i hi).keep hb hB⟩
  obtain ⟨b, off, e, hc⟩ := h1 h0
  refine ⟨b, off, e, fun i hi => ?_⟩
  have hlt := World.block_lt_of_cell? W _ (hc i hi)
  exact (hb.cell (p := ⟨b, off + i, none⟩) (Nat.lt_of_lt_of_le hlt hB)).trans (hc i hi)
theorem PartsAt.cell {W : World} {a : Option Addr} {n : Nat} {P : Nat → PS} (h : PartsAt W a n P) {k : Nat} (hk : k < n) : ∃ b off, a = some ⟨b, off, none⟩ ∧ W.cell? ⟨b, off + k, none⟩ = some (.slice (P k).a (P k).n (P k).c) := by
  obtain ⟨b, off, e, hc⟩ := h.1 (by omega)
  exact ⟨b, off, e, hc k hk⟩

/-- How long the longest of the first k is. -/
def longest (B : Nat → List Nat) : Nat → Nat
  | 0 => 0
  | k + 1 => if longest B k < (B k).length then (B k).length else longest B k
/-- Byte j of the first k together. -/
def xorAt (B : Nat → List Nat) (j : Nat) : Nat → Nat
  | 0 => 0
  | k + 1 => xorAt B j k ^^^ (B k).getD j 0
/-- So many bytes of the first k together. -/
def xorTo (L : Nat) (B : Nat → List Nat) (k : Nat) : List Nat := (List.range L).map fun j => xorAt B j k
def xorB (B : Nat → List Nat) (n : Nat) : List Nat := xorTo (longest B n) B n
theorem xorTo_len (L : Nat) (B : Nat → List Nat) (k : Nat) : (xorTo L B k).length = L := by simp [xorTo]
theorem xorB_len (B : Nat → List Nat) (n : Nat) : (xorB B n).length = longest B n := xorTo_len _ _ _
theorem longest_ge (B : Nat → List Nat) (n i : Nat) (hi : i < n) : (B i).length ≤ longest B n := by
  induction n with
  | zero => omega
  | succ n ih =>
    rw [longest]
    by_cases h : i = n
    · subst h; split <;> omega
    · have := ih (by omega)
      split <;> omega
theorem longest_le (B : Nat → List Nat) (n m : Nat) (h : ∀ i, i < n → (B i).length ≤ m) : longest B n ≤ m := by
  induction n with
  | zero => exact Nat.zero_le _
  | succ n ih =>
    have h1 := ih fun i hi => h i (by omega)
    have h2 := h n (by omega)
    rw [longest]
    split <;> omega
theorem xorAt_lt {B : Nat → List Nat} {n : Nat} (h : ∀ i, i < n → ∀ x ∈ B i, x < 256) (j k : Nat) (hk : k ≤ n) : xorAt B j k < 256 := by
  induction k with
  | zero => exact (by decide : 0 < 256)
  | succ k ih =>
    rw [xorAt]
    exact Nat.xor_lt_two_pow (n := 8) (ih (by omega)) (getD_lt (h k (by omega)) j)
theorem xorTo_lt {B : Nat → List Nat} {n : Nat} (h : ∀ i, i < n → ∀ x ∈ B i, x < 256) (L k : Nat) (hk : k ≤ n) : ∀ x ∈ xorTo L B k, x < 256 := by
  intro x hx
  simp only [xorTo, List.mem_map, List.mem_range] at hx
  obtain ⟨j, _, rfl⟩ := hx
  exact xorAt_lt h j k hk
theorem xorTo_zero (L : Nat) (B : Nat → List Nat) : xorTo L B 0 = List.replicate L 0 := by
  apply List.ext_getElem
  · simp [xorTo]
  · intro i h1 h2
    simp [xorTo, xorAt]
/-- In part k: the first j bytes have it already. -/
def xorMid (L : Nat) (B : Nat → List Nat) (k j : Nat) : List Nat := (List.range L).map fun t => if t < j then xorAt B t (k + 1) else xorAt B t k
theorem xorMid_len (L : Nat) (B : Nat → List Nat) (k j : Nat) : (xorMid L B k j).length = L := by simp [xorMid]
theorem xorMid_zero (L : Nat) (B : Nat → List Nat) (k : Nat) : xorMid L B k 0 = xorTo L B k := by simp [xorMid, xorTo]
theorem xorMid_end (L : Nat) (B : Nat → List Nat) (k : Nat) : xorMid L B k (B k).length = xorTo L B (k + 1) := by
  unfold xorMid xorTo
  apply List.map_congr_left
  intro t _
  by_cases h : t < (B k).length
  · rw [if_pos h]
  · rw [if_neg h, xorAt]
    simp [List.getD, List.getElem?_eq_none (Nat.le_of_not_lt h)]
theorem xorMid_at {L : Nat} (B : Nat → List Nat) (k j : Nat) (hj : j < L) : (xorMid L B k j).getD j 0 = xorAt B j k := by
  simp [xorMid, List.getD, hj]
theorem xorMid_set {L : Nat} (B : Nat → List Nat) (k j : Nat) : (xorMid L B k j).set j (xorAt B j k ^^^ (B k).getD j 0) = xorMid L B k (j + 1) := by
  apply List.ext_getElem
  · simp [xorMid]
  · intro i h1 h2
    have hi : i < L := by simpa [xorMid] using h2
    rw [List.getElem_set]
    by_cases h : j = i
    · subst h
      rw [if_pos rfl]
      simp [xorMid, xorAt]
    · rw [if_neg h]
      simp only [xorMid, List.getElem_map, List.getElem_range]
      by_cases h3 : i < j
      · rw [if_pos h3, if_pos (by omega)]
      · rw [if_neg h3, if_neg (by omega)]
theorem xorMid_lt {B : Nat → List Nat} {n : Nat} (h : ∀ i, i < n → ∀ x ∈ B i, x < 256) (L k j : Nat) (hk : k < n) : ∀ x ∈ xorMid L B k j, x < 256 := by
  intro x hx
  simp only [xorMid, List.mem_map, List.mem_range] at hx
  obtain ⟨t, _, rfl⟩ := hx
  split
  · exact xorAt_lt h t (k + 1) (by omega)
  · exact xorAt_lt h t k (by omega)

end Go.Proofs.YthgcjiocelcblaaGreat

namespace Go.Proofs.YthgcjiocelcblaaGreat
open Go.RowKit

/-- What is there while parts are put together. -/
def XorSt (w : World) (a : Option Addr) (n : Nat) (P : Nat → PS) (g L : Nat) (l : List Nat) (x : World) : Prop :=
  OwnB w.heap.size x g L L l ∧ PartsAt x a n P ∧ Below w.heap.size w x ∧ w.heap.size ≤ g ∧ g < x.heap.size
theorem XorSt.set {w : World} {a : Option Addr} {n : Nat} {P : Nat → PS} {g L : Nat} {l l' : List Nat} {x : World} (h : XorSt w a n P g L l x) (h0 : PartsAt w a n P) (j y : Nat) (hy : y < 256) (e : l.set j y = l') :
    XorSt w a n P g L l' (x.drew.setCell ⟨g, j, none⟩ (.int .u8 (y : Int))) := by
  obtain ⟨h1, _, h3, h4, h5⟩ := h
  have hb : Below w.heap.size w (x.drew.setCell ⟨g, j, none⟩ (.int .u8 (y : Int))) := h3.drew.setCell (p := ⟨g, j, none⟩) h4 _
  have h1' : OwnB w.heap.size x.drew g L L l := h1
  refine ⟨e ▸ ownB_set h1' j y hy, h0.keep hb (Nat.le_refl _), hb, h4, ?_⟩
  simpa using h5

set_option maxRecDepth 100000 in
set_option maxHeartbeats 3200000 in
theorem xor_any (a : Option Addr) (n c : Nat) (P : Nat → PS) (w : World) (hp : PartsAt w a n P) (hn : n ≤ 100000) (hl : ∀ i, i < n → (P i).n ≤ 100000) :
    Calls Tryz.prog 93 #[.slice a n c] w (RetOwn w (xorB (fun i => (P i).l) n)) := by
  have HP := Lib.hid hp
  have HL := Lib.hid hl
  have HLEN : Hid (∀ i, i < n → (P i).l.length = (P i).n) := Lib.hid fun i hi => (hp.2 i hi).1.1
  have HB : Hid (∀ i, i < n → ∀ x ∈ (P i).l, x < 256) := Lib.hid fun i hi => (hp.2 i hi).1.2.1
  obtain ⟨Q, hQ⟩ : ∃ Q : Nat → List Nat, ∀ i, Q i = (P i).l := ⟨_, fun _ => rfl⟩
  have HQ := Lib.hid hQ
  have e0 : (fun i => (P i).l) = Q := funext fun i => (hQ i).symm
  rw [e0]
  clear hp hl hQ e0
  obtain ⟨i0, hi, hz0, hz1, hz2⟩ := info_parts info_u8
  have HI := Lib.hid (And.intro hi (And.intro hz0 (And.intro hz1 hz2)))
  clear hi hz0 hz1 hz2
  have hlong : ∀ k, k ≤ n → longest Q k ≤ 100000 := fun k hk => longest_le Q k 100000 fun i hi => by rw [HQ.out, HLEN.out i (by omega)]; exact HL.out i (by omega)
  have HLONG := Lib.hid hlong
  clear hlong
  go_enter Tryz.func93, Tryz.ntmps93
  go_wp2
  go_loopg [3, 12] n (fun g long i wr => ∃ k : Nat, k ≤ n ∧ g = n - k ∧ i = .int .i64 (k : Int) ∧ long = .int .i64 ((longest Q k : Nat) : Int) ∧ wr = w)
  case atStart => exact ⟨0, Nat.zero_le _, rfl, rfl, rfl, rfl⟩
  case round =>
    obtain ⟨k, hk, rfl, rfl, rfl, rfl⟩ := hrel
    by_cases hlt : k < n
    · have t1 : decide (k < n) = true := by simpa using hlt
      obtain ⟨b, off, rfl, hc⟩ := HP.out.cell hlt
      have hkk : (0 : Int) ≤ (k : Int) := by omega
      have hkn : (k : Int) < (n : Int) := by omega
      have HS : Hid (longest Q (k + 1) = if longest Q k < (P k).n then (P k).n else longest Q k) := Lib.hid (by rw [longest, HQ.out, HLEN.out k hlt])
      obtain ⟨lg, hlg⟩ : ∃ lg, lg = longest Q k := ⟨_, rfl⟩
      rw [← hlg] at HS ⊢
      clear hlg
      obtain ⟨m, hm⟩ : ∃ m, m = (P k).n := ⟨_, rfl⟩
      rw [← hm] at hc HS
      clear hm
      go_wp2
      · have h1 : lg < m := by assumption
        go_roundg (n - (k + 1))
        case rel => exact ⟨k + 1, by omega, rfl, by go_num, by rw [HS.out, if_pos h1], rfl⟩
        case measure => omega
      · have h1 : ¬ (lg < m) := by assumption
        go_roundg (n - (k + 1))
        case rel => exact ⟨k + 1, by omega, rfl, by go_num, by rw [HS.out, if_neg h1], rfl⟩
        case measure => omega
    · obtain rfl : k = n := by omega
      obtain ⟨w0, hw0⟩ : ∃ x, x = wr := ⟨_, rfl⟩
      subst hw0
      have hL := HLONG.out k (Nat.le_refl _)
      obtain ⟨L, hLd⟩ : ∃ L, L = longest Q k := ⟨_, rfl⟩
      have HLD := Lib.hid hLd
      rw [← hLd] at hL ⊢
      clear hLd
      obtain ⟨hi, hz0, hz1, hz2⟩ := HI.out
      have t1 : decide (k < k) = false := by simp
      go_wp2_with (refine wpList_make_full w0 rfl _ _ 28 rfl w0.heap.size 5 i0 (.int .u8 0) 1 Tryz.underlying28 hi hz0 hz1 .i64 .i64 _ _ L rfl rfl rfl rfl ?c1 ?c2 ?c3 ?_)
      case c1 => rw [hz2]; omega
      case c2 => unfold maxLen; omega
      case c3 => exact Nat.le_refl _
      intro w1 hown hg
      have hz := own_zeros hown
      have hb1 : Below w0.heap.size w0 w1 := (Below.refl _ w0).grown hg (Nat.le_refl _) (fun k hk => by cases hk)
      have hlt1 := own_base hz w0.heap.size rfl
      have HST : Hid (XorSt w0 a k P w0.heap.size L (xorTo L Q 0) w1) := Lib.hid ⟨⟨by rw [xorTo_zero]; exact hz, by simp [xorTo]⟩, HP.out.keep hb1 (Nat.le_refl _), hb1, Nat.le_refl _, hlt1.2⟩
      obtain ⟨g, hgd⟩ : ∃ g, g = w0.heap.size := ⟨_, rfl⟩
      rw [← hgd] at HST ⊢
      clear hown hg hz hb1 hlt1 hgd hi hz0 hz1 hz2 HI t1
      obtain ⟨n, hnk⟩ : ∃ n, n = k := ⟨_, rfl⟩
      subst hnk
      go_wp2
      go_loopg [25] n (fun gk i wx => ∃ k : Nat, k ≤ n ∧ gk = n - k ∧ i = .int .i64 (k : Int) ∧ XorSt w0 a n P g L (xorTo L Q k) wx)
      case atStart => exact ⟨0, Nat.zero_le _, rfl, rfl, HST.out⟩
      case round =>
        obtain ⟨k, hk, rfl, rfl, hst⟩ := hrel
        clear HST
        have HST := Lib.hid hst
        clear hst
        by_cases hlt : k < n
        · have t1 : decide (k < n) = true := by simpa using hlt
          obtain ⟨b, off, rfl, hc⟩ := HST.out.2.1.cell hlt
          have hkk : (0 : Int) ≤ (k : Int) := by omega
          have hkn : (k : Int) < (n : Int) := by omega
          obtain ⟨m, hm⟩ : ∃ m, m = (P k).n := ⟨_, rfl⟩
          obtain ⟨pa, hpa⟩ : ∃ pa, pa = (P k).a := ⟨_, rfl⟩
          obtain ⟨pc, hpc⟩ : ∃ pc, pc = (P k).c := ⟨_, rfl⟩
          have hmL : m ≤ L := by
            rw [HLD.out, hm, ← HLEN.out k hlt, ← HQ.out k]; exact longest_ge Q n k hlt
          have hmx : m ≤ 100000 := by omega
          have hmQ : (Q k).length = m := by rw [HQ.out, HLEN.out k hlt, hm]
          rw [← hm, ← hpa, ← hpc] at hc
          have HM := Lib.hid hm
          have HPA := Lib.hid hpa
          have HMQ := Lib.hid hmQ
          clear hm hpa hpc hmQ
          go_wp2
          go_loopg [31] m (fun gj j wi => ∃ j' : Nat, j' ≤ m ∧ gj = m - j' ∧ j = .int .i64 (j' : Int) ∧ XorSt w0 (some ⟨b, off, none⟩) n P g L (xorMid L Q k j') wi)
          case atStart => exact ⟨0, Nat.zero_le _, rfl, rfl, by rw [xorMid_zero]; exact HST.out⟩
          case round =>
            obtain ⟨j, hj, rfl, rfl, hsj⟩ := hrel
            clear HST
            have HST := Lib.hid hsj
            clear hsj
            by_cases hjm : j < m
            · have t2 : decide (j < m) = true := by simpa using hjm
              have hrow : Row wr pa m (Q k) := by rw [HPA.out, HM.out, HQ.out]; exact (HST.out.2.1.2 k hlt).1
              obtain ⟨pb, po, y, rfl, hcy, hy, HY⟩ := row_cell hrow hjm
              have hcu := ownB_cell HST.out.1 j (by omega)
              have hfu := ownB_frozen HST.out.1 j
              rw [xorMid_at Q k j (by omega)] at hcu
              have hu : xorAt Q j k < 256 := xorAt_lt (n := n) (fun i hi => by rw [HQ.out]; exact HB.out i hi) j k (by omega)
              have hs := xorMid_set (L := L) Q k j
              rw [← HY.out] at hs
              obtain ⟨u, hud⟩ : ∃ u, u = xorAt Q j k := ⟨_, rfl⟩
              rw [← hud] at hcu hu hs
              have hz : u ^^^ y < 256 := Nat.xor_lt_two_pow (n := 8) hu hy
              have hx := u8_xor_nat u y hu hy
              have HNX := Lib.hid (HST.out.set HP.out j (u ^^^ y) hz hs)
              obtain ⟨z, hzd⟩ : ∃ z, z = u ^^^ y := ⟨_, rfl⟩
              rw [← hzd] at hx HNX
              have hj0 : (0 : Int) ≤ (j : Int) := by omega
              have hj1 : (j : Int) < (m : Int) := by omega
              have hj2 : (j : Int) < (L : Int) := by omega
              clear hud hs hz hzd hrow HST
              go_wp2
              go_region
              go_wp2
              go_roundg (m - (j + 1))
              case rel => exact ⟨j + 1, by omega, rfl, by go_num, HNX.out⟩
              case measure => omega
            · obtain rfl : j = m := by omega
              have HST2 : Hid (XorSt w0 (some ⟨b, off, none⟩) n P g L (xorTo L Q (k + 1)) wr) := Lib.hid (by rw [← xorMid_end, HMQ.out]; exact HST.out)
              clear HST
              go_wp2
              go_roundg (n - (k + 1))
              case rel => exact ⟨k + 1, by omega, rfl, by go_num, HST2.out⟩
              case measure => omega
        · obtain rfl : k = n := by omega
          go_wp2
          go_ret
          exact ⟨_, rfl, by unfold xorB; rw [← HLD.out]; exact HST.out.1.1, HST.out.2.2.1⟩

end Go.Proofs.YthgcjiocelcblaaGreat

namespace Go.Proofs.YthgcjiocelcblaaGreat
open Go.RowKit

/-- What Zeros hands back. -/
def ZerosAt (n : Nat) (w : World) (e : Ending) (w' : World) : Prop :=
  ∃ g, e = .returned (.slice (some ⟨g, 0, none⟩) n n) ∧ OwnB w.heap.size w' g n n (List.replicate n 0) ∧ Below w.heap.size w w' ∧ w.heap.size ≤ g ∧ g < w'.heap.size
set_option maxHeartbeats 400000 in
theorem zeros_at (n : Nat) (w : World) (hn : n ≤ 100000) :
    Calls Tryz.prog 12 #[.int .i64 (n : Int)] w (ZerosAt n w) := by
  obtain ⟨i0, hi, hz0, hz1, hz2⟩ := info_parts info_u8
  go_enter Tryz.func12, Tryz.ntmps12
  go_wp2_with (refine wpList_make_full w rfl _ _ 28 rfl w.heap.size 5 i0 (.int .u8 0) 1 Tryz.underlying28 hi hz0 hz1 .i64 .i64 _ _ n rfl rfl rfl rfl ?c1 ?c2 ?c3 ?_)
  case c1 => rw [hz2]; omega
  case c2 => unfold maxLen; omega
  case c3 => exact Nat.le_refl _
  intro w1 hown hg
  have hz := own_zeros hown
  have hlt := own_base hz w.heap.size rfl
  have HB : Hid (Below w.heap.size w w1) := Lib.hid ((Below.refl _ w).grown hg (Nat.le_refl _) (fun k hk => by cases hk))
  have HZ := Lib.hid hz
  have HLT := Lib.hid hlt.2
  clear hown hg hz hlt
  go_wp2
  go_ret
  exact ⟨w.heap.size, rfl, ⟨HZ.out, by simp⟩, HB.out, Nat.le_refl _, HLT.out⟩

end Go.Proofs.YthgcjiocelcblaaGreat

namespace Go.Proofs.YthgcjiocelcblaaGreat
open Go.RowKit

def lgL : List (List Nat) → Nat
  | [] => 0
  | x :: t => max x.length (lgL t)
def xatL (j : Nat) : List (List Nat) → Nat
  | [] => 0
  | x :: t => x.getD j 0 ^^^ xatL j t
/-- Parts together. -/
def xorL (l : List (List Nat)) : List Nat := (List.range (lgL l)).map fun j => xatL j l
theorem xorL_len (l : List (List Nat)) : (xorL l).length = lgL l := by simp [xorL]
theorem lgL_append (a b : List (List Nat)) : lgL (a ++ b) = max (lgL a) (lgL b) := by
  induction a with
  | nil => simp [lgL]
  | cons x t ih => rw [List.cons_append, lgL, lgL, ih, Nat.max_assoc]
theorem xatL_append (j : Nat) (a b : List (List Nat)) : xatL j (a ++ b) = xatL j a ^^^ xatL j b := by
  induction a with
  | nil => simp [xatL]
  | cons x t ih => rw [List.cons_append, xatL, xatL, ih, Nat.xor_assoc]
theorem lgL_le {a : List (List Nat)} {m : Nat} (h : ∀ x ∈ a, x.length ≤ m) : lgL a ≤ m := by
  induction a with
  | nil => exact Nat.zero_le _
  | cons x t ih =>
    have h1 := h x (by simp)
    have h2 := ih fun y hy => h y (by simp [hy])
    rw [lgL]; omega
theorem lgL_reverse (a : List (List Nat)) : lgL a.reverse = lgL a := by
  induction a with
  | nil => rfl
  | cons x t ih => rw [List.reverse_cons, lgL_append, ih, lgL, lgL, lgL, Nat.max_zero, Nat.max_comm]
theorem xatL_reverse (j : Nat) (a : List (List Nat)) : xatL j a.reverse = xatL j a := by
  induction a with
  | nil => rfl
  | cons x t ih => rw [List.reverse_cons, xatL_append, ih, xatL, xatL, xatL, Nat.xor_zero, Nat.xor_comm]
theorem xorL_reverse (a : List (List Nat)) : xorL a.reverse = xorL a := by
  unfold xorL
  rw [lgL_reverse]
  exact List.map_congr_left fun j _ => xatL_reverse j a
theorem xatL_beyond {a : List (List Nat)} {j : Nat} (h : lgL a ≤ j) : xatL j a = 0 := by
  induction a with
  | nil => rfl
  | cons x t ih =>
    rw [lgL] at h
    rw [xatL, ih (by omega)]
    simp [List.getD, List.getElem?_eq_none (show x.length ≤ j by omega)]
theorem xorL_getD (a : List (List Nat)) (j : Nat) : (xorL a).getD j 0 = xatL j a := by
  by_cases h : j < lgL a
  · simp [xorL, List.getD, h]
  · rw [xatL_beyond (Nat.le_of_not_lt h)]
    simp [xorL, List.getD, h]
theorem list_ext_getD {a b : List Nat} (hl : a.length = b.length) (h : ∀ j, a.getD j 0 = b.getD j 0) : a = b := by
  apply List.ext_getElem hl
  intro i h1 h2
  have := h i
  rwa [getD_in _ _ h1, getD_in _ _ h2] at this
theorem xorL_two (a b : List (List Nat)) : xorL [xorL a, xorL b] = xorL (a ++ b) := by
  apply list_ext_getD
  · rw [xorL_len, xorL_len, lgL_append, lgL, lgL, lgL, xorL_len, xorL_len, Nat.max_zero]
  · intro j
    rw [xorL_getD, xorL_getD, xatL_append, xatL, xatL, xatL, xorL_getD, xorL_getD, Nat.xor_zero]
theorem xorL_self (x : List Nat) : xorL [x, x] = List.replicate x.length 0 := by
  apply list_ext_getD
  · rw [xorL_len, lgL, lgL, lgL]; simp
  · intro j
    rw [xorL_getD, xatL, xatL, xatL, Nat.xor_zero, Nat.xor_self]
    by_cases h : j < x.length <;> simp [List.getD, h]
theorem xorL_one (x : List Nat) : xorL [x] = x := by
  apply list_ext_getD
  · rw [xorL_len, lgL, lgL, Nat.max_zero]
  · intro j
    rw [xorL_getD, xatL, xatL, Nat.xor_zero]
/-- The way of the walks is the lists' way. -/
theorem longest_eq (B : Nat → List Nat) (n : Nat) : longest B n = lgL ((List.range n).map B) := by
  induction n with
  | zero => rfl
  | succ n ih =>
    rw [List.range_succ, List.map_append, lgL_append, ← ih, longest]
    simp only [List.map_cons, List.map_nil, lgL, Nat.max_zero]
    split <;> omega
theorem xorAt_eq (B : Nat → List Nat) (j n : Nat) : xorAt B j n = xatL j ((List.range n).map B) := by
  induction n with
  | zero => rfl
  | succ n ih =>
    rw [List.range_succ, List.map_append, xatL_append, ← ih, xorAt]
    simp [xatL]
theorem xorB_eq (B : Nat → List Nat) (n : Nat) : xorB B n = xorL ((List.range n).map B) := by
  unfold xorB xorTo xorL
  rw [longest_eq]
  exact List.map_congr_left fun j _ => xorAt_eq B j n

def PS.nil : PS := ⟨none, 0, 0, []⟩
/-- Parts, as a list. -/
def PartsL (W : World) (a : Option Addr) (L : List PS) : Prop := PartsAt W a L.length (fun i => L.getD i PS.nil)
theorem range_getD (L : List PS) : (List.range L.length).map (fun i => (L.getD i PS.nil).l) = L.map PS.l := by
  apply List.ext_getElem
  · simp
  · intro i h1 h2
    have hi : i < L.length := by simpa using h1
    simp [List.getD, hi]
theorem PartsL.keep {W W' : World} {a : Option Addr} {L : List PS} {B : Nat} (h : PartsL W a L) (hb : Below B W W') (hB : W.heap.size ≤ B) : PartsL W' a L := PartsAt.keep h hb hB
theorem PartsL.step {W W' : World} {a : Option Addr} {L : List PS} (h : PartsL W a L) (hb : Below W.heap.size W W') : PartsL W' a L := PartsAt.keep h hb (Nat.le_refl _)
theorem partsL_mem {W : World} {a : Option Addr} {L : List PS} (h : PartsL W a L) : ∀ p ∈ L, PartOk W p := by
  intro p hp
  obtain ⟨i, hi, rfl⟩ := List.getElem_of_mem hp
  have := h.2 i hi
  simpa [List.getD, hi] using this
theorem xorL_any (a : Option Addr) (c : Nat) (L : List PS) (n : Nat) (w : World) (hn : n = L.length) (hp : PartsL w a L) (hm : n ≤ 100000) (hl : ∀ p ∈ L, p.n ≤ 100000) :
    Calls Tryz.prog 93 #[.slice a n c] w (RetOwn w (xorL (L.map PS.l))) := by
  subst hn
  rw [← range_getD, ← xorB_eq (fun i => (L.getD i PS.nil).l)]
  refine xor_any a L.length c (fun i => L.getD i PS.nil) w hp hm fun i hi => ?_
  have : L.getD i PS.nil ∈ L := by simp [List.getD, hi]
  exact hl _ this
end Go.Proofs.YthgcjiocelcblaaGreat

namespace Go.Proofs.YthgcjiocelcblaaGreat
open Go.RowKit

def PS.v (p : PS) : Value := .slice p.a p.n p.c
theorem info_bytes : (Tryz.prog.info? 28).map (fun i => (i.zero, i.size, i.bytes)) = some (some (.slice none 0 0), 1, 24) := by kernel_rfl
/-- A slice of parts of the call's own. -/
def OwnL (B : Nat) (w : World) (sv : Value) (L : List PS) : Prop := w.ownsRow B 28 1 sv L.length (L.map PS.v)
theorem ownL_nil (B : Nat) (w : World) : OwnL B w (.slice none 0 0) [] := World.ownsRow_nil w B _ 1
theorem OwnL.below {B : Nat} {w w' : World} {sv : Value} {L : List PS} (h : OwnL B w sv L) (hb : Below w.heap.size w w') : OwnL B w' sv L :=
  h.kept (row := none) ⟨hb.os, hb.tape, hb.output, hb.size, fun b hb' _ => hb.block b hb'⟩ (by cases hv : sv.ownBlock <;> simp)
theorem OwnL.alloc {B : Nat} {w : World} {sv : Value} {L : List PS} (h : OwnL B w sv L) (o : Obj) : OwnL B (w.alloc o) sv L := h.below (bel_alloc (Below.refl _ w) o)
/-- Cells that are parts. -/
def CellsL (w : World) (a : Option Addr) (L : List PS) : Prop := 0 < L.length → ∃ b off, a = some ⟨b, off, none⟩ ∧ ∀ i, i < L.length → w.cell? ⟨b, off + i, none⟩ = some (L.getD i PS.nil).v
theorem CellsL.step {w w' : World} {a : Option Addr} {L : List PS} (h : CellsL w a L) (hb : Below w.heap.size w w') : CellsL w' a L := fun h0 => by
  obtain ⟨b, off, e, hc⟩ := h h0
  exact ⟨b, off, e, fun i hi => (hb.cell (p := ⟨b, off + i, none⟩) (World.block_lt_of_cell? w _ (hc i hi))).trans (hc i hi)⟩
theorem cellsL_own {B : Nat} {w : World} {sv : Value} {L : List PS} (h : OwnL B w sv L) : ∃ a cap, sv = .slice a L.length cap ∧ CellsL w a L ∧ L.length ≤ cap ∧ cap ≤ maxLen ∧ (a = none → cap = 0) := by
  have h' := h
  rcases h.2 with ⟨rfl, h0⟩ | ⟨g, cap, cur, rfl, _, _, hc, hm, _⟩
  · exact ⟨none, 0, by rw [h0], fun h1 => by omega, by omega, Nat.zero_le _, fun _ => rfl⟩
  · refine ⟨_, cap, rfl, fun _ => ⟨g, 0, rfl, fun i hi => ?_⟩, hc, hm, fun h => by cases h⟩
    rw [Nat.zero_add, h'.cellAt i (by omega), List.getElem?_map, List.getElem?_eq_getElem hi]
    simp [List.getD, hi]
theorem partsL_of {w : World} {a : Option Addr} {L : List PS} (h : CellsL w a L) (hp : ∀ p ∈ L, PartOk w p) : PartsL w a L :=
  ⟨fun h0 => h h0, fun i hi => hp _ (by simp [List.getD, hi])⟩
theorem partsL_nil (w : World) : PartsL w none [] := ⟨fun h => absurd h (Nat.lt_irrefl 0), fun i hi => absurd hi (Nat.not_lt_zero i)⟩
theorem nil_le (m : Nat) : ∀ p ∈ ([] : List PS), p.n ≤ m := fun _ h => absurd h (List.not_mem_nil)
theorem PartsL.cells {w : World} {a : Option Addr} {L : List PS} (h : PartsL w a L) : CellsL w a L := h.1

/-- What append onto sv leaves. -/
structure ApdL (B : Nat) (w : World) (sv : Value) (L : List PS) (sv' : Value) (w' : World) : Prop where
  own : OwnL B w' sv' L
  grown : w.grownBy w' sv.ownBlock
  where_ : sv'.ownBlock = sv.ownBlock ∨ sv'.ownBlock = some w.heap.size
  below : Below B w w'
theorem wpList_appL {w : World} {ops : Array Oper} {rest : List Oper} {o : Oper} {a : Act} {Q : Exit → Act → World → Prop} (hgd : o.guard = none) (s x : Operand)
    (ho : o.op = .call { callee := .builtin .append, args := #[s, x], argTypes := #[168, 168] })
    (B : Nat) (sv : Value) (L : List PS) (hs : a.eval s = sv) (hown : OwnL B w sv L) (xa : Option Addr) (m c : Nat) (M : List PS) (hx : a.eval x = .slice xa m c) (hm : m = M.length)
    (hr : CellsL w xa M) (hc : xa = none → c = 0) (hB : B ≤ w.heap.size) (hlen : L.length + m ≤ 1000000)
    (h : ∀ v' w', ApdL B w sv (L ++ M) v' w' → wpList Tryz.prog ops Q rest (a.put o.dst v') w') : wpList Tryz.prog ops Q (o :: rest) a w := by
  obtain ⟨i0, hi, hz0, hz1, hz2⟩ := info_parts info_bytes
  subst hm
  cases xa with
  | none =>
    have h0 : M.length = 0 := by
      rcases Nat.eq_zero_or_pos M.length with h | h
      · exact h
      · obtain ⟨_, _, h1, _⟩ := hr h
        cases h1
    obtain rfl := hc rfl
    obtain rfl : M = [] := List.eq_nil_of_length_eq_zero h0
    refine wpList_append_own_none hgd s x 168 ho B 28 i0 1 Tryz.underlying168 hi sv _ _ hs hown hx ?_
    refine h sv w ⟨?_, grownBy_refl _ _, .inl rfl, Below.refl _ _⟩
    rw [List.append_nil]
    exact hown
  | some ad =>
    refine wpList_append_own_at w hgd s x 168 ho B 28 i0 (.slice none 0 0) 1 24 Tryz.underlying168 hi hz0 hz1 hz2 rfl (by decide) sv _ _ hs hown ad M.length c (M.map PS.v) hx (by simp) ?_ ?_ (by unfold maxLen; omega) (by omega) hB ?_
    · intro j u hj
      have hjm : j < M.length := by
        rcases Nat.lt_or_ge j M.length with h | h
        · exact h
        · rw [List.getElem?_eq_none (by simp; omega)] at hj; cases hj
      obtain ⟨b, off, h1, h2⟩ := hr (by omega)
      cases h1
      have h3 := h2 j hjm
      rw [List.getElem?_map, List.getElem?_eq_getElem hjm] at hj
      simp only [Option.map_some, Option.some.injEq] at hj
      have h4 : M.getD j PS.nil = M[j] := by simp [List.getD, hjm]
      rw [h4, hj] at h3
      unfold Addr.add
      split
      · rename_i h0; subst h0; exact h3
      · exact h3
    · intro u hu
      rw [List.mem_map] at hu
      obtain ⟨y, _, rfl⟩ := hu
      rfl
    · intro v' w' h2 h3 _ h5
      refine h v' w' ⟨?_, h3, h5, (Below.refl B w).grown h3 hB (fun k hk => (hown.lt k hk).1)⟩
      unfold OwnL
      rw [List.map_append, List.length_append]; exact h2

/-- One part, laid in a block of its own ahead of an append. -/
theorem cells_one (w : World) (p : PS) : CellsL (w.alloc (.cells #[.slice p.a p.n p.c] 28)) (some ⟨w.heap.size, 0, none⟩) [p] :=
  fun _ => ⟨_, 0, rfl, fun i hi => by obtain rfl : i = 0 := by simpa using hi
                                      exact cell_new1 _ _ _⟩
theorem own_one (w : World) (p : PS) (B : Nat) (hB : B ≤ w.heap.size) : OwnL B (w.alloc (.cells #[.slice p.a p.n p.c] 28)) (.slice (some ⟨w.heap.size, 0, none⟩) 1 1) [p] :=
  ⟨by simp, .inr ⟨w.heap.size, 1, #[.slice p.a p.n p.c], rfl, hB, heap_alloc_new w _, by simp, by unfold maxLen; omega, by simp, by simp [PS.v]⟩⟩
theorem cells_two (w : World) (p q : PS) : CellsL (w.alloc (.cells #[.slice p.a p.n p.c, .slice q.a q.n q.c] 28)) (some ⟨w.heap.size, 0, none⟩) [p, q] := by
  obtain ⟨h0, h1⟩ := cell_new2 w (.slice p.a p.n p.c) (.slice q.a q.n q.c) 28
  refine fun _ => ⟨_, 0, rfl, fun i hi => ?_⟩
  rcases (show i = 0 ∨ i = 1 by simp at hi; omega) with rfl | rfl
  · exact h0
  · exact h1
theorem PartOk.step {W W' : World} {p : PS} (h : PartOk W p) (hb : Below W.heap.size W W') : PartOk W' p := h.keep hb (Nat.le_refl _)
theorem part_lit1 (w : World) (x : Nat) (hx : x < 256) : PartOk (w.alloc (.cells #[.int .u8 (x : Int)] 5)) ⟨some ⟨w.heap.size, 0, none⟩, 1, 1, [x]⟩ :=
  ⟨row_one w x hx, Nat.le_refl _, (by unfold maxLen; simp), fun h => by cases h⟩
theorem part_lit2 (w : World) (x y : Nat) (hx : x < 256) (hy : y < 256) : PartOk (w.alloc (.cells #[.int .u8 (x : Int), .int .u8 (y : Int)] 5)) ⟨some ⟨w.heap.size, 0, none⟩, 2, 2, [x, y]⟩ := by
  obtain ⟨h0, h1⟩ := cell_new2 w (.int .u8 (x : Int)) (.int .u8 (y : Int)) 5
  refine ⟨⟨rfl, fun z hz => (by simp at hz; omega), fun _ => ⟨_, 0, rfl, fun i hi => ?_⟩⟩, Nat.le_refl _, (by unfold maxLen; simp), fun h => by cases h⟩
  rcases (show i = 0 ∨ i = 1 by simp at hi; omega) with rfl | rfl
  · exact h0
  · exact h1
/-- Bytes that a callee has handed back are a part. -/
theorem part_ret {w w' : World} {bs : List Nat} {e : Ending} (h : RetOwn w bs e w') : ∃ p : PS, e = .returned (.slice p.a p.n p.c) ∧ p.l = bs ∧ p.n = bs.length ∧ PartOk w' p ∧ Below w.heap.size w w' := by
  obtain ⟨sv, rfl, ho, hb⟩ := h
  have ho' := ho
  obtain ⟨a, c, rfl, hr, hm⟩ := row_of_own ho
  rcases ho'.1.2 with ⟨e, h0⟩ | ⟨g, cap, cur, e, _, _, hc, hm2, _⟩
  · simp only [Value.slice.injEq] at e
    obtain ⟨rfl, _, rfl⟩ := e
    exact ⟨⟨none, bs.length, 0, bs⟩, rfl, rfl, rfl, ⟨hr, by simp only; omega, Nat.zero_le _, fun _ => rfl⟩, hb⟩
  · simp only [Value.slice.injEq] at e
    obtain ⟨rfl, _, rfl⟩ := e
    exact ⟨⟨_, bs.length, c, bs⟩, rfl, rfl, rfl, ⟨hr, hc, hm2, fun h => by cases h⟩, hb⟩
/-- It lies in memory of the callee's own. -/
def Far (B : Nat) (p : PS) : Prop := ∀ x, p.a = some x → B ≤ x.block
theorem part_ret' {w w' : World} {bs : List Nat} {e : Ending} (h : RetOwn w bs e w') : ∃ p : PS, e = .returned (.slice p.a p.n p.c) ∧ p.l = bs ∧ p.n = bs.length ∧ PartOk w' p ∧ Below w.heap.size w w' ∧ Far w.heap.size p := by
  have h' := h
  obtain ⟨sv, e1, ho, _⟩ := h'
  obtain ⟨p, e2, h2, h3, h4, h5⟩ := part_ret h
  refine ⟨p, e2, h2, h3, h4, h5, fun x hx => ?_⟩
  have e3 : sv = .slice p.a p.n p.c := by
    rw [e1] at e2
    simpa using e2
  exact (own_base ho x.block (by rw [e3, hx]; rfl)).1
theorem PartOk.set {x : World} {p : PS} {B C o : Nat} {v : Value} (h : PartOk x p) (hf : Far B p) (hC : C < B) : PartOk (x.setCell ⟨C, o, none⟩ v) p := by
  obtain ⟨⟨h1, h2, h3⟩, h4⟩ := h
  refine ⟨⟨h1, h2, fun h0 => ?_⟩, h4⟩
  obtain ⟨b, off, e, hc⟩ := h3 h0
  refine ⟨b, off, e, fun i hi => ?_⟩
  have hb := hf _ e
  have hne : b ≠ C := by simp only at hb; omega
  have eb : (x.setCell ⟨C, o, none⟩ v).heap[b]? = x.heap[b]? := by
    unfold World.setCell
    simp only
    rw [Array.getElem?_modify, if_neg (Ne.symm hne)]
  rw [← hc i hi]
  simp only [World.cell?, eb]

end Go.Proofs.YthgcjiocelcblaaGreat
