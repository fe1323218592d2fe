/- CursorEnds' own function. -/
import Derived.Test.YtejhdafipjajnaaEnds
namespace Go.Proofs.Ytejhdafipjajnaa
open Go.RowKit

/-- Where the variables stand. -/
def EndAt (w w7 : World) (ak an ad al az pr : Nat) : Prop := w.heap.size ≤ ak ∧ an = ak + 1 ∧ an < ad ∧ al = ad + 1 ∧ az = ad + 2 ∧ az < w7.heap.size ∧ w7.heap.size + 3 ≤ pr
/-- The law's own variables. -/
structure EndV (ak an ad al az : Nat) (ka : Option Addr) (kn kc : Nat) (na : Option Addr) (nn nc : Nat) (i : Nat) (wr : World) : Prop where
  ck : wr.cell? ⟨ak, 0, none⟩ = some (.slice ka kn kc)
  cn : wr.cell? ⟨an, 0, none⟩ = some (.slice na nn nc)
  cd : wr.cell? ⟨ad, 0, none⟩ = some (.int .i64 (i : Int))
  fd : wr.frozen? ⟨ad, 0, none⟩ = false
  cl : wr.cell? ⟨al, 0, none⟩ = some (.int .i64 (-1))
  fl : wr.frozen? ⟨al, 0, none⟩ = false
  cz : wr.cell? ⟨az, 0, none⟩ = some (.bool false)
  fz : wr.frozen? ⟨az, 0, none⟩ = false
/-- Where the function stands: the reader holds what is left, and the law's variables are as they were, but for the count. -/
structure EndI (w w7 W : World) (ak an ad al az pr pg : Nat) (ka : Option Addr) (kn kc : Nat) (na : Option Addr) (nn nc : Nat) (dead : Prop) (i : Nat) (wr : World) (bs : List Nat) : Prop where
  rd : ∃ a c, RD wr pr pg a c bs
  rg : dead → RG wr pg false ∧ w7.heap.size ≤ pg
  inner : Inner w7.heap.size W pr wr
  bel : Below w.heap.size w wr
  v : EndV ak an ad al az ka kn kc na nn nc i wr
section
variable {w w7 W wr w' : World} {ak an ad al az pr pg kn kc nn nc i : Nat} {ka na : Option Addr} {bs bs' : List Nat} {dead : Prop}
theorem EndV.keep {B : Nat} (h : EndV ak an ad al az ka kn kc na nn nc i wr) (hk : ∀ k, k < B → w'.heap[k]? = wr.heap[k]?) (h1 : ak < B) (h2 : an < B) (h3 : ad < B) (h4 : al < B) (h5 : az < B) : EndV ak an ad al az ka kn kc na nn nc i w' := by
  have hc : ∀ (b : Nat) (v : Value), b < B → wr.cell? ⟨b, 0, none⟩ = some v → w'.cell? ⟨b, 0, none⟩ = some v := fun b v hb hv => by
    rw [World.cell?_of_block (w := wr) (a := ⟨b, 0, none⟩) (hk b hb)]; exact hv
  have hf : ∀ (b : Nat), b < B → wr.frozen? ⟨b, 0, none⟩ = false → w'.frozen? ⟨b, 0, none⟩ = false := fun b hb hx => by
    rw [World.frozen?_of_block (w := wr) (a := ⟨b, 0, none⟩) (hk b hb)]; exact hx
  exact ⟨hc _ _ h1 h.ck, hc _ _ h2 h.cn, hc _ _ h3 h.cd, hf _ h3 h.fd, hc _ _ h4 h.cl, hf _ h4 h.fl, hc _ _ h5 h.cz, hf _ h5 h.fz⟩
theorem EndI.step (h : EndI w w7 W ak an ad al az pr pg ka kn kc na nn nc dead i wr bs) (hp : EndAt w w7 ak an ad al az pr) (hk : ∀ k, k < wr.heap.size → k ≠ pr → w'.heap[k]? = wr.heap[k]?) (hz : wr.heap.size ≤ w'.heap.size) (h1 : w'.os = wr.os) (h2 : w'.tape = wr.tape) (h3 : w'.output = wr.output)
    (hrd : ∃ a c, RD w' pr pg a c bs') : EndI w w7 W ak an ad al az pr pg ka kn kc na nn nc dead i w' bs' := by
  obtain ⟨p1, p2, p3, p4, p5, p6, p7⟩ := hp
  have hzw : w7.heap.size ≤ wr.heap.size := by
    have hl : az < wr.heap.size := World.block_lt_of_cell? wr ⟨az, 0, none⟩ h.v.cz
    have hpr : pr < wr.heap.size := by
      obtain ⟨a, c, hr⟩ := h.rd
      exact World.block_lt_of_cell? wr ⟨pr, 0, none⟩ (rd_cells hr).1
    omega
  have hwz := h.bel.size
  refine ⟨hrd, fun hd => ?_, ⟨Nat.le_trans h.inner.1 hz, fun k k1 k2 k3 => ?_⟩, ⟨h1.trans h.bel.os, h2.trans h.bel.tape, h3.trans h.bel.output, Nat.le_trans h.bel.size hz, fun k k1 => ?_⟩, h.v.keep (B := w7.heap.size) (fun k k1 => hk k (by omega) (by omega)) (by omega) (by omega) (by omega) (by omega) (by omega)⟩
  · obtain ⟨hg, hpg⟩ := h.rg hd
    obtain ⟨a, c, hr⟩ := h.rd
    have hne := rg_ne hr hg
    unfold RG at hg ⊢
    rw [hk pg (World.block_lt_of_cell? wr ⟨pg, 0, none⟩ (rg_cells (sh := false) hg).1) (fun e => hne e.symm)]; exact ⟨hg, hpg⟩
  · rw [hk k (Nat.lt_of_lt_of_le k2 h.inner.1) k3]; exact h.inner.2 k k1 k2 k3
  · rw [hk k (by omega) (by omega)]; exact h.bel.block k k1
theorem EndI.num {c s : Nat} {v : Value} {e : Ending} (h : EndI w w7 W ak an ad al az pr pg ka kn kc na nn nc dead i wr bs) (hp : EndAt w w7 ak an ad al az pr) (hr : NumRet wr pr pg c bs s v e w') : e = .returned v ∧ EndI w w7 W ak an ad al az pr pg ka kn kc na nn nc dead i w' (bs.drop s) := by
  obtain ⟨a2, rfl, rfl, hrd⟩ := hr
  exact ⟨rfl, h.step hp (fun k _ k2 => Below.heap_setCell _ _ _ _ k2) (by simp [World.setCell]) rfl rfl rfl ⟨_, _, hrd⟩⟩
theorem EndI.raw {c s : Nat} {e : Ending} (h : EndI w w7 W ak an ad al az pr pg ka kn kc na nn nc dead i wr bs) (hp : EndAt w w7 ak an ad al az pr) (hr : RawRet wr pr pg c bs s e w') : (∃ sv, e = .returned sv) ∧ EndI w w7 W ak an ad al az pr pg ka kn kc na nn nc dead i w' (bs.drop s) := by
  obtain ⟨a2, w1, rfl, hrd, hb, sv, rfl, ho⟩ := hr
  have hs : (wr.setCell ⟨pr, 0, none⟩ (.slice a2 (bs.length - s) (c - s))).heap.size = wr.heap.size := by simp [World.setCell]
  refine ⟨⟨sv, rfl⟩, h.step hp (fun k k1 k2 => ?_) (by have := hb.size; omega) hb.os hb.tape hb.output ⟨_, _, hrd⟩⟩
  rw [hb.block k (by omega)]; exact Below.heap_setCell _ _ _ _ k2
theorem EndI.text {c s : Nat} {e : Ending} (h : EndI w w7 W ak an ad al az pr pg ka kn kc na nn nc dead i wr bs) (hp : EndAt w w7 ak an ad al az pr) (hr : TextRet wr pr pg c bs s e w') : e = .returned (.string (strOf ((bs.drop 1).take s))) ∧ EndI w w7 W ak an ad al az pr pg ka kn kc na nn nc dead i w' (bs.drop (1 + s)) := by
  obtain ⟨a2, rfl, hrd, hs, h1, h2, h3, h4⟩ := hr
  rw [List.drop_drop] at hrd
  exact ⟨rfl, h.step hp (fun k _ k2 => h4 k k2) (by omega) h1 h2 h3 ⟨_, _, hrd⟩⟩
theorem EndI.below (h : EndI w w7 W ak an ad al az pr pg ka kn kc na nn nc dead i wr bs) (hp : EndAt w w7 ak an ad al az pr) (hb : Below wr.heap.size wr w') : EndI w w7 W ak an ad al az pr pg ka kn kc na nn nc dead i w' bs := by
  obtain ⟨a, c, hrd⟩ := h.rd
  exact h.step hp (fun k k1 _ => hb.block k k1) hb.size hb.os hb.tape hb.output ⟨a, c, rd_below hrd hb⟩
theorem rd_setInt {b : Nat} {u v : Value} {a : Option Addr} {c : Nat} (hr : RD wr pr pg a c bs) (hb : b ≠ pr) (hc : wr.cell? ⟨b, 0, none⟩ = some u) (hu : ∀ x : Nat, u ≠ .int .u8 x) : RD (wr.setCell ⟨b, 0, none⟩ v) pr pg a c bs := by
  obtain ⟨r1, r2, r3, r4, r5, r6⟩ := hr
  refine ⟨by rw [Below.heap_setCell _ _ _ _ (by show pr ≠ b; omega)]; exact r1, ⟨r2.1, r2.2.1, fun h0 => ?_⟩, r3, r4, r5, r6⟩
  obtain ⟨b2, off, e, hcs⟩ := r2.2.2 h0
  refine ⟨b2, off, e, fun i hi => ?_⟩
  have hci := hcs i hi
  rw [World.cell?_setCell_other _ _ _ _ (fun e2 => by rw [← e2, hc] at hci; simp only [Option.some.injEq] at hci; exact hu _ hci)]
  exact hci
/-- The count goes up. -/
theorem EndI.bump (h : EndI w w7 W ak an ad al az pr pg ka kn kc na nn nc dead i wr bs) (hp : EndAt w w7 ak an ad al az pr) : EndI w w7 W ak an ad al az pr pg ka kn kc na nn nc dead (i + 1) (wr.setCell ⟨ad, 0, none⟩ (.int .i64 ((i : Int) + 1))) bs := by
  obtain ⟨p1, p2, p3, p4, p5, p6, p7⟩ := hp
  obtain ⟨a, c, hrd⟩ := h.rd
  have hk : ∀ k, k ≠ ad → (wr.setCell ⟨ad, 0, none⟩ (.int .i64 ((i : Int) + 1))).heap[k]? = wr.heap[k]? := fun k hk => Below.heap_setCell _ _ _ _ hk
  have hc : ∀ (b : Nat) (v : Value), b ≠ ad → wr.cell? ⟨b, 0, none⟩ = some v → (wr.setCell ⟨ad, 0, none⟩ (.int .i64 ((i : Int) + 1))).cell? ⟨b, 0, none⟩ = some v := fun b v hb hv => by
    rw [World.cell?_of_block (w := wr) (a := ⟨b, 0, none⟩) (hk b hb)]; exact hv
  have hf : ∀ (b : Nat), b ≠ ad → wr.frozen? ⟨b, 0, none⟩ = false → (wr.setCell ⟨ad, 0, none⟩ (.int .i64 ((i : Int) + 1))).frozen? ⟨b, 0, none⟩ = false := fun b hb hx => by
    rw [World.frozen?_of_block (w := wr) (a := ⟨b, 0, none⟩) (hk b hb)]; exact hx
  refine ⟨⟨a, c, rd_setInt hrd (by omega) h.v.cd (fun x e => by cases e)⟩, fun hd => ?_, inner_set h.inner (by omega) _, h.bel.setCell (p := ⟨ad, 0, none⟩) (by show w.heap.size ≤ ad; omega) _,
    hc _ _ (by omega) h.v.ck, hc _ _ (by omega) h.v.cn, ?_, ?_, hc _ _ (by omega) h.v.cl, hf _ (by omega) h.v.fl, hc _ _ (by omega) h.v.cz, hf _ (by omega) h.v.fz⟩
  · obtain ⟨hg, hpg⟩ := h.rg hd
    unfold RG at hg ⊢
    rw [hk pg (by omega)]; exact ⟨hg, hpg⟩
  · simp [go_sem, h.v.cd]
  · simp [go_sem, h.v.fd]
/-- What the function ends with. -/
def EndRet (w w7 W : World) (ak ad al az pr pg kn : Nat) (ka : Option Addr) (kc : Nat) (A : Option (List Nat)) (e : Ending) (W' : World) : Prop :=
  (∃ r, A = some r ∧ e = .returned (.tuple #[]) ∧ Inner w7.heap.size W pr W' ∧ Below w.heap.size w W' ∧ W'.cell? ⟨ad, 0, none⟩ = some (.int .i64 (kn : Int)) ∧ W'.cell? ⟨al, 0, none⟩ = some (.int .i64 (r.length : Int)) ∧ W'.cell? ⟨az, 0, none⟩ = some (.bool (zeros r)) ∧ W'.cell? ⟨ak, 0, none⟩ = some (.slice ka kn kc)) ∨
  (A = none ∧ e = .panicked (outChain pg) ∧ RG W' pg true ∧ (W.heap.size ≤ W'.heap.size ∧ ∀ k, w7.heap.size ≤ k → k < W.heap.size → k ≠ pr → k ≠ pg → W'.heap[k]? = W.heap[k]?) ∧ Below w.heap.size w W' ∧ (∃ i : Nat, i < kn ∧ W'.cell? ⟨ad, 0, none⟩ = some (.int .i64 (i : Int))) ∧ W'.cell? ⟨al, 0, none⟩ = some (.int .i64 (-1)) ∧ W'.cell? ⟨ak, 0, none⟩ = some (.slice ka kn kc))
theorem EndI.dies {e : Ending} {A : Option (List Nat)} (h : EndI w w7 W ak an ad al az pr pg ka kn kc na nn nc (A = none) i wr bs) (hp : EndAt w w7 ak an ad al az pr) (hA : A = none) (hi : i < kn) (hd : Died wr pr pg e w') : EndRet w w7 W ak ad al az pr pg kn ka kc A e w' := by
  obtain ⟨p1, p2, p3, p4, p5, p6, p7⟩ := hp
  obtain ⟨d1, d2, d3, d4, d5, d6, d7⟩ := hd
  obtain ⟨_, hpg⟩ := h.rg hA
  have hk : ∀ k, k < w7.heap.size → w'.heap[k]? = wr.heap[k]? := fun k k1 => d7 k (by omega) (by omega)
  have hv := h.v.keep (w' := w') hk (by omega) (by omega) (by omega) (by omega) (by omega)
  have hwz := h.bel.size
  exact .inr ⟨hA, d1, d2, ⟨Nat.le_trans h.inner.1 d3, fun k k1 k2 k3 k4 => by rw [d7 k k3 k4]; exact h.inner.2 k k1 k2 k3⟩, ⟨d4.trans h.bel.os, d5.trans h.bel.tape, d6.trans h.bel.output, Nat.le_trans h.bel.size d3, fun k k1 => by rw [d7 k (by omega) (by omega)]; exact h.bel.block k k1⟩, ⟨i, hi, hv.cd⟩, hv.cl, hv.ck⟩
theorem EndI.ends {r : List Nat} {z : Bool} {A : Option (List Nat)} (h : EndI w w7 W ak an ad al az pr pg ka kn kc na nn nc dead kn wr r) (hp : EndAt w w7 ak an ad al az pr) (hz : zeros r = z) (hA : A = some r) : EndRet w w7 W ak ad al az pr pg kn ka kc A (.returned (.tuple #[])) ((wr.setCell ⟨al, 0, none⟩ (.int .i64 (r.length : Int))).setCell ⟨az, 0, none⟩ (.bool z)) := by
  obtain ⟨p1, p2, p3, p4, p5, p6, p7⟩ := hp
  refine .inl ⟨r, hA, rfl, inner_set (inner_set h.inner (by omega) _) (by omega) _, (h.bel.setCell (p := ⟨al, 0, none⟩) (by show w.heap.size ≤ al; omega) _).setCell (p := ⟨az, 0, none⟩) (by show w.heap.size ≤ az; omega) _, ?_, ?_, ?_, ?_⟩
  · rw [World.cell?_setCell_other _ _ _ _ (fun e => by have := congrArg Addr.block e; simp at this; omega), World.cell?_setCell_other _ _ _ _ (fun e => by have := congrArg Addr.block e; simp at this; omega)]
    exact h.v.cd
  · rw [World.cell?_setCell_other _ _ _ _ (fun e => by have := congrArg Addr.block e; simp at this; omega)]
    simp [go_sem, h.v.cl]
  · have h2 : (wr.setCell ⟨al, 0, none⟩ (.int .i64 (r.length : Int))).cell? ⟨az, 0, none⟩ = some (.bool false) := by
      rw [World.cell?_setCell_other _ _ _ _ (fun e => by have := congrArg Addr.block e; simp at this; omega)]; exact h.v.cz
    simp [go_sem, h2, hz]
  · rw [World.cell?_setCell_other _ _ _ _ (fun e => by have := congrArg Addr.block e; simp at this; omega), World.cell?_setCell_other _ _ _ _ (fun e => by have := congrArg Addr.block e; simp at this; omega)]
    exact h.v.ck
end

set_option maxRecDepth 100000 in
set_option maxHeartbeats 4000000 in
theorem endsBy (ak an ad al az : Nat) (ka : Option Addr) (kn kc : Nat) (ks : List Int) (na : Option Addr) (nn nc : Nat) (ns : List Int) (w w7 W : World) (pr pg c : Nat) (a : Option Addr) (bs : List Nat) (A : Option (List Nat))
    (hK : RowZ w ka kn kc ks) (hN : RowZ w na nn nc ns) (hkn : kn ≤ 30) (hbl : bs.length ≤ 100000) (hA : goes ns 0 ks bs = A) (hrd : RD W pr pg a c bs) (hg : A = none → RG W pg false ∧ w7.heap.size ≤ pg) (hp : EndAt w w7 ak an ad al az pr) (h7 : Below w.heap.size w w7) (hb : Below w7.heap.size w7 W) (hv : EndV ak an ad al az ka kn kc na nn nc 0 w7) :
    Calls Try.prog 22 #[.pointer (some ⟨pr, 0, none⟩), .pointer (some ⟨ak, 0, none⟩), .pointer (some ⟨an, 0, none⟩), .pointer (some ⟨ad, 0, none⟩), .pointer (some ⟨al, 0, none⟩), .pointer (some ⟨az, 0, none⟩)] W (EndRet w w7 W ak ad al az pr pg kn ka kc A) := by
  have hI0 : EndI w w7 W ak an ad al az pr pg ka kn kc na nn nc (A = none) 0 W bs :=
    ⟨⟨a, c, hrd⟩, hg, ⟨Nat.le_refl _, fun _ _ _ _ => rfl⟩, h7.trans (hb.mono h7.size), hv.keep (B := w7.heap.size) (fun k k1 => hb.block k k1) (by have := hp; unfold EndAt at this; omega) (by have := hp; unfold EndAt at this; omega) (by have := hp; unfold EndAt at this; omega) (by have := hp; unfold EndAt at this; omega) (by have := hp; unfold EndAt at this; omega)⟩
  have HP := Lib.hid hp
  have HK := Lib.hid hK
  have HN := Lib.hid hN
  have HA0 : Hid (goes ns 0 (ks.drop 0) bs = A) := by rw [List.drop_zero]; exact hA
  have hkc : kn ≤ kc ∧ kc ≤ maxLen := ⟨hK.2.1, hK.2.2.1⟩
  have hnc : nn ≤ nc ∧ nc ≤ maxLen := ⟨hN.2.1, hN.2.2.1⟩
  unfold maxLen at hkc hnc
  obtain ⟨hkc1, hkc2⟩ := hkc
  obtain ⟨hnc1, hnc2⟩ := hnc
  clear hp hK hN hA hrd hg h7 hb hv
  go_enter Try.func22, Try.ntmps22
  go_wp2_with fail
  go_loopw [7] (fun iv wr => ∃ (k : Nat) (r : List Nat), k ≤ kn ∧ iv = .int .i64 (k : Int) ∧ r.length ≤ 100000 ∧ EndI w w7 W ak an ad al az pr pg ka kn kc na nn nc (A = none) k wr r ∧ Hid (goes ns k (ks.drop k) r = A)) (fun i _ => kn - (intOf i).toNat)
  case atStart => exact ⟨0, bs, by omega, rfl, hbl, hI0, HA0⟩
  case round =>
    obtain ⟨k, r, hk, rfl, hrl, hI, HA⟩ := hrel
    clear hI0 HA0 hbl
    have hck := hI.v.ck
    by_cases hlt : k < kn
    · have hlk : k < ks.length := by have := HK.out.1; omega
      obtain ⟨b, off, hka, hcK, hK1, hK2⟩ := rowZ_at (rowZ_below HK.out (hI.bel.mono (Nat.le_refl _))) hlt
      have HKA := Lib.hid hka
      have HLK := Lib.hid hlk
      have hkI : (k : Int) < (kn : Int) := by omega
      have hk0 : (0 : Int) ≤ (k : Int) := by omega
      obtain ⟨ar, cr, hrd⟩ := hI.rd
      have hcd := hI.v.cd
      obtain ⟨K, hKe⟩ : ∃ K, ks.getD k 0 = K := ⟨_, rfl⟩
      rw [hKe] at hcK hK1 hK2
      have HKE := Lib.hid hKe
      rw [hka] at hck
      clear hka hKe hlk
      rw [HKA.out]
      by_cases k1 : K = 1
      · subst k1
        have hnd : ∀ n, need (ks.getD k 0) n r = ((1 : Nat) : Int) := fun n => by rw [HKE.out]; rfl
        by_cases hf : 1 ≤ r.length
        · have HF := Lib.hid (goes_fit HA.out HLK.out (hnd _) hf)
          clear hnd
          go_wp2_with fail
          refine (rU8_ok hrd hf).mono ?_
          intro e w1 h1
          obtain ⟨rfl, hI1⟩ := hI.num HP.out h1
          clear h1 hI hrd hcd hck hcK
          have hcd := hI1.v.cd
          have hfd := hI1.v.fd
          go_wp2_with fail
          exact ⟨⟨k + 1, r.drop 1, by omega, by go_num, by simp; omega, by rw [← HKA.out]; exact hI1.bump HP.out, HF⟩, by simp [intOf]; omega⟩
        · have hAn := goes_out HA.out HLK.out (hnd _) (.inr (by omega))
          have HD := Lib.hid (rU8_dies hrd (hI.rg hAn).1 (by omega))
          have HAN := Lib.hid hAn
          clear hnd hAn
          go_wp2_with fail
          refine HD.out.mono ?_
          intro e w1 hd
          have he := hd.1
          have hR := hI.dies HP.out HAN.out hlt hd
          clear hd
          subst he
          exact ⟨rfl, by rw [← HKA.out]; exact hR⟩
      by_cases k2 : K = 2
      · subst k2
        have hnd : ∀ n, need (ks.getD k 0) n r = ((2 : Nat) : Int) := fun n => by rw [HKE.out]; rfl
        by_cases hf : 2 ≤ r.length
        · have HF := Lib.hid (goes_fit HA.out HLK.out (hnd _) hf)
          clear hnd
          go_wp2_with fail
          refine (rU16_ok hrd hf).mono ?_
          intro e w1 h1
          obtain ⟨rfl, hI1⟩ := hI.num HP.out h1
          clear h1 hI hrd hcd hck hcK
          have hcd := hI1.v.cd
          have hfd := hI1.v.fd
          go_wp2_with fail
          exact ⟨⟨k + 1, r.drop 2, by omega, by go_num, by simp; omega, by rw [← HKA.out]; exact hI1.bump HP.out, HF⟩, by simp [intOf]; omega⟩
        · have hAn := goes_out HA.out HLK.out (hnd _) (.inr (by omega))
          have HD := Lib.hid (rU16_dies hrd (hI.rg hAn).1 (by omega))
          have HAN := Lib.hid hAn
          clear hnd hAn
          go_wp2_with fail
          refine HD.out.mono ?_
          intro e w1 hd
          have he := hd.1
          have hR := hI.dies HP.out HAN.out hlt hd
          clear hd
          subst he
          exact ⟨rfl, by rw [← HKA.out]; exact hR⟩
      by_cases k3 : K = 3
      · subst k3
        have hcn := hI.v.cn
        obtain ⟨n, hn⟩ : ∃ n, ns.getD k 0 = n := ⟨_, rfl⟩
        have hnd : need (ks.getD k 0) (ns.getD k 0) r = n := by rw [HKE.out, hn]; rfl
        have hnn := HN.out.1
        have HF : Hid (∀ m : Nat, n = (m : Int) → m ≤ r.length → goes ns (k + 1) (ks.drop (k + 1)) (r.drop m) = A) := Lib.hid (fun m e1 e2 => goes_fit HA.out HLK.out (by rw [hnd, e1]) e2)
        have HO : Hid (n < 0 ∨ (r.length : Int) < n → A = none) := Lib.hid (fun h => goes_out HA.out HLK.out hnd h)
        have hfit : (∃ m : Nat, n = (m : Int) ∧ m ≤ r.length) ∨ (n < 0 ∨ (0 ≤ n ∧ (r.length : Int) < n)) := by
          by_cases h : n < 0
          · exact .inr (.inl h)
          · rcases Nat.lt_or_ge r.length n.toNat with h2 | h2
            · exact .inr (.inr ⟨by omega, by omega⟩)
            · exact .inl ⟨n.toNat, by omega, h2⟩
        by_cases hkn2 : k < nn
        · obtain ⟨b2, off2, hna, hcN, _, _⟩ := rowZ_at (rowZ_below HN.out (hI.bel.mono (Nat.le_refl _))) hkn2
          have HNA := Lib.hid hna
          rw [hn] at hcN
          rw [hna] at hcn
          have hkI2 : (k : Int) < (nn : Int) := by omega
          clear hna hnd hn hnn
          rw [HNA.out]
          rcases hfit with ⟨m, rfl, hm⟩ | hbad
          · go_wp2_with fail
            refine (rRaw_ok m hrd hm hrl).mono ?_
            intro e w1 h1
            obtain ⟨⟨sv, rfl⟩, hI1⟩ := hI.raw HP.out h1
            clear h1 hI hrd hcd hck hcK hcn hcN
            have hcd := hI1.v.cd
            have hfd := hI1.v.fd
            go_wp2_with fail
            exact ⟨⟨k + 1, r.drop m, by omega, by go_num, by simp; omega, by rw [← HKA.out, ← HNA.out]; exact hI1.bump HP.out, Lib.hid (HF.out m rfl hm)⟩, by simp [intOf]; omega⟩
          · have HAN := Lib.hid (HO.out (by omega))
            have HD := Lib.hid (rRaw_dies n hrd (hI.rg HAN.out).1 hbad)
            clear hbad
            go_wp2_with fail
            refine HD.out.mono ?_
            intro e w1 hd
            have he := hd.1
            have hR := hI.dies HP.out HAN.out hlt hd
            clear hd
            subst he
            exact ⟨rfl, by rw [← HKA.out]; exact hR⟩
        · have hn0 : n = 0 := by rw [← hn]; simp [List.getD, show ns[k]? = none from List.getElem?_eq_none (by omega)]
          subst hn0
          have hkI2 : ¬ (k : Int) < (nn : Int) := by omega
          have HF0 := Lib.hid (HF.out 0 rfl (by omega))
          have hraw := rRaw_ok 0 hrd (Nat.zero_le _) hrl
          have HRAW := Lib.hid hraw
          clear hfit hnd hn hnn hraw
          go_wp2_with fail
          refine HRAW.out.mono ?_
          intro e w1 h1
          obtain ⟨⟨sv, rfl⟩, hI1⟩ := hI.raw HP.out h1
          clear h1 hI hrd hcd hck hcK hcn HRAW
          have hcd := hI1.v.cd
          have hfd := hI1.v.fd
          go_wp2_with fail
          exact ⟨⟨k + 1, r.drop 0, by omega, by go_num, by simp; omega, by rw [← HKA.out]; exact hI1.bump HP.out, HF0⟩, by simp [intOf]; omega⟩
      by_cases k4 : K = 4
      · subst k4
        have hnd : ∀ n, need (ks.getD k 0) n r = ((4 : Nat) : Int) := fun n => by rw [HKE.out]; rfl
        by_cases hf : 4 ≤ r.length
        · have HF := Lib.hid (goes_fit HA.out HLK.out (hnd _) hf)
          clear hnd
          go_wp2_with fail
          refine (rU32_ok hrd hf).mono ?_
          intro e w1 h1
          obtain ⟨rfl, hI1⟩ := hI.num HP.out h1
          clear h1 hI hrd hcd hck hcK
          have hcd := hI1.v.cd
          have hfd := hI1.v.fd
          go_wp2_with fail
          exact ⟨⟨k + 1, r.drop 4, by omega, by go_num, by simp; omega, by rw [← HKA.out]; exact hI1.bump HP.out, HF⟩, by simp [intOf]; omega⟩
        · have hAn := goes_out HA.out HLK.out (hnd _) (.inr (by omega))
          have HD := Lib.hid (rU32_dies hrd (hI.rg hAn).1 (by omega))
          have HAN := Lib.hid hAn
          clear hnd hAn
          go_wp2_with fail
          refine HD.out.mono ?_
          intro e w1 hd
          have he := hd.1
          have hR := hI.dies HP.out HAN.out hlt hd
          clear hd
          subst he
          exact ⟨rfl, by rw [← HKA.out]; exact hR⟩
      by_cases k5 : K = 5
      · subst k5
        obtain ⟨m, hm⟩ : ∃ m, r.getD 0 0 = m := ⟨_, rfl⟩
        have hnd : ∀ n, need (ks.getD k 0) n r = ((1 + m : Nat) : Int) := fun n => by rw [HKE.out, ← hm]; simp [need]
        by_cases hf : 1 + m ≤ r.length
        · have HF := Lib.hid (goes_fit HA.out HLK.out (hnd _) hf)
          have HT := Lib.hid (rText_ok m hrd (by omega) hm hf)
          clear hnd hm
          go_wp2_with fail
          refine HT.out.mono ?_
          intro e w1 h1
          obtain ⟨rfl, hI1⟩ := hI.text HP.out h1
          clear h1 hI hrd hcd hck hcK HT
          have hcd := hI1.v.cd
          have hfd := hI1.v.fd
          go_wp2_with fail
          exact ⟨⟨k + 1, r.drop (1 + m), by omega, by go_num, by simp; omega, by rw [← HKA.out]; exact hI1.bump HP.out, HF⟩, by simp [intOf]; omega⟩
        · have hAn := goes_out HA.out HLK.out (hnd _) (.inr (by omega))
          have HD := Lib.hid (rText_dies hrd (hI.rg hAn).1 (by omega))
          have HAN := Lib.hid hAn
          clear hnd hAn hm
          go_wp2_with fail
          refine HD.out.mono ?_
          intro e w1 hd
          have he := hd.1
          have hR := hI.dies HP.out HAN.out hlt hd
          clear hd
          subst he
          exact ⟨rfl, by rw [← HKA.out]; exact hR⟩
      by_cases k8 : K = 8
      · subst k8
        have hnd : ∀ n, need (ks.getD k 0) n r = ((8 : Nat) : Int) := fun n => by rw [HKE.out]; rfl
        by_cases hf : 8 ≤ r.length
        · have HF := Lib.hid (goes_fit HA.out HLK.out (hnd _) hf)
          clear hnd
          go_wp2_with fail
          refine (rU64_ok hrd hf).mono ?_
          intro e w1 h1
          obtain ⟨rfl, hI1⟩ := hI.num HP.out h1
          clear h1 hI hrd hcd hck hcK
          have hcd := hI1.v.cd
          have hfd := hI1.v.fd
          go_wp2_with fail
          exact ⟨⟨k + 1, r.drop 8, by omega, by go_num, by simp; omega, by rw [← HKA.out]; exact hI1.bump HP.out, HF⟩, by simp [intOf]; omega⟩
        · have hAn := goes_out HA.out HLK.out (hnd _) (.inr (by omega))
          have HD := Lib.hid (rU64_dies hrd (hI.rg hAn).1 (by omega))
          have HAN := Lib.hid hAn
          clear hnd hAn
          go_wp2_with fail
          refine HD.out.mono ?_
          intro e w1 hd
          have he := hd.1
          have hR := hI.dies HP.out HAN.out hlt hd
          clear hd
          subst he
          exact ⟨rfl, by rw [← HKA.out]; exact hR⟩
      have d1 : (K == 1) = false := by simpa using k1
      have d2 : (K == 2) = false := by simpa using k2
      have d3 : (K == 3) = false := by simpa using k3
      have d4 : (K == 4) = false := by simpa using k4
      have d5 : (K == 5) = false := by simpa using k5
      have d8 : (K == 8) = false := by simpa using k8
      have HF := Lib.hid (goes_fit HA.out HLK.out (m := 0) (by rw [HKE.out]; simp [need, k1, k2, k3, k4, k5, k8]) (Nat.zero_le _))
      have hfd := hI.v.fd
      clear k1 k2 k3 k4 k5 k8
      go_wp2_with fail
      exact ⟨⟨k + 1, r.drop 0, by omega, by go_num, by simp; omega, by rw [← HKA.out, List.drop_zero]; exact hI.bump HP.out, HF⟩, by simp [intOf]; omega⟩
    · obtain rfl : k = kn := by omega
      have hAe := HA.out
      rw [goes_end ns ks k r (by have := HK.out.1; omega)] at hAe
      have HAE := Lib.hid hAe.symm
      obtain ⟨ar, cr, hrd⟩ := hI.rd
      obtain ⟨z, hz⟩ : ∃ z, zeros r = z := ⟨_, rfl⟩
      have HZ := Lib.hid hz
      have HZC := Lib.hid (rZero_any hrd)
      have hli : ¬ (k : Int) < (k : Int) := by omega
      clear hAe hz
      go_wp2_with fail
      refine (left_ok hrd).mono ?_
      rintro e w1 ⟨rfl, hw1⟩
      subst hw1
      go_wp2_with fail
      refine HZC.out.mono ?_
      rintro e w2 ⟨rfl, hb2⟩
      rw [HZ.out]
      have hI2 := hI.below HP.out hb2
      have hcl := hI2.v.cl
      have hfl := hI2.v.fl
      have hcz := hI2.v.cz
      have hfz := hI2.v.fz
      have hR := hI2.ends HP.out HZ.out HAE.out
      clear hI hrd hck
      have HR := Lib.hid hR
      have hcz2 : (w2.setCell ⟨al, 0, none⟩ (.int .i64 (r.length : Int))).cell? ⟨az, 0, none⟩ = some (.bool false) := by
        rw [World.cell?_setCell_other _ _ _ _ (fun e => by have := congrArg Addr.block e; have h2 := HP.out; unfold EndAt at h2; simp at this; omega)]; exact hcz
      have hfz2 : (w2.setCell ⟨al, 0, none⟩ (.int .i64 (r.length : Int))).frozen? ⟨az, 0, none⟩ = false := by
        rw [← hfz]; simp [go_sem]
      clear hR hI2 hcz hfz
      go_wp2_with fail
      go_end0
      exact HR.out

end Go.Proofs.Ytejhdafipjajnaa
