/- TopFrames' own function. -/
import Derived.Test.YtejhdafipjajnaaTop
import Derived.Test.YtejhdafipjajnaaWriterCalls
import Derived.BigQuiet
import Derived.Deep.Draws
namespace Go.Proofs.Ytejhdafipjajnaa
open Go.RowKit

/-- How many bytes a reader has left. -/
def leftLen (w : World) (pr : Nat) : Nat := match w.cell? ⟨pr, 0, none⟩ with | some (.slice _ n _) => n | _ => 0
theorem leftLen_rd {w : World} {pr pg c : Nat} {a : Option Addr} {bs : List Nat} (h : RD w pr pg a c bs) : leftLen w pr = bs.length := by
  unfold leftLen; rw [(rd_cells h).1]
theorem row_pokeInt {w : World} {b n : Nat} {u v : Value} {a : Option Addr} {bs : List Nat} (h : Row w a n bs) (hc : w.cell? ⟨b, 0, none⟩ = some u) (hu : ∀ q : Nat, u ≠ .int .u8 q) : Row (w.setCell ⟨b, 0, none⟩ v) a n bs := by
  refine ⟨h.1, h.2.1, fun h0 => ?_⟩
  obtain ⟨b2, off, e, hcs⟩ := h.2.2 h0
  refine ⟨b2, off, e, fun i hi => ?_⟩
  have hci := hcs i hi
  rw [World.cell?_setCell_other _ _ _ _ (fun e2 => by rw [← e2, hc] at hci; simp only [Option.some.injEq] at hci; exact hu _ hci)]
  exact hci
theorem frame_take (b R : List Nat) (hb : b.length < 4294967296) : leVal ((frame b ++ R).take 4) = b.length ∧ leVal (((frame b ++ R).drop 4).take 4) = Crc.of b ∧ (((frame b ++ R).drop 4).drop 4).take b.length = b ∧ (((frame b ++ R).drop 4).drop 4).drop b.length = R := by
  have h := Crc.of_lt b
  have e1 : frame b ++ R = Crc.les 4 b.length ++ (Crc.les 4 (Crc.of b) ++ (b ++ R)) := by unfold frame; simp [List.append_assoc]
  rw [e1, List.take_left' (Crc.les_len 4 _), List.drop_left' (Crc.les_len 4 _), List.take_left' (Crc.les_len 4 _), List.drop_left' (Crc.les_len 4 _), List.take_left' rfl, List.drop_left' rfl, leVal_les, leVal_les]
  exact ⟨Nat.mod_eq_of_lt hb, Nat.mod_eq_of_lt h, rfl, rfl⟩
theorem part_at {w wr : World} {a : Option Addr} {n c : Nat} {A : Nat → Option Addr} {L C : Nat → Nat} {B : Nat → List Nat} (h : InParts w a n c A L C B) (hb : Below w.heap.size w wr) {k : Nat} (hk : k < n) :
    ∃ b off, a = some ⟨b, off, none⟩ ∧ wr.cell? ⟨b, off + k, none⟩ = some (.slice (A k) (L k) (C k)) ∧ Row wr (A k) (L k) (B k) := by
  obtain ⟨h1, h2, h3, h4⟩ := h
  obtain ⟨b, off, e, hc⟩ := h3 (by omega)
  exact ⟨b, off, e, cell_bel hb (hc k hk), row_keep (h4 k hk).1 hb (Nat.le_refl _)⟩
theorem ownB_same {B : Nat} {w w' : World} {g n cap : Nat} {l : List Nat} (h : OwnB B w g n cap l) (hk : w'.heap[g]? = w.heap[g]?) : OwnB B w' g n cap l := by
  obtain ⟨⟨h1, h2⟩, h3⟩ := h
  refine ⟨⟨⟨h1.1, ?_⟩, h2⟩, h3⟩
  rcases h1.2 with h0 | ⟨g2, cap2, cur, e1, e2, e3, e4⟩
  · exact .inl h0
  · simp only [Value.slice.injEq, Option.some.injEq, Addr.mk.injEq] at e1
    obtain ⟨⟨rfl, _⟩, rfl, rfl⟩ := e1
    exact .inr ⟨g, cap, cur, by rw [h3], e2, by rw [hk]; exact e3, e4⟩
theorem size_set (w : World) (p : Addr) (v : Value) : (w.setCell p v).heap.size = w.heap.size := by simp [World.setCell]
/-- What the function ends with. -/
def TopRet (w w7 W : World) (p1 p2 p3 pr : Nat) (a : Option Addr) (n c : Nat) (e : Ending) (W' : World) : Prop :=
  e = .returned (.tuple #[]) ∧ Inner w7.heap.size W pr W' ∧ Below w.heap.size w W' ∧ W'.cell? ⟨p1, 0, none⟩ = some (.bool true) ∧ W'.cell? ⟨p2, 0, none⟩ = some (.int .i64 (n : Int)) ∧ W'.cell? ⟨p3, 0, none⟩ = some (.slice a n c)

set_option maxRecDepth 100000 in
set_option maxHeartbeats 8000000 in
theorem topBy (p1 p2 p3 p4 p5 p6 : Nat) (a : Option Addr) (n c : Nat) (A : Nat → Option Addr) (L C : Nat → Nat) (B : Nat → List Nat) (x y : Int) (z : Nat) (w w7 W : World) (pr pg rc : Nat) (ra : Option Addr)
    (hin : InParts w a n c A L C B) (hnc : n ≤ c) (_hcm : c ≤ maxLen) (hn : n ≤ 20) (hL : ∀ i, i < n → L i ≤ 300) (_hx : -9223372036854775808 ≤ x ∧ x ≤ 9223372036854775807) (_hy : -9223372036854775808 ≤ y ∧ y ≤ 9223372036854775807) (hz : z < 4294967296)
    (hrd : RD W pr pg ra rc (frames B 0 n)) (hp : TopAt w w7 p1 p2 p3 p4 p5 p6 pr) (h7 : Below w.heap.size w w7) (hb : Below w7.heap.size w7 W) (hv : TopV p1 p2 p3 p4 p5 p6 a n c x y z 0 w7) :
    Calls Try.prog 34 #[.pointer (some ⟨pr, 0, none⟩), .pointer (some ⟨p1, 0, none⟩), .pointer (some ⟨p2, 0, none⟩), .pointer (some ⟨p3, 0, none⟩), .pointer (some ⟨p4, 0, none⟩), .pointer (some ⟨p6, 0, none⟩), .pointer (some ⟨p5, 0, none⟩)] W (TopRet w w7 W p1 p2 p3 pr a n c) := by
  have hprW : pr < W.heap.size := World.block_lt_of_cell? W ⟨pr, 0, none⟩ (rd_cells hrd).1
  have hT0 : TopI w w7 W p1 p2 p3 p4 p5 p6 pr pg a n c x y z pr 0 W (frames B 0 (n - 0)) :=
    ⟨⟨ra, rc, hrd, fun q hq _ => hrd.2.2.2.2.2 q hq⟩, ⟨Nat.le_refl _, fun _ _ _ _ => rfl⟩, h7.trans (hb.mono h7.size), hv.keep (B := w7.heap.size) (fun k k1 => hb.block k k1) (by have := hp; unfold TopAt at this; omega) (by have := hp; unfold TopAt at this; omega) (by have := hp; unfold TopAt at this; omega) (by have := hp; unfold TopAt at this; omega) (by have := hp; unfold TopAt at this; omega) (by have := hp; unfold TopAt at this; omega)⟩
  have hW7 : w7.heap.size ≤ W.heap.size := hb.size
  have HP := Lib.hid hp
  have HIN := Lib.hid hin
  have HL := Lib.hid hL
  unfold maxLen at _hcm
  clear hp hin hL hrd h7 hb hv
  go_enter Try.func34, Try.ntmps34
  go_wp2_with fail
  go_loopw [8] (fun _ wr => ∃ k : Nat, k ≤ n ∧ W.heap.size ≤ wr.heap.size ∧ TopI w w7 W p1 p2 p3 p4 p5 p6 pr pg a n c x y z pr k wr (frames B k (n - k))) (fun _ wr => leftLen wr pr)
  case atStart => exact ⟨0, by omega, Nat.le_refl _, hT0⟩
  case round =>
    obtain ⟨k, hk, hWr, hT⟩ := hrel
    clear hT0
    by_cases hlt : k < n
    · have hrowk := (HIN.out.2.2.2 k hlt).1
      have hlk : (B k).length = L k := hrowk.1
      have hl300 := HL.out k hlt
      have hfl : (frames B (k + 1) (n - (k + 1))).length ≤ 308 * (n - (k + 1)) := frames_len B _ _ (fun j h1 h2 => by have := HL.out j (by omega); have := (HIN.out.2.2.2 j (by omega)).1.1; omega)
      have hst := frames_step B hlt
      obtain ⟨R, hR⟩ : ∃ R, frames B (k + 1) (n - (k + 1)) = R := ⟨_, rfl⟩
      rw [hR] at hst hfl
      obtain ⟨m1, m2, m3, m4⟩ := frame_take (B k) R (by omega)
      have hlen : (frame (B k) ++ R).length = 8 + L k + R.length := by rw [List.length_append, frame_len, hlk]
      rw [hst] at hT
      rw [hlk] at m1 m3 m4
      have hbyk := hrowk.2.1
      have hslt := Crc.of_lt (B k)
      obtain ⟨S, hS⟩ : ∃ S, Crc.of (B k) = S := ⟨_, rfl⟩
      rw [hS] at m2 hslt
      have HSE := Lib.hid hS
      have HBY := Lib.hid hbyk
      have HLK := Lib.hid hlk
      obtain ⟨lb, hlb⟩ : ∃ lb, L k = lb := ⟨_, rfl⟩
      rw [hlb] at m1 m3 m4 hlen hl300
      have HLB := Lib.hid hlb
      obtain ⟨bs, hbs⟩ : ∃ bs, frame (B k) ++ R = bs := ⟨_, rfl⟩
      rw [hbs] at m1 m2 m3 m4 hlen hT
      have M1 := Lib.hid m1
      have M2 := Lib.hid m2
      have M3 := Lib.hid m3
      have M4 := Lib.hid m4
      have HRR := Lib.hid hR
      have hbpos : (0 : Int) < (bs.length : Int) := by omega
      have hlft : leftLen wr pr = bs.length := by obtain ⟨ra, rc, hrd, _⟩ := hT.rd; exact leftLen_rd hrd
      obtain ⟨ra, rc, hrd, _⟩ := hT.rd
      clear hrowk hlk hst m1 m2 m3 m4 hbyk hS hlb hbs hR
      go_wp2_with fail
      refine (left_ok hrd).mono ?_
      rintro e wq ⟨rfl, hw1⟩
      subst hw1
      go_wp2_with fail
      refine (rU32_ok hrd (by omega)).mono ?_
      intro e w1 h1
      rw [M1.out] at h1
      obtain ⟨rfl, hT1⟩ := hT.num HP.out h1
      have hz1 : W.heap.size ≤ w1.heap.size := by obtain ⟨_, _, h, _⟩ := h1; rw [h]; simpa [World.setCell] using hWr
      obtain ⟨ra1, rc1, hrd1, _⟩ := hT1.rd
      have hd4 : (bs.drop 4).length = bs.length - 4 := List.length_drop
      clear h1 hT hrd
      go_wp2_with fail
      refine (rU32_ok hrd1 (by omega)).mono ?_
      intro e w2 h2
      rw [M2.out] at h2
      obtain ⟨rfl, hT2⟩ := hT1.num HP.out h2
      have hz2 : W.heap.size ≤ w2.heap.size := by obtain ⟨_, _, h, _⟩ := h2; rw [h]; simpa [World.setCell] using hz1
      obtain ⟨ra2, rc2, hrd2, _⟩ := hT2.rd
      have hd8 : ((bs.drop 4).drop 4).length = bs.length - 8 := by rw [List.length_drop, hd4]; omega
      clear h2 hT1 hrd1
      go_wp2_with fail
      refine (rRaw2_ok lb hrd2 (by omega) (by omega)).mono ?_
      intro e w3 h3
      obtain ⟨sv, rfl, ho, hG⟩ := hT2.raw HP.out h3
      rw [M3.out] at ho
      rw [M4.out] at hG
      have hz23 : w2.heap.size ≤ w3.heap.size := by obtain ⟨_, _, h, _, hb3, _⟩ := h3; have := hb3.size; rw [h] at this; simpa [World.setCell] using this
      have hz3 : W.heap.size ≤ w3.heap.size := by omega
      obtain ⟨a5, c5, hsv, hr5, _⟩ := row_of_own ho
      rw [HLK.out, HLB.out] at hsv hr5
      subst hsv
      have hla : lb ≤ maxLen := by unfold maxLen; omega
      -- where the text lies
      have hshape : ∃ g, w2.heap.size ≤ g ∧ (4 < lb → a5 = some ⟨g, 0, none⟩ ∧ OwnB w2.heap.size w3 g lb c5 (B k) ∧ g < w3.heap.size) := by
        rcases Nat.lt_or_ge 4 lb with h4 | h4
        · obtain ⟨g, cap, e, q1, q2, q3, _⟩ := ownB_of ho (by rw [HLK.out, HLB.out]; omega)
          simp only [Value.slice.injEq] at e
          obtain ⟨e1, _, e3⟩ := e
          rw [HLK.out, HLB.out, ← e3] at q3
          exact ⟨g, q1, fun _ => ⟨e1, q3, q2⟩⟩
        · exact ⟨w2.heap.size, Nat.le_refl _, fun h => by omega⟩
      obtain ⟨g, hg2, hgs⟩ := hshape
      have hT3 := hG g hg2
      obtain ⟨b, off, ha, hcP, hrP⟩ := part_at HIN.out hT3.bel hlt
      rw [HLB.out] at hcP hrP
      have HA := Lib.hid ha
      have HGS := Lib.hid hgs
      have hc3 := hT3.v.c3
      have hkI : (k : Int) < (n : Int) := by omega
      have hk0 : (0 : Int) ≤ (k : Int) := by omega
      have hkc : n ≤ c := hnc
      rw [ha] at hc3
      clear h3 hT2 hrd2 ho hG ha hgs
      -- what holds at each world of the comparison
      have hSX : ∀ wx, TopI w w7 W p1 p2 p3 p4 p5 p6 pr pg a n c x y z g k wx R → Row wx a5 lb (B k) →
          wx.frozen? ⟨p1, 0, none⟩ = false ∧ wx.cell? ⟨p1, 0, none⟩ = some (.bool true) ∧ wx.cell? ⟨p2, 0, none⟩ = some (.int .i64 (k : Int)) ∧ wx.cell? ⟨p3, 0, none⟩ = some (.slice (some ⟨b, off, none⟩) n c) ∧ wx.cell? ⟨b, off + k, none⟩ = some (.slice (A k) lb (C k)) ∧
          (convert 26 9 (.slice a5 lb c5)).run Try.prog wx = .ok (.string (strOf (B k))) wx ∧ (convert 26 9 (.slice (A k) lb (C k))).run Try.prog wx = .ok (.string (strOf (B k))) wx := fun wx hx hr => by
        obtain ⟨b2, off2, e2, hc2, hr2⟩ := part_at HIN.out hx.bel hlt
        rw [HA.out] at e2
        cases e2
        rw [HLB.out] at hc2 hr2
        exact ⟨hx.v.f1, hx.v.c1, hx.v.c2, by rw [hx.v.c3, HA.out], hc2, conv_str _ _ _ _ _ hr, conv_str _ _ _ _ _ hr2⟩
      have HSX := Lib.hid hSX
      have hTa : ∀ o, TopI w w7 W p1 p2 p3 p4 p5 p6 pr pg a n c x y z g k (w3.drew.alloc o) R := fun o => hT3.drew.below HP.out (bel_alloc (Below.refl _ _) o)
      have hra : ∀ o, Row (w3.drew.alloc o) a5 lb (B k) := fun o => row_alloc (row_keep hr5 ((Below.refl _ w3).drew) (Nat.le_refl _)) o
      have hS0 := hSX w3.drew hT3.drew (row_keep hr5 ((Below.refl _ w3).drew) (Nat.le_refl _))
      have hS1 := fun o => hSX _ (hTa o) (hra o)
      have hS2 := fun o => hSX _ ((hTa o).mark HP.out) (row_pokeInt (v := .bool true) (hra o) (hTa o).v.c1 (fun q e => by cases e))
      obtain ⟨st, hst⟩ : ∃ st, strOf (B k) = st := ⟨_, rfl⟩
      rw [hst] at hS0
      simp only [hst] at hS1 hS2
      have HTA := Lib.hid hTa
      have HRA := Lib.hid hra
      clear hSX hTa hra hst HSX hc3 hcP hrP
      go_wp2_with fail
      go_region_held3 (fun w' => w'.frozen? ⟨p1, 0, none⟩ = false ∧ w'.cell? ⟨p1, 0, none⟩ = some (.bool true) ∧ w'.cell? ⟨p2, 0, none⟩ = some (.int .i64 (k : Int)) ∧ w'.cell? ⟨p3, 0, none⟩ = some (.slice (some ⟨b, off, none⟩) n c) ∧ w'.cell? ⟨b, off + k, none⟩ = some (.slice (A k) lb (C k)) ∧
          (convert 26 9 (.slice a5 lb c5)).run Try.prog w' = .ok (.string st) w' ∧ (convert 26 9 (.slice (A k) lb (C k))).run Try.prog w' = .ok (.string st) w') (first | exact hS0 | exact hS1 _ | exact hS2 _ | go_keep)
        (first
          | (go_simp; go_at_call 33; ((with_reducible refine (of_one w3.heap.size 0 1 a5 lb c5 (B k) _ ?_ hla ?_).mono ?_)); (· exact cell_new1 _ _ _); (· exact HRA.out _); (rintro e w' ⟨rfl, rfl⟩; rw [HSE.out])))
      have hT4 : TopI w w7 W p1 p2 p3 p4 p5 p6 pr pg a n c x y z g k (((w3.alloc (.cells #[.slice a5 lb c5] 26)).setCell ⟨p1, 0, none⟩ (.bool true)).drew) R := (HTA.out _).mark HP.out
      have hz4 : W.heap.size ≤ (((w3.alloc (.cells #[.slice a5 lb c5] 26)).setCell ⟨p1, 0, none⟩ (.bool true)).drew).heap.size := by simp [World.setCell, World.drew]; omega
      have hgs4 : 4 < lb → a5 = some ⟨g, 0, none⟩ ∧ OwnB w2.heap.size (((w3.alloc (.cells #[.slice a5 lb c5] 26)).setCell ⟨p1, 0, none⟩ (.bool true)).drew) g lb c5 (B k) := fun h => by
        obtain ⟨q1, q2, q3⟩ := HGS.out h
        refine ⟨q1, ownB_same q2 ?_⟩
        have hat := HP.out
        unfold TopAt at hat
        show ((w3.alloc _).setCell _ _).heap[g]? = _
        rw [Below.heap_setCell _ _ _ _ (by show g ≠ p1; omega), Below.heap_alloc _ _ _ q3]
      obtain ⟨w4, hw4⟩ : ∃ w4, w4 = ((w3.alloc (.cells #[.slice a5 lb c5] 26)).setCell ⟨p1, 0, none⟩ (.bool true)).drew := ⟨_, rfl⟩
      rw [← hw4] at hT4 hz4 hgs4 ⊢
      obtain ⟨r0, hr0, hpk⟩ := pick_any x n (by omega) (by omega)
      have HPK := Lib.hid hpk
      have HG4 := Lib.hid hgs4
      have hnI : decide (0 < n) = true := decide_eq_true (by omega)
      have hc2 := hT4.v.c2
      have hf2 := hT4.v.f2
      have hc3 : w4.cell? ⟨p3, 0, none⟩ = some (.slice (some ⟨b, off, none⟩) n c) := by rw [← HA.out]; exact hT4.v.c3
      have hc4 := hT4.v.c4
      have hc6 := hT4.v.c6
      have hR8 : R.length < leftLen wq pr := by rw [hlft]; omega
      have HND : Hid (∀ m, W.heap.size ≤ ((w4.drewN m).setCell ⟨p2, 0, none⟩ (.int .i64 ((k : Int) + 1))).heap.size ∧ TopI w w7 W p1 p2 p3 p4 p5 p6 pr pg a n c x y z pr (k + 1) ((w4.drewN m).setCell ⟨p2, 0, none⟩ (.int .i64 ((k : Int) + 1))) R ∧ leftLen ((w4.drewN m).setCell ⟨p2, 0, none⟩ (.int .i64 ((k : Int) + 1))) pr = R.length) := Lib.hid fun m => by
        have hB := (hT4.drewN m).bump HP.out
        obtain ⟨ra, rc, hrd, _⟩ := hB.rd
        exact ⟨by rw [size_set]; exact hz4, hB, leftLen_rd hrd⟩
      clear hw4 hS0 hS1 hS2 HTA HRA hr5 hT3 hpk hgs4 HGS hlft
      by_cases hgo : (k = r0 ∧ 4 < lb) ∧ z ≠ 0
      · obtain ⟨⟨rfl, hl4⟩, hz0⟩ := hgo
        have d1 : decide ((4 : Int) < (lb : Int)) = true := decide_eq_true (by omega)
        have d2 : ((z : Int) != 0) = true := by rw [bne_iff_ne]; omega
        obtain ⟨rfl, hOW⟩ := HG4.out hl4
        have HZN := Lib.hid hz0
        clear hz0 hr0 HND
        go_wp2_with fail
        go_quiet (first | (go_at_call 35; exact Calls.quiet_of_same (HPK.out _)))
        have hc5 := hT4.v.c5
        obtain ⟨r, hr, hpk2⟩ := pick_any y (8 * lb - 32) (by omega) (by omega)
        have hm8 : (((8 * lb - 32 : Nat)) : Int) = 8 * (lb : Int) - 32 := by omega
        rw [hm8] at hpk2
        have HPK2 := Lib.hid hpk2
        clear hpk2 hm8
        go_wp2_with fail
        refine (HPK2.out _).mono ?_
        rintro e wo ⟨rfl, hwo⟩
        have hTo : TopI w w7 W p1 p2 p3 p4 p5 p6 pr pg a n c x y z g k wo R := by rw [hwo]; exact hT4.drewN _
        have hOo : OwnB w2.heap.size wo g lb c5 (B k) := by rw [hwo]; exact ownB_same hOW rfl
        have hzo : W.heap.size ≤ wo.heap.size := by rw [hwo]; exact hz4
        have hgo : g < wo.heap.size := by
          have := World.block_lt_of_cell? wo ⟨g, 0, none⟩ (ownB_cell hOo 0 (by omega))
          exact this
        have hWg : W.heap.size ≤ g := by omega
        clear hwo hc2 hf2 hc3 hc4 hc5 hc6 hT4 hOW hz4 HPK HPK2 d1 d2 hnI HG4
        go_wp2
        go_loopw [12] (fun iv wr => ∃ (j : Nat) (l : List Nat), j ≤ 32 ∧ iv = .int .i64 (j : Int) ∧ OwnB w2.heap.size wr g lb c5 l ∧ Hid (Crc.val l = Crc.val (B k) ^^^ (2 ^ r * (z % 2 ^ j))) ∧ W.heap.size ≤ wr.heap.size ∧ TopI w w7 W p1 p2 p3 p4 p5 p6 pr pg a n c x y z g k wr R) (fun iv _ => 32 - (intOf iv).toNat)
        case atStart => exact ⟨0, B k, by omega, rfl, hOo, Lib.hid (by simp [Nat.mod_one]), hzo, hTo⟩
        case round =>
          obtain ⟨j, l, hj, rfl, hO, HV, hzr, hTr⟩ := hrel
          clear hTo hOo hzo
          have hc6 := hTr.v.c6
          by_cases hlt2 : j < 32
          · by_cases hbit : z / 2 ^ j % 2 = 1
            · have ht : (bits BinOp.and IntKind.u32 ((z : Int) / 2 ^ j) 1 == 1) = true := by rw [bit_test z j hz]; exact decide_eq_true hbit
              have hjl : (r + j) / 8 < lb := by omega
              have HST := Lib.hid (Crc.turn_step hO.1.2 (by rw [hO.2]; omega) HV.out hbit)
              have e0 : IntKind.i64.wrap ((r : Int) + (j : Int)) = (r : Int) + (j : Int) := by rw [IntKind.wrap_i64]; omega
              have e1 := quo_wrap (r := r) (k := j) (by omega)
              have e2 := rem_plain r j
              have hs8 : (r + j) % 8 < 8 := Nat.mod_lt _ (by omega)
              obtain ⟨q, hq⟩ : ∃ q, q = (r + j) / 8 := ⟨_, rfl⟩
              obtain ⟨s, hs⟩ : ∃ s, s = (r + j) % 8 := ⟨_, rfl⟩
              rw [← hq] at hjl e1 HST
              rw [← hs] at e2 hs8 HST
              clear hq hs hbit
              have hcj := ownB_cell hO q hjl
              have hfj := ownB_frozen hO q
              have hyb := getD_lt hO.1.2 q
              obtain ⟨yb, hyy⟩ : ∃ yb, yb = l.getD q 0 := ⟨_, rfl⟩
              rw [← hyy] at hcj hyb HST
              have hj0 : (0 : Int) ≤ (q : Int) := by omega
              have hj1 : (q : Int) < (lb : Int) := by omega
              have hs0 : (0 : Int) ≤ (s : Int) := by omega
              clear hyy
              go_wp2
              go_still_tail 19, (by kernel_rfl)
              change wpList _ _ _ _ _ wr.drew
              rw [xor_pow yb s hyb hs8]
              have hnb : yb ^^^ 2 ^ s < 256 := xor_pow_lt yb s hyb hs8
              clear e0 e1 e2
              generalize yb ^^^ 2 ^ s = zb at *
              go_wp2
              go_roundw
              case rel => exact ⟨j + 1, l.set q zb, by omega, by go_num, ownB_set hO q zb hnb, HST, by simp [World.drew]; exact hzr, (hTr.poke HP.out hWg hW7 hprW).drew⟩
              case measure => simp [intOf]; omega
            · have ht : (bits BinOp.and IntKind.u32 ((z : Int) / 2 ^ j) 1 == 1) = false := by rw [bit_test z j hz]; exact decide_eq_false hbit
              have HST := Lib.hid (Crc.stay_step HV.out hbit)
              clear hbit
              go_wp2
              go_roundw
              case rel => exact ⟨j + 1, l, by omega, by go_num, hO, HST, hzr, hTr⟩
              case measure => simp [intOf]; omega
          · have h32 : j = 32 := by omega
            have hv := HV.out
            rw [h32, show z % 2 ^ 32 = z by omega] at hv
            have hlk2 : (B k).length = lb := by rw [HLK.out, HLB.out]
            have hne := Crc.turns (B k) l (by rw [hO.2]; exact hlk2) HBY.out hO.1.2 r z hv hz HZN.out (by rw [hlk2]; omega)
            rw [HSE.out] at hne
            obtain ⟨T, hT⟩ : ∃ T, Crc.of l = T := ⟨_, rfl⟩
            rw [hT] at hne
            have HTE := Lib.hid hT
            have n1 : ((T : Int) != (S : Int)) = true := neq_true_of hne
            have n2 : (T != S) = true := by rw [bne_iff_ne]; exact hne
            have n3 : decide (T = S) = false := decide_eq_false hne
            have hrl := row_ownB hO
            have hTa := hTr.below HP.out (bel_alloc (Below.refl _ wr) (.cells #[.slice (some ⟨g, 0, none⟩) lb c5] 26))
            have hTm := hTa.mark HP.out
            have hTb := hTm.bump HP.out
            have hc1 := hTr.v.c1
            have hc1a := hTa.v.c1
            have hf1a := hTa.v.f1
            have hc2m := hTm.v.c2
            have hf2m := hTm.v.f2
            have HTB := Lib.hid hTb
            obtain ⟨rab, rcb, hrdb, _⟩ := hTb.rd
            have hRl := leftLen_rd hrdb
            have HRL := Lib.hid hRl
            have HZ : Hid (W.heap.size ≤ wr.heap.size + 1) := Lib.hid (by omega)
            clear h32 hv hlk2 hne hT hTa hTm hTb hTr hc6 hRl hrdb
            go_wp2_with fail
            refine (of_one _ 0 _ _ lb c5 l _ (cell_new1 _ _ _) hla (row_alloc hrl _)).mono ?_
            rintro e w' ⟨rfl, rfl⟩
            rw [HTE.out]
            go_wp2_with fail
            exact ⟨⟨k + 1, by omega, by rw [size_set, size_set]; have := HZ.out; simp; omega, by rw [HRR.out]; exact HTB.out⟩, by rw [HRL.out]; exact hR8⟩
      · have hfs : (k ≠ r0) ∨ (k = r0 ∧ ¬ 4 < lb) ∨ (k = r0 ∧ 4 < lb ∧ z = 0) := by
          by_cases e0 : k = r0
          · by_cases e1 : 4 < lb
            · refine .inr (.inr ⟨e0, e1, ?_⟩)
              rcases Nat.eq_zero_or_pos z with h | h
              · exact h
              · exact absurd ⟨⟨e0, e1⟩, by omega⟩ hgo
            · exact .inr (.inl ⟨e0, e1⟩)
          · exact .inl e0
        clear hgo HG4
        rcases hfs with e0 | ⟨rfl, e1⟩ | ⟨rfl, e1, rfl⟩
        · have d0 : ((k : Int) == (r0 : Int)) = false := by rw [beq_eq_false_iff_ne]; omega
          have d0a : (k == r0) = false := by rw [beq_eq_false_iff_ne]; omega
          have d0b : decide (k = r0) = false := decide_eq_false (by omega)
          clear e0
          go_wp2_with fail
          go_quiet (first | (go_at_call 35; exact Calls.quiet_of_same (HPK.out _)))
          go_wp2_with fail
          exact ⟨⟨k + 1, by omega, (HND.out _).1, by rw [HRR.out]; exact (HND.out _).2.1⟩, by rw [(HND.out _).2.2]; exact hR8⟩
        · have d1 : decide ((4 : Int) < (lb : Int)) = false := decide_eq_false (by omega)
          clear e1
          go_wp2_with fail
          go_quiet (first | (go_at_call 35; exact Calls.quiet_of_same (HPK.out _)))
          go_wp2_with fail
          exact ⟨⟨k + 1, by omega, (HND.out _).1, by rw [HRR.out]; exact (HND.out _).2.1⟩, by rw [(HND.out _).2.2]; exact hR8⟩
        · have d1 : decide ((4 : Int) < (lb : Int)) = true := decide_eq_true (by omega)
          clear e1
          go_wp2_with fail
          go_quiet (first | (go_at_call 35; exact Calls.quiet_of_same (HPK.out _)))
          go_wp2_with fail
          exact ⟨⟨k + 1, by omega, (HND.out _).1, by rw [HRR.out]; exact (HND.out _).2.1⟩, by rw [(HND.out _).2.2]; exact hR8⟩
    · obtain rfl : k = n := by omega
      have hbe : frames B k (k - k) = [] := by rw [Nat.sub_self]; rfl
      rw [hbe] at hT
      obtain ⟨ra, rc, hrd, _⟩ := hT.rd
      clear hbe
      go_wp2_with fail
      refine (left_ok hrd).mono ?_
      rintro e w1 ⟨rfl, hw1⟩
      subst hw1
      go_wp2
      go_end0
      exact ⟨rfl, hT.inner, hT.bel, hT.v.c1, hT.v.c2, hT.v.c3⟩

end Go.Proofs.Ytejhdafipjajnaa
