/- CursorKeeps: the walk. -/
import Derived.Test.YtejhdafipjajnaaKeepsBy
import Derived.Test.YtejhdafipjajnaaNil
import Derived.RegionTactic
import Derived.ChangeAlike
import Derived.BigRegion
namespace Go.Proofs.Ytejhdafipjajnaa
open Go.RowKit

/-- Bytes at the head of a block that may be written. -/
def Cells8 (w : World) (b n : Nat) : Prop := ∀ i, i < n → ∃ y : Nat, y < 256 ∧ w.cell? ⟨b, i, none⟩ = some (.int .u8 (y : Int)) ∧ w.frozen? ⟨b, i, none⟩ = false
theorem cells8_own {B : Nat} {w : World} {a : Option Addr} {n c : Nat} {bs : List Nat} (h : Own B w (.slice a n c) bs) (h0 : 0 < n) : ∃ g, a = some ⟨g, 0, none⟩ ∧ B ≤ g ∧ g < w.heap.size ∧ n ≤ c ∧ c ≤ maxLen ∧ Cells8 w g n := by
  have hlt := own_base h
  have h8 := h.2
  rcases h.1.2 with ⟨e, _⟩ | ⟨g, cap, cur, e, e2, e3, e4, e5, e6, e7⟩
  · simp only [Value.slice.injEq] at e; omega
  · simp only [Value.slice.injEq] at e
    obtain ⟨rfl, rfl, rfl⟩ := e
    refine ⟨g, rfl, e2, (hlt g rfl).2, e4, e5, fun i hi => ⟨bs.getD i 0, getD_lt h8 i, ?_, ?_⟩⟩
    · have h1 : w.cell? ⟨g, i, none⟩ = cur[i]? := by simp [World.cell?, e3]
      have h2 : cur[i]? = (cur.toList.take (bs.length * 1))[i]? := by
        rw [List.getElem?_take_of_lt (by omega), Array.getElem?_toList]
      rw [h1, h2, e7, List.getElem?_map, List.getElem?_eq_getElem hi, getD_in _ _ hi]
      rfl
    · simp [World.frozen?, e3]
theorem cells8_below {B : Nat} {w w' : World} {b n : Nat} (h : Cells8 w b n) (hb : Below B w w') (hlt : b < B) : Cells8 w' b n := fun i hi => by
  obtain ⟨y, h1, h2, h3⟩ := h i hi
  exact ⟨y, h1, by rw [hb.cell (p := ⟨b, i, none⟩) hlt]; exact h2, by rw [hb.frozen (p := ⟨b, i, none⟩) hlt]; exact h3⟩
theorem cells8_set {w : World} {b k n b2 : Nat} {z : Nat} (h : Cells8 w b2 n) (hz : z < 256) : Cells8 (w.setCell ⟨b, k, none⟩ (.int .u8 (z : Int))) b2 n := fun i hi => by
  obtain ⟨y, h1, h2, h3⟩ := h i hi
  have hf : (w.setCell ⟨b, k, none⟩ (.int .u8 (z : Int))).frozen? ⟨b2, i, none⟩ = false := by rw [← h3]; simp [go_sem]
  by_cases he : b2 = b ∧ i = k
  · obtain ⟨rfl, rfl⟩ := he
    exact ⟨z, hz, by simp [go_sem, h2], hf⟩
  · refine ⟨y, h1, ?_, hf⟩
    rw [← h2]
    refine World.cell?_setCell_other w _ _ _ ?_
    intro e
    simp only [Addr.mk.injEq] at e
    exact he ⟨e.1.symm, e.2.1.symm⟩
def KeepRel (w5 wr : World) (p8 : Nat) (a8 : Option Addr) (len c8 gx gp : Nat) : Prop := Below w5.heap.size w5 wr ∧ wr.cell? ⟨p8, 0, none⟩ = some (.slice a8 len c8) ∧ (0 < len → Cells8 wr gx len ∧ Cells8 wr gp len)
theorem keep_step {w5 wr : World} {p8 : Nat} {a8 : Option Addr} {len c8 gx gp k y1 y2 : Nat} (h : KeepRel w5 wr p8 a8 len c8 gx gp) (hx1 : w5.heap.size ≤ gx) (hx2 : gx < p8) (hp1 : p8 < gp) (h0 : 0 < len) :
    KeepRel w5 (((wr.setCell ⟨gx, k, none⟩ (.int .u8 (((y1 : Int) + 1) % 256))).setCell ⟨gp, k, none⟩ (.int .u8 (((y2 : Int) + 1) % 256))).drew) p8 a8 len c8 gx gp := by
  obtain ⟨hb, hc, hs⟩ := h
  obtain ⟨h1, h2⟩ := hs h0
  have e1 : (((y1 : Int) + 1) % 256) = (((y1 + 1) % 256 : Nat) : Int) := by omega
  have e2 : (((y2 : Int) + 1) % 256) = (((y2 + 1) % 256 : Nat) : Int) := by omega
  rw [e1, e2]
  refine ⟨((hb.setCell (p := ⟨gx, k, none⟩) hx1 _).setCell (p := ⟨gp, k, none⟩) (by show w5.heap.size ≤ gp; omega) _).drew, ?_, fun _ => ⟨?_, ?_⟩⟩
  · show World.cell? ((wr.setCell _ _).setCell _ _) _ = _
    rw [World.cell?_setCell_other _ _ _ _ (fun e => by have := congrArg Addr.block e; simp at this; omega), World.cell?_setCell_other _ _ _ _ (fun e => by have := congrArg Addr.block e; simp at this; omega)]
    exact hc
  · exact cells8_set (cells8_set h1 (Nat.mod_lt _ (by omega))) (Nat.mod_lt _ (by omega))
  · exact cells8_set (cells8_set h2 (Nat.mod_lt _ (by omega))) (Nat.mod_lt _ (by omega))
theorem kept_after {w6 W w8 : World} {u : Value} {t : TypeId} {bs : List Nat} (hq : KeptOne (w6.alloc (.cells #[u] t)) w6.heap.size bs W) (hb : Below (w6.alloc (.cells #[u] t)).heap.size W w8) (hk : ∀ k, (w6.alloc (.cells #[u] t)).heap.size + 3 ≤ k → k < W.heap.size → w8.heap[k]? = W.heap[k]?) :
    Below w6.heap.size w6 w8 ∧ ∃ a c, w8.cell? ⟨w6.heap.size, 0, none⟩ = some (.slice a bs.length c) ∧ Own (w6.heap.size + 4) w8 (.slice a bs.length c) bs := by
  obtain ⟨sv, ⟨W2, h2, rfl⟩, ho⟩ := hq
  have hs : (w6.alloc (.cells #[u] t)).heap.size = w6.heap.size + 1 := by simp
  have hn := heap_alloc_new w6 (.cells #[u] t)
  have h3 : W2.heap[w6.heap.size]? = some (.cells #[u] t (0, 0)) := by rw [h2.block _ (by omega)]; exact hn
  have hc : W2.cell? ⟨w6.heap.size, 0, none⟩ = some u := cell_of_heap1 h3
  obtain ⟨a, c, rfl, _, _⟩ := row_of_own ho
  have hz : (w6.alloc (.cells #[u] t)).heap.size ≤ (W2.setCell ⟨w6.heap.size, 0, none⟩ (.slice a bs.length c)).heap.size := by
    simp only [World.setCell, Array.size_modify]
    exact h2.size
  refine ⟨?_, a, c, ?_, ?_⟩
  · exact ((bel_alloc (Below.refl _ w6) _).trans ((h2.mono (B' := w6.heap.size) (by omega)).setCell (p := ⟨w6.heap.size, 0, none⟩) (Nat.le_refl _) _)).trans (hb.mono (by omega))
  · rw [hb.cell (p := ⟨w6.heap.size, 0, none⟩) (by rw [hs]; exact Nat.lt_succ_self _)]
    simp [go_sem, hc]
  · rw [hs] at ho
    rw [hs] at hk
    refine ⟨⟨ho.1.1, ?_⟩, ho.2⟩
    rcases ho.1.2 with h0 | ⟨g, cap, cur, e1, e2, e3, e4⟩
    · exact .inl h0
    · refine .inr ⟨g, cap, cur, e1, e2, ?_, e4⟩
      have hg := own_base ho g (by rw [e1]; rfl)
      rw [hk g (by omega) hg.2]; exact e3

set_option maxRecDepth 100000 in
set_option maxHeartbeats 800000 in
theorem cursorKeeps_walk (a : Option Addr) (len cap : Nat) (bs : List Nat) (v : Int) (w : World) (hin : InB w a len cap bs) (_hwf : (Lit.int .u64 v).wf = true) :
    Calls Try.prog 5 #[.slice a len cap, .int .u64 v] w fun e w' => e = .returned (.bool true) ∧ Below w.heap.size w w' := by
  obtain ⟨hr, hlc, hcm, hnone⟩ := hin
  by_cases h5 : 500 < len
  · have hg1 : decide ((len : Int) > 500) = true := by simp; omega
    go_enter Try.func5, Try.ntmps5
    go_wp2_with fail
    refine (laid_any _).mono ?_
    rintro e w1 ⟨rfl, hb1⟩
    go_wp2_with fail
    refine (laid_any _).mono ?_
    rintro e w2 ⟨rfl, hb2⟩
    go_wp2
    go_ret
    exact ⟨rfl, bel_trans hb1 hb2⟩
  · have hl5 : len ≤ 500 := by omega
    have hg1 : decide ((len : Int) > 500) = false := by simp; omega
    have hmf : ∀ (fn : Fn) (first cap : Array Value) (w : World), (Instr.makeFunc fn first cap).run Try.prog w = .ok (.func fn first cap) w := fun _ _ _ _ => rfl
    go_enter Try.func5, Try.ntmps5
    go_wp2_with fail
    refine (laid_any _).mono ?_
    rintro e w1 ⟨rfl, hb1⟩
    have hr1 : Row w1 a len bs := row_keep hr hb1 (Nat.le_refl _)
    have hblen := hr.1
    go_wp2_with fail
    refine (part_any a len cap bs w1 hr1 hlc hcm hnone (by omega)).mono ?_
    intro e w2 h2
    obtain ⟨a2, c2, rfl, hr2, hn2, ho2, hb2⟩ := retOwn_len h2
    have hb02 := bel_trans hb1 hb2
    rw [hblen] at hr2 ho2 ⊢
    have HBL := Lib.hid hblen
    have hlt2 : ∀ x, a2 = some x → x.block < w2.heap.size := fun x hx => (own_base ho2 x.block (by rw [hx]; rfl)).2
    clear hblen h2 hb1 hb2 hr1 ho2
    go_wp2_with fail
    obtain ⟨pc, hpc⟩ : ∃ pc, pc = w2.heap.size := ⟨_, rfl⟩
    obtain ⟨pw, hpw⟩ : ∃ pw, pw = w2.heap.size + 1 := ⟨_, rfl⟩
    obtain ⟨w3, hw3⟩ : ∃ w3, w3 = w2.alloc (Obj.cells #[Value.slice a2 len c2] 26) := ⟨_, rfl⟩
    have hs3 : w3.heap.size = pw := by rw [hw3, hpw]; simp
    have hc3 : w3.cell? ⟨pc, 0, none⟩ = some (.slice a2 len c2) := by rw [hw3, hpc]; exact cell_new1 _ _ _
    have hb23 : Below w2.heap.size w2 w3 := by rw [hw3]; exact bel_alloc (Below.refl _ _) _
    have hwr := wr_new w3
    rw [hs3] at hwr
    rw [← hw3, ← hpw, ← hpc]
    obtain ⟨w4, hw4⟩ : ∃ w4, w4 = w3.alloc (Obj.cells #[Value.slice none 0 0] 28) := ⟨_, rfl⟩
    have hb34 : Below w3.heap.size w3 w4 := by rw [hw4]; exact bel_alloc (Below.refl _ _) _
    rw [← hw4] at hwr ⊢
    have hc4 := below_cell hb34 hc3
    have hb24 := bel_trans hb23 hb34
    have hb04 := bel_trans hb02 hb24
    have hr4 := row_keep hr2 hb24 (Nat.le_refl _)
    have hra4 := row_keep hr hb04 (Nat.le_refl _)
    have hz4 : pw ≤ w4.heap.size := by have := hb34.size; omega
    have hpp : pc < pw := by omega
    have hlt4 : ∀ x, a2 = some x → x.block < pw := fun x hx => by have := hlt2 x hx; omega
    have hpw0 : w.heap.size ≤ pw := by have := hb02.size; omega
    clear hc3 hb34 hb23 hb24 hb02 hw3 hw4 hs3 hpc hpw hr2 hlt2
    refine (raw_any pw pw _ _ _ hwr hz4 a2 len c2 bs hr4 hn2 (by simp; omega)).mono ?_
    rintro e w5 ⟨rfl, sv5, hw5, hm5⟩
    rw [List.nil_append] at hw5
    have hb45 := hm5.below hwr hz4
    have hz5 := Nat.le_trans hz4 hb45.size
    have hc5 : w5.cell? ⟨pc, 0, none⟩ = some (.slice a2 len c2) := by rw [hb45.cell (p := ⟨pc, 0, none⟩) hpp]; exact hc4
    have hb05 : Below w.heap.size w w5 := hb04.trans (hb45.mono hpw0)
    have hra5 := row_keep hr hb05 (Nat.le_refl _)
    have hr5 := row_below hr4 hb45 hlt4
    clear hm5 hb45 hwr hc4 hr4 hra4 hb04 hz4 hlt4
    go_wp2_with fail
    refine (wBytes_any pw pw sv5 bs _ hw5 (by rw [HBL.out]; omega)).mono ?_
    intro e w6 h6
    obtain ⟨a6, c6, rfl, hr6, hn6, ho6, hb6⟩ := retOwn_len h6
    rw [HBL.out] at hr6 ho6 ⊢
    have hc6 := below_cell hb6 hc5
    have hr26 := row_keep hr5 hb6 (Nat.le_refl _)
    clear h6
    have hb67 : Below w6.heap.size w6 (w6.alloc (.cells #[.slice none 0 0] 26)) := bel_alloc (Below.refl _ w6) _
    have hcC := below_cell hb67 hc6
    go_wp2_with fail
    have hcP : (w6.alloc (.cells #[.slice none 0 0] 26)).cell? ⟨w6.heap.size, 0, none⟩ = some (.slice none 0 0) := cell_new1 _ _ _
    have hfP : (w6.alloc (.cells #[.slice none 0 0] 26)).frozen? ⟨w6.heap.size, 0, none⟩ = false := by
      have h := heap_alloc_new w6 (.cells #[.slice none 0 0] 26)
      unfold World.frozen?
      rw [show (w6.alloc (.cells #[.slice none 0 0] 26)).heap[(⟨w6.heap.size, 0, none⟩ : Addr).block]? = some (.cells #[.slice none 0 0] 26) from h]
      rfl
    have hcall : ∀ (args : Array Value) (wx : World), (callFunc 27 args).run Try.prog wx = .ok (.enter 27 args) wx := fun args wx => by simp [go_sem]
    have hby := keepsBy pc w6.heap.size len c2 a2 (.slice none 0 0) _ bs hcC hcP hfP HBL.out.symm (by rw [HBL.out]; omega)
    have hrok := read_ok a2 len c2 bs _ _ _ _ (row_alloc hr26 _) hn2 (by omega) hcall hby
    with_reducible refine hrok.mono ?_
    rintro e w8 ⟨rfl, W2, hq, hb8, hk8⟩
    obtain ⟨hb68, a8, c8, hcP8, ho8⟩ := kept_after hq hb8 hk8
    clear hq hb8 hk8 hrok hby hcall hcC hcP hfP hb67
    rw [HBL.out] at hcP8 ho8
    have hcC8 := below_cell hb68 hc6
    have hb58 := bel_trans hb6 hb68
    have hc8m : len ≤ 9223372036854775807 := by omega
    have hX : ∃ gx, 0 < len → a6 = some ⟨gx, 0, none⟩ ∧ w5.heap.size ≤ gx ∧ gx < w6.heap.size ∧ len ≤ c6 ∧ c6 ≤ maxLen ∧ Cells8 w8 gx len := by
      rcases Nat.eq_zero_or_pos len with h0 | h0
      · exact ⟨0, fun h => by omega⟩
      · obtain ⟨g, h1, h2, h3, h4, h5, h6⟩ := cells8_own ho6 h0
        exact ⟨g, fun _ => ⟨h1, h2, h3, h4, h5, cells8_below h6 hb68 h3⟩⟩
    have hP : ∃ gp, 0 < len → a8 = some ⟨gp, 0, none⟩ ∧ w6.heap.size < gp ∧ len ≤ c8 ∧ c8 ≤ maxLen ∧ Cells8 w8 gp len := by
      rcases Nat.eq_zero_or_pos len with h0 | h0
      · exact ⟨0, fun h => by omega⟩
      · obtain ⟨g, h1, h2, h3, h4, h5, h6⟩ := cells8_own ho8 h0
        exact ⟨g, fun _ => ⟨h1, by omega, h4, h5, h6⟩⟩
    obtain ⟨gx, hX⟩ := hX
    obtain ⟨gp, hP⟩ := hP
    have h56 := hb6.size
    have HX : 0 < len → a6 = some ⟨gx, 0, none⟩ ∧ w5.heap.size ≤ gx ∧ gx < w6.heap.size := fun h => ⟨(hX h).1, (hX h).2.1, (hX h).2.2.1⟩
    have HX2 : 0 < len → len ≤ c6 ∧ c6 ≤ maxLen := fun h => ⟨(hX h).2.2.2.1, (hX h).2.2.2.2.1⟩
    have HX3 : 0 < len → Cells8 w8 gx len := fun h => (hX h).2.2.2.2.2
    have HP : 0 < len → a8 = some ⟨gp, 0, none⟩ ∧ w6.heap.size < gp := fun h => ⟨(hP h).1, (hP h).2.1⟩
    have HP2 : 0 < len → len ≤ c8 ∧ c8 ≤ maxLen := fun h => ⟨(hP h).2.2.1, (hP h).2.2.2.1⟩
    have HP3 : 0 < len → Cells8 w8 gp len := fun h => (hP h).2.2.2.2
    obtain ⟨p8, hp8⟩ : ∃ p8, p8 = w6.heap.size := ⟨_, rfl⟩
    rw [← hp8] at HX HP hcP8 h56 ⊢
    have HHX := Lib.hid HX
    have HHX2 := Lib.hid HX2
    have HHP := Lib.hid HP
    have HHP2 := Lib.hid HP2
    have HHX3 := Lib.hid HX3
    have HHP3 := Lib.hid HP3
    have hpc5 : pc < w5.heap.size := World.block_lt_of_cell? w5 ⟨pc, 0, none⟩ hc5
    clear hX hP HX HX2 HX3 HP HP2 HP3 hp8 hb6 hb68 hr6 hn6 ho6 hc6 hr26 ho8 h5 hcm
    go_wp2_with fail
    have hrel0 : KeepRel w5 w8 p8 a8 len c8 gx gp := ⟨hb58, hcP8, fun h => ⟨HHX3.out h, HHP3.out h⟩⟩
    go_loopw [10] (fun i wr => ∃ k : Nat, k ≤ len ∧ i = .int .i64 k ∧ KeepRel w5 wr p8 a8 len c8 gx gp) (fun i _ => len - (intOf i).toNat)
    case atStart => exact ⟨0, by omega, rfl, hrel0⟩
    case round =>
      obtain ⟨k, hk, rfl, hkr⟩ := hrel
      clear hrel0 hcP8 hcC8 hb58
      obtain ⟨hb, hcP, hcs⟩ := hkr
      have hcC := below_cell hb hc5
      by_cases hlt : k < len
      · obtain ⟨rfl, hx1, hx2⟩ := HHX.out (by omega)
        obtain ⟨rfl, hp1⟩ := HHP.out (by omega)
        obtain ⟨hx3, hx4⟩ := HHX2.out (by omega)
        obtain ⟨hp3, hp4⟩ := HHP2.out (by omega)
        obtain ⟨hcx, hcp⟩ := hcs (by omega)
        obtain ⟨y1, hy1, hxc, hxf⟩ := hcx k hlt
        obtain ⟨y2, hy2, hpc2, hpf⟩ := hcp k hlt
        have HC := Lib.hid (And.intro hcx hcp)
        clear hcs hcx hcp
        go_wp2_with fail
        go_region
        go_wp2
        go_roundw
        case rel => exact ⟨k + 1, by omega, by go_num, keep_step ⟨hb, hcP, fun _ => HC.out⟩ hx1 (by omega) hp1 (by omega)⟩
        case measure => simp [intOf]; omega
      · obtain rfl : k = len := by omega
        have hb0r : Below w.heap.size w wr := bel_trans hb05 hb
        have hrr := row_keep hr5 hb (Nat.le_refl _)
        have hrar := row_keep hra5 hb (Nat.le_refl _)
        have hwrr := wr_keep hw5 hb
        clear hcs HHX HHX2 HHX3 HHP HHP2 HHP3 hcP
        go_wp2_with fail
        refine (nRead _ _).mono ?_
        rintro e w9 ⟨rfl, hb9⟩
        have hcC9 := below_cell hb9 hcC
        have hr9 := row_keep hrr hb9 (Nat.le_refl _)
        have hra9 := row_keep hrar hb9 (Nat.le_refl _)
        have hw9 := wr_keep hwrr hb9
        have hb09 := bel_trans hb0r hb9
        clear hb9 hcC hrr hrar hwrr
        go_wp2_with fail
        refine (same_any _ _ _ _ _ _ _ _ hr9 hra9).mono ?_
        rintro e w' ⟨rfl, rfl⟩
        go_wp2_with fail
        refine (wBytes_any pw pw sv5 bs _ hw9 (by rw [HBL.out]; omega)).mono ?_
        intro e w10 h10
        obtain ⟨a10, c10, rfl, hr10, _, _, hb10⟩ := retOwn_len h10
        rw [HBL.out] at hr10 ⊢
        have hra10 := row_keep hra9 hb10 (Nat.le_refl _)
        have hb010 := bel_trans hb09 hb10
        clear h10
        go_wp2_with fail
        refine (same_any _ _ _ _ _ _ _ _ hr10 hra10).mono ?_
        rintro e w' ⟨rfl, rfl⟩
        go_wp2_with fail
        refine (nU64 _ _).mono ?_
        rintro e w' ⟨rfl, rfl⟩
        go_wp2_with fail
        refine (nRaw _ _).mono ?_
        rintro e w' ⟨rfl, rfl⟩
        go_wp2_with fail
        refine (nPad _ _).mono ?_
        rintro e w' ⟨rfl, rfl⟩
        go_wp2_with fail
        refine (nText _).mono ?_
        rintro e w11 ⟨rfl, hb11⟩
        go_wp2_with fail
        refine (nBytes _).mono ?_
        rintro e w' ⟨rfl, rfl⟩
        go_wp2_with fail
        refine (nLeft _).mono ?_
        rintro e w' ⟨rfl, rfl⟩
        go_wp2_with fail
        refine (nZero _).mono ?_
        rintro e w' ⟨rfl, rfl⟩
        go_wp2
        go_ret
        exact ⟨rfl, bel_trans (bel_alloc hb010 _) hb11⟩

end Go.Proofs.Ytejhdafipjajnaa
