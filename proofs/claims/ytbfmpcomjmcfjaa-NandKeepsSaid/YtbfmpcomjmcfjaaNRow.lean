/- nand: row. -/
import Derived.Test.YtbfmpcomjmcfjaaNBegun
import Derived.Laws.CopyOwn
namespace Go.Proofs.Ytbfmpcomjmcfjaa
open Go.RowKit Go.Deep

/-- Bytes again and again; noughts, if there are none. -/
def cyc (bs : List Nat) (N k : Nat) : List Nat := (List.range N).map fun i => if i < k then bs.getD (i % bs.length) 0 else 0
/-- What row answers. -/
def rowOf (bs : List Nat) (N : Nat) : List Nat := if 0 < bs.length then cyc bs N N else List.replicate N 0
theorem cyc_len (bs : List Nat) (N k : Nat) : (cyc bs N k).length = N := by simp [cyc]
theorem cyc_at {bs : List Nat} {N k i : Nat} (h : i < N) : (cyc bs N k)[i]? = some (if i < k then bs.getD (i % bs.length) 0 else 0) := by simp [cyc, h]
theorem cyc_lt {bs : List Nat} (hb : ∀ x ∈ bs, x < 256) (N k : Nat) : ∀ x ∈ cyc bs N k, x < 256 := by
  intro x hx
  simp only [cyc, List.mem_map] at hx
  obtain ⟨i, _, rfl⟩ := hx
  split
  · exact getD_lt hb _
  · omega
theorem cyc_zero (bs : List Nat) (N : Nat) : cyc bs N 0 = List.replicate N 0 := by
  apply List.ext_getElem?
  intro i
  by_cases h : i < N
  · rw [cyc_at h, if_neg (by omega), List.getElem?_replicate, if_pos h]
  · rw [List.getElem?_eq_none (by rw [cyc_len]; omega), List.getElem?_eq_none (by simp; omega)]
theorem splice_cyc {bs : List Nat} {N k c : Nat} (hk : k % bs.length = 0) (hc : c = Nat.min bs.length (N - k)) (hkN : k ≤ N) :
    splice ((cyc bs N k).map u8v) k ((bs.take c).map u8v) = (cyc bs N (k + c)).map u8v := by
  have hc1 : c ≤ bs.length := by rw [hc]; exact Nat.min_le_left _ _
  have hc2 : c ≤ N - k := by rw [hc]; exact Nat.min_le_right _ _
  have hlen : (bs.take c).length = c := by rw [List.length_take]; omega
  unfold splice
  apply List.ext_getElem?
  intro i
  rw [List.getElem?_map]
  by_cases h1 : i < k
  · rw [List.getElem?_append_left (by simp [cyc_len]; omega), List.getElem?_take, if_pos h1, List.getElem?_map, cyc_at (by omega), cyc_at (by omega), if_pos h1, if_pos (by omega)]
  · by_cases h2 : i < k + c
    · rw [List.getElem?_append_right (by simp [cyc_len]; omega), List.getElem?_append_left (by simp [cyc_len]; omega), List.getElem?_map, cyc_at (by omega), if_pos h2]
      have e1 : i - ((cyc bs N k).map u8v |>.take k).length = i - k := by simp [cyc_len]; omega
      rw [e1, List.getElem?_take, if_pos (by omega)]
      have e2 : i % bs.length = i - k := by
        have h3 : i = (i - k) + bs.length * (k / bs.length) := by have := Nat.div_add_mod k bs.length; omega
        rw [h3, Nat.add_mul_mod_self_left, Nat.mod_eq_of_lt (by omega)]; omega
      rw [e2, List.getD_eq_getElem?_getD, List.getElem?_eq_getElem (by omega)]
      rfl
    · by_cases h3 : i < N
      · rw [List.getElem?_append_right (by simp [cyc_len]; omega), List.getElem?_append_right (by simp [cyc_len]; omega), List.getElem?_drop, List.getElem?_map]
        have e1 : k + ((bs.take c).map u8v).length + (i - ((cyc bs N k).map u8v |>.take k).length - ((bs.take c).map u8v).length) = i := by simp [cyc_len]; omega
        rw [e1, cyc_at h3, cyc_at h3, if_neg (by omega), if_neg (by omega)]
      · rw [List.getElem?_eq_none (by simp [cyc_len]; omega), List.getElem?_eq_none (by rw [cyc_len]; omega)]
        rfl
theorem size_u8 : (Try.prog.info? 5).map (·.size) = some 1 := by kernel_rfl
section
variable {B : Nat} {tag : Nat → Option Tag} {L : NL} {S : NS} {w : World}
set_option maxRecDepth 100000 in
set_option maxHeartbeats 1600000 in
theorem row_any (h : NA B tag L S w) (a : Option Addr) (m cap : Nat) (bs : List Nat) (hr : Row w a m bs) (hmc : m ≤ cap) (hcm : cap ≤ maxLen) :
    Calls Try.prog 98 #[.pointer (some ⟨L.pa, 0, none⟩), .slice a m cap] w (RetOwn w (rowOf bs (S.g3 + 64))) := by
  obtain ⟨i0, hi, hz0, hz1, hz2⟩ := info_parts info_u8
  have cg := h.c .g3
  have hb3 : S.g3 ≤ 1024 := h.shape.b3
  obtain ⟨N, hN⟩ : ∃ N, N = S.g3 + 64 := ⟨_, rfl⟩
  have hNi : (S.g3 : Int) + 64 = (N : Int) := by omega
  have hNb : N ≤ 1088 := by omega
  have hg3 : (S.g3 : Int) ≤ 1024 := by omega
  rw [← hN]
  have hmk : ∀ w, (Instr.makeSlice 57 (.int .i64 ((S.g3 : Int) + 64)) (.int .i64 ((S.g3 : Int) + 64))).run Try.prog w = .ok (.slice (some ⟨w.heap.size, 0, none⟩) N N) (w.alloc (.cells (madeCells #[Value.int .u8 0] N) 5)) := fun w => by rw [hNi]; exact run_make_row 57 5 i0 _ Try.underlying57 hi hz0 hz1 rfl .i64 .i64 N (by rw [hz2]; omega) (by omega) w
  have hcells : (madeCells #[Value.int .u8 0] N).toList = (List.replicate N 0).map u8v := by rw [toList_madeCells_one, List.map_replicate]; rfl
  obtain ⟨cs, hcs⟩ : ∃ cs, cs = madeCells #[Value.int .u8 0] N := ⟨_, rfl⟩
  rw [← hcs] at hmk hcells
  obtain ⟨W1, hW1⟩ : ∃ W1, W1 = w.alloc (.cells cs 5) := ⟨_, rfl⟩
  have h1 : W1.heap[w.heap.size]? = some (.cells ((List.replicate N 0).map u8v).toArray 5 (0, 0)) := by rw [hW1, ← hcells]; exact heap_alloc_new w (.cells cs 5)
  have hb1 : Below w.heap.size w W1 := by rw [hW1]; exact bel_alloc (Below.refl _ w) _
  have H1 := Lib.hid h1
  have HB1 := Lib.hid hb1
  have HW1 := Lib.hid hW1
  have HMC := Lib.hid (And.intro hmc hcm)
  have HR := Lib.hid hr
  have hmb : (m : Int) ≤ 9223372036854775807 := by unfold maxLen at hcm; omega
  have HN := Lib.hid hNi
  clear h h1 hb1 hW1 hcs hcells hi hz0 hz1 hz2 hN hNi hr hcm hmc
  go_enter Try.func98, Try.ntmps98
  go_wp2_with fail
  rw [← HW1.out]
  clear hmk
  by_cases h0 : 0 < m
  · have HRO : Hid (rowOf bs N = cyc bs N N) := Lib.hid (by unfold rowOf; rw [if_pos (by rw [HR.out.1]; exact h0)])
    have d0 : decide (0 < m) = true := decide_eq_true h0
    have H0 := Lib.hid h0
    clear h0
    go_loopw [6] (fun nv wr => ∃ k : Nat, k ≤ N ∧ nv = .int .i64 (k : Int) ∧ (k % bs.length = 0 ∨ k = N) ∧ wr.heap[w.heap.size]? = some (.cells ((cyc bs N k).map u8v).toArray 5 (0, 0)) ∧ Below w.heap.size w wr) (fun nv _ => N - (intOf nv).toNat)
    case atStart => exact ⟨0, Nat.zero_le _, rfl, .inl (Nat.zero_mod _), by rw [cyc_zero]; exact H1.out, HB1.out⟩
    case round =>
      obtain ⟨k, hk, rfl, hkm, hhp, hbel⟩ := hrel
      obtain ⟨wo, hwo⟩ : ∃ wo : World, wo = wr := ⟨_, rfl⟩
      subst hwo
      by_cases hlt : k < N
      · have d1 : decide (k < N) = true := decide_eq_true hlt
        have hkm' : k % bs.length = 0 := hkm.elim id (fun e => by omega)
        obtain ⟨c, hcd⟩ : ∃ c, c = Nat.min m (N - k) := ⟨_, rfl⟩
        have hc1 : c ≤ m := by rw [hcd]; exact Nat.min_le_left _ _
        have hc2 : c ≤ N - k := by rw [hcd]; exact Nat.min_le_right _ _
        have hc0 : 0 < c := by rw [hcd]; have := H0.out; exact Nat.lt_min.2 ⟨this, by omega⟩
        have hrl := HR.out.1
        have hcl : ((bs.take c).map u8v).length = c := by rw [List.length_map, List.length_take]; omega
        obtain ⟨b, off, hab, hcell⟩ := (row_keep HR.out hbel (Nat.le_refl _)).2.2 H0.out
        have hsp := splice_cyc (bs := bs) (N := N) (k := k) (c := c) hkm' (by rw [hrl]; exact hcd) hk
        obtain ⟨cur, hcur⟩ : ∃ cur, cur = (cyc bs N k).map u8v := ⟨_, rfl⟩
        obtain ⟨src, hsrc⟩ : ∃ src, src = (bs.take c).map u8v := ⟨_, rfl⟩
        rw [← hcur] at hhp hsp
        rw [← hsrc] at hsp hcl
        have HCU := Lib.hid hcur
        have HSR := Lib.hid hsrc
        have HKM := Lib.hid hkm'
        have HSP := Lib.hid hsp
        have HCL := Lib.hid hcl
        have HCC := Lib.hid (And.intro hc0 (And.intro hc1 (And.intro hc2 hcd)))
        have HBL := Lib.hid hbel
        have HHP := Lib.hid hhp
        have HLT := Lib.hid hlt
        have HCE := Lib.hid (And.intro hab hcell)
        have u1 : (k : Int) ≤ (N : Int) := by omega
        have u2 : (0 : Int) ≤ (k : Int) := by omega
        have u3 : k ≤ N := by omega
        have u4 : ¬ N = k := by omega
        clear hcur hsrc hsp hcl hc0 hc1 hc2 hcd hbel hhp hlt hkm hkm' hrl hab hcell hk
        go_wp2_with (refine wpList_copy_splice rfl (.tmp 26) (.tmp 27) 57 57 rfl 5 Try.underlying57 size_u8 _ _ _ _ _ _ rfl rfl w.heap.size k cur 5 HHP.out src ?cpN ?cpP ?cpF ?cpO w.heap.size w HBL.out (Nat.le_refl _) ?_)
        case cpN => rw [HCL.out]; exact HCC.out.2.2.2
        case cpP =>
          intro _
          refine ⟨⟨b, off, none⟩, HCE.out.1, fun j v hj => ?_⟩
          have hjc : j < c := by
            rcases Nat.lt_or_ge j c with q | q
            · exact q
            · rw [List.getElem?_eq_none (by rw [HCL.out]; exact q)] at hj; cases hj
          have hjm : j < m := Nat.lt_of_lt_of_le hjc HCC.out.2.1
          have h3 := HCE.out.2 j hjm
          have hbl : j < bs.length := by rw [HR.out.1]; exact hjm
          rw [HSR.out, List.getElem?_map, List.getElem?_take, if_pos hjc, List.getElem?_eq_getElem hbl] at hj
          simp only [Option.map_some, Option.some.injEq] at hj
          rw [getD_in _ _ hbl] at h3
          rw [← hj]
          unfold Addr.add
          split
          · rename_i q; subst q; exact h3
          · exact h3
        case cpF => rw [HCL.out, HCU.out, List.length_map, cyc_len]; have := HCC.out.2.2.1; have := HLT.out; omega
        case cpO =>
          intro v hv
          rw [HSR.out, List.mem_map] at hv
          obtain ⟨y, _, rfl⟩ := hv
          rfl
        intro w6 hh6 hb6
        rw [HSP.out] at hh6
        rw [HCL.out]
        have HB6 := Lib.hid hb6
        have u5 : k + c ≤ N := by have := HCC.out.2.2.1; have := HLT.out; omega
        have u6 : (k : Int) + (c : Int) ≤ (N : Int) := by omega
        clear hb6
        go_wp2
        go_roundw
        case rel =>
          refine ⟨k + c, u5, by go_num, ?_, hh6.out, HB6.out⟩
          have q1 := HCC.out.2.2.2
          rcases Nat.le_total m (N - k) with q | q
          · left
            rw [show c = bs.length by rw [HR.out.1, q1]; exact Nat.min_eq_left q, Nat.add_mod_right]
            exact HKM.out
          · right
            have q2 : c = N - k := q1.trans (Nat.min_eq_right q)
            omega
        case measure => have := HCC.out.1; simp [intOf]; omega
      · obtain rfl : k = N := by omega
        have d1 : decide (k < k) = false := by simp
        have HE : Hid (RetOwn w (cyc bs k k) (.returned (.slice (some ⟨w.heap.size, 0, none⟩) k k)) wo) := Lib.hid ⟨_, rfl, ⟨⟨by rw [List.length_map, cyc_len, Nat.mul_one], .inr ⟨w.heap.size, k, _, by rw [cyc_len], Nat.le_refl _, hhp, by rw [cyc_len]; exact Nat.le_refl _, by unfold maxLen; omega, by simp [cyc_len], by rw [cyc_len, Nat.mul_one]; exact List.take_of_length_le (by simp [cyc_len])⟩⟩, cyc_lt HR.out.2.1 _ _⟩, hbel⟩
        clear hhp hbel hkm hlt hk
        go_wp2
        go_ret
        rw [HRO.out]
        exact HE.out
  · have HRO : Hid (rowOf bs N = List.replicate N 0) := Lib.hid (by unfold rowOf; rw [if_neg (by rw [HR.out.1]; exact h0)])
    have d0 : decide (0 < m) = false := decide_eq_false h0
    have HE : Hid (RetOwn w (List.replicate N 0) (.returned (.slice (some ⟨w.heap.size, 0, none⟩) N N)) W1) := Lib.hid ⟨_, rfl, ⟨⟨by rw [List.length_map, List.length_replicate, Nat.mul_one], .inr ⟨w.heap.size, N, _, by rw [List.length_replicate], Nat.le_refl _, H1.out, by rw [List.length_replicate]; exact Nat.le_refl _, by unfold maxLen; omega, by simp, by rw [List.length_replicate, Nat.mul_one]; exact List.take_of_length_le (by simp)⟩⟩, fun x hx => by rw [List.eq_of_mem_replicate hx]; omega⟩, HB1.out⟩
    clear h0
    go_loop [6] (fun i => i = .int .i64 0) (fun _ => 0)
    case atStart => rfl
    case round =>
      subst hrel
      go_wp2
      go_ret
      rw [HRO.out]
      exact HE.out
end

end Go.Proofs.Ytbfmpcomjmcfjaa
