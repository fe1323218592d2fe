/- Parts of the proof: PtFull, PtFullW, MapDel, PtErase, RamKill. -/
import Derived.Test.YthgcjiocelcblaaGreatK33
import Derived.Test.YthgcjiocelcblaaGreatK19
import Derived.Test.YthgcjiocelcblaaGreatK30
namespace Go.Proofs.YthgcjiocelcblaaGreat
open Go.RowKit Go.Deep

theorem cellsSP_flat {w : World} {b off : Nat} {L : List SP} (h : CellsSP w (some ⟨b, off, none⟩) L) : ∀ j v, (L.flatMap SP.cl)[j]? = some v → w.cell? ((⟨b, off, none⟩ : Addr).add j) = some v := by
  intro j v hj
  have hlt : j < L.length * 8 := by
    have := (List.getElem?_eq_some_iff.1 hj).1
    rwa [flatSP_len] at this
  have hi : j / 8 < L.length := by omega
  have hr : j % 8 < 8 := by omega
  have e : j / 8 * 8 + j % 8 = j := by omega
  have hf := flatSP_at L (j / 8) (j % 8) hi hr
  rw [e, hj] at hf
  obtain ⟨b', off', e1, hc⟩ := h (by omega)
  obtain ⟨rfl, rfl⟩ : b = b' ∧ off = off' := by simpa using e1
  obtain ⟨h0, h1, h2, h3, h4, h5, h6, h7⟩ := hc (j / 8) hi
  have ea : (⟨b, off, none⟩ : Addr).add j = ⟨b, off + j / 8 * 8 + j % 8, none⟩ := by
    unfold Addr.add
    split
    · rename_i h; subst h; simp
    · simp; omega
  rw [ea]
  rcases (show j % 8 = 0 ∨ j % 8 = 1 ∨ j % 8 = 2 ∨ j % 8 = 3 ∨ j % 8 = 4 ∨ j % 8 = 5 ∨ j % 8 = 6 ∨ j % 8 = 7 by omega) with q | q | q | q | q | q | q | q <;> rw [q] at hf ⊢ <;> (simp only [SP.cl, List.getElem?_cons_succ, List.getElem?_cons_zero] at hf; rw [hf])
  · exact h0
  · exact h1
  · exact h2
  · exact h3
  · exact h4
  · exact h5
  · exact h6
  · exact h7
/-- A row of pages: what was handed in, clipped; or the call's own. -/
def FullI (B : Nat) (w : World) (sv : Value) (L : List SP) : Prop := (∃ b off, sv = .slice (some ⟨b, off, none⟩) L.length L.length ∧ 0 < L.length ∧ CellsSP w (some ⟨b, off, none⟩) L) ∨ OwnSP B w sv L
theorem FullI.below {B : Nat} {w w' : World} {sv : Value} {L : List SP} (h : FullI B w sv L) (hb : Below w.heap.size w w') : FullI B w' sv L := by
  rcases h with ⟨b, off, e, h0, hc⟩ | h
  · exact .inl ⟨b, off, e, h0, hc.step hb⟩
  · exact .inr (h.below hb)
theorem FullI.cells {B : Nat} {w : World} {sv : Value} {L : List SP} (h : FullI B w sv L) : ∃ a c, sv = .slice a L.length c ∧ CellsSP w a L := by
  rcases h with ⟨b, off, e, h0, hc⟩ | h
  · exact ⟨_, _, e, hc⟩
  · exact cellsSP_own h
theorem info_sp' : (Tryz.prog.info? 95).map (fun i => (i.zero, i.size, i.bytes)) = some (some (.agg #[.int .u8 0, .int .u32 0, .int .u32 0, .int .u16 0, .int .u16 0, .int .u32 0, .int .u32 0, .slice none 0 0]), 8, 48) := info_sp
/-- One page is appended to such a row. -/
theorem run_appFull {B : Nat} {w : World} {sv : Value} {L : List SP} (h : FullI B w sv L) (hB : B ≤ w.heap.size) (hL : L.length ≤ 1000) (p : SP) (ad : Addr) (c : Nat) (hc : ∀ j u, (SP.cl p)[j]? = some u → w.cell? (ad.add j) = some u) (ty : TypeId) :
    ∃ v' w', (Builtin.append_ #[84, 84] ty #[sv, .slice (some ad) 1 c]).run Tryz.prog w = .ok v' w' ∧ OwnSP B w' v' (L ++ [p]) ∧ Below B w w' ∧ w.grownBy w' sv.ownBlock ∧ (v'.ownBlock = sv.ownBlock ∨ v'.ownBlock = some w.heap.size) := by
  obtain ⟨i, hi, hz, hs, hby⟩ := info_parts info_sp
  rcases h with ⟨b, off, rfl, h0, hcl⟩ | h
  · have hr := run_append_grow (P := Tryz.prog) (w := w) 84 ty 95 i _ Tryz.underlying84 hi hz ⟨b, off, none⟩ L.length L.length (L.flatMap SP.cl) (by rw [flatSP_len, hs]) (cellsSP_flat hcl) ad 1 c (SP.cl p) (by rw [hs]; rfl) hc (by omega) (by omega) (by rw [hby]; exact growslice_fits (by omega) (by omega))
    have hge := grownCap_ge w (L.length + 1) L.length 95
    have hcm := grownCap_le_maxLen w (L.length + 1) L.length 95 (by unfold maxLen; omega)
    refine ⟨_, _, hr, ⟨?_, .inr ⟨w.heap.size, _, _, by rw [List.length_append]; rfl, hB, heap_alloc_new w.drew _, by rw [List.length_append]; exact hge, hcm, ?_, ?_⟩⟩, ((Below.refl B w).drew.alloc (by simpa using hB) _), ⟨rfl, rfl, rfl, by simp, fun k hk _ => heap_alloc_old' (w := w.drew) hk _⟩, .inr rfl⟩
    · rw [flatSP_len]
    · have e : (Value.agg #[.int .u8 0, .int .u32 0, .int .u32 0, .int .u16 0, .int .u16 0, .int .u32 0, .int .u32 0, .slice none 0 0]).cells.size = 8 := rfl
      have e2 : (SP.cl p).length = 8 := rfl
      rw [Array.size_append, Array.size_append, size_zeroCells, e, List.size_toArray, List.size_toArray, flatSP_len, e2]
      omega
    · have hflat : (L ++ [p]).flatMap SP.cl = L.flatMap SP.cl ++ SP.cl p := by simp
      have e3 : (L ++ [p]).length * 8 = (L.flatMap SP.cl ++ SP.cl p).length := by rw [List.length_append, List.length_append, flatSP_len]; show (L.length + 1) * 8 = L.length * 8 + 8; omega
      rw [e3, hflat]
      simp only [Array.toList_append, List.append_assoc]
      rw [← List.append_assoc]
      exact List.take_left
  · obtain ⟨v', w', hr, ho, hg, _, hwh⟩ := run_append_own_at (P := Tryz.prog) w B 84 ty 95 i _ 8 48 Tryz.underlying84 hi hz hs hby rfl (by decide) sv _ _ h ad 1 c (SP.cl p) rfl hc (sp_one p) (by unfold maxLen; omega) (by omega) hB
    refine ⟨v', w', hr, ?_, (Below.refl B w).grown hg hB (fun k hk => (h.lt k hk).1), hg, hwh⟩
    unfold OwnSP
    rw [List.flatMap_append, List.length_append]
    simpa using ho
/-- What Clip leaves. -/
theorem clip_any (b off n c : Nat) (w : World) (h0 : 0 < n) (hc : n ≤ c) (hn : n ≤ 1000000) :
    Calls Tryz.prog 59 #[.slice (some ⟨b, off, none⟩) n c] w fun e w' => e = .returned (.slice (some ⟨b, off, none⟩) n n) ∧ w' = w := by
  have h1 : (n = 0) = False := eq_false (by omega)
  go_enter Tryz.func59, Tryz.ntmps59
  go_wp2
  go_ret
  exact ⟨rfl, rfl⟩
def FillRet (sz sq : Nat) (w : World) (e : Ending) (w' : World) : Prop :=
  ∃ b, e = .returned (.agg #[.int .u8 6, .int .u32 (sq : Int), .int .u32 0, .int .u16 0, .int .u16 0, .int .u32 0, .int .u32 0, .slice (some ⟨b, 0, none⟩) sz sz]) ∧ w.heap.size ≤ b ∧ Below w.heap.size w w' ∧ Row w' (some ⟨b, 0, none⟩) sz (List.replicate sz 0)
set_option maxRecDepth 100000 in
set_option maxHeartbeats 1000000 in
theorem fill_any (n bl pg : Int) (sz sq : Nat) (w : World) (h0 : 1 ≤ sz) (h1 : sz ≤ 2000) :
    Calls Tryz.prog 60 #[.agg #[.int .i64 n, .int .i64 bl, .int .i64 pg, .int .i64 (sz : Int)], .int .u32 (sq : Int), .int .u32 0] w (FillRet sz sq w) := by
  have q1 : decide ((0 : Int) < (sz : Int)) = true := by simp; omega
  have q1' : decide (0 < sz) = true := by simp; omega
  have q2 : decide ((sz : Int) ≤ 2147483647) = true := by simp; omega
  have q2' : decide (sz ≤ 2147483647) = true := by simp; omega
  obtain ⟨i0, hi, hz0, hz1, hz2⟩ := info_parts info_u8
  have hmk : ∀ w, (Instr.makeSlice 28 (.int .i64 (sz : Int)) (.int .i64 (sz : Int))).run Tryz.prog w = .ok (.slice (some ⟨w.heap.size, 0, none⟩) sz sz) (w.alloc (.cells (madeCells #[Value.int .u8 0] sz) 5)) := fun w => run_make_row 28 5 i0 _ Tryz.underlying28 hi hz0 hz1 rfl .i64 .i64 sz (by rw [hz2]; omega) (by omega) w
  have hcells : (madeCells #[Value.int .u8 0] sz).toList = (List.replicate sz 0).map u8v := by rw [toList_madeCells_one, List.map_replicate]; rfl
  obtain ⟨cs, hcs⟩ : ∃ cs, cs = madeCells #[Value.int .u8 0] sz := ⟨_, rfl⟩
  rw [← hcs] at hmk hcells
  have HCS := Lib.hid hcells
  clear hcells hcs hi hz0 hz1 hz2
  go_enter Tryz.func60, Tryz.ntmps60
  go_wp2
  obtain ⟨W1, hW1⟩ : ∃ x, x = (((w.alloc (.cells #[.int .i64 n, .int .i64 bl, .int .i64 pg, .int .i64 (sz : Int)] 49)).alloc (.cells #[.int .u8 6, .int .u32 (sq : Int), .int .u32 0, .int .u16 0, .int .u16 0, .int .u32 0, .int .u32 0, .slice (some ⟨w.heap.size + 1 + 1 + 1, 0, none⟩) sz sz] 95)).alloc (.cells #[.int .u8 6, .int .u32 (sq : Int), .int .u32 0, .int .u16 0, .int .u16 0, .int .u32 0, .int .u32 0, .slice (some ⟨w.heap.size + 1 + 1 + 1, 0, none⟩) sz sz] 95)) := ⟨_, rfl⟩
  have hz : W1.heap.size = w.heap.size + 1 + 1 + 1 := by rw [hW1]; simp
  have hb1 : Below w.heap.size w W1 := by rw [hW1]; exact bel_alloc (bel_alloc (bel_alloc (Below.refl _ _) _) _) _
  have hbl : (W1.alloc (.cells cs 5)).heap[w.heap.size + 1]? = some (.cells #[.int .u8 6, .int .u32 (sq : Int), .int .u32 0, .int .u16 0, .int .u16 0, .int .u32 0, .int .u32 0, .slice (some ⟨w.heap.size + 1 + 1 + 1, 0, none⟩) sz sz] 95 (0, 0)) := by
    refine (heap_alloc_old' (by omega) _).trans ?_
    rw [hW1]
    refine (heap_alloc_old' (by simp) _).trans ?_
    have := heap_alloc_new (w.alloc (.cells #[.int .i64 n, .int .i64 bl, .int .i64 pg, .int .i64 (sz : Int)] 49)) (.cells #[.int .u8 6, .int .u32 (sq : Int), .int .u32 0, .int .u16 0, .int .u16 0, .int .u32 0, .int .u32 0, .slice (some ⟨w.heap.size + 1 + 1 + 1, 0, none⟩) sz sz] 95)
    simpa using this
  have hnw := heap_alloc_new W1 (.cells cs 5)
  rw [hz] at hnw
  rw [← hW1]
  refine bodyPost_ret (v := .agg #[.int .u8 6, .int .u32 (sq : Int), .int .u32 0, .int .u16 0, .int .u16 0, .int .u32 0, .int .u32 0, .slice (some ⟨w.heap.size + 1 + 1 + 1, 0, none⟩) sz sz]) ?_ rfl ⟨_, rfl, by omega, bel_alloc hb1 _, ⟨by simp, fun x hx => by have := List.eq_of_mem_replicate hx; omega, fun _ => ⟨_, 0, rfl, fun i hi => ?_⟩⟩⟩
  · obtain ⟨e0, e1, e2, e3, e4, e5, e6, e7⟩ := eight_at hbl
    simp [results, Tryz.results60, go_sem, e0, e1, e2, e3, e4, e5, e6, e7]
  · have hc : cs[i]? = some (u8v 0) := by
      have := HCS.out
      rw [← Array.getElem?_toList, this]
      simp [hi]
    simp [World.cell?, hnw, hc, u8v, hi]
end Go.Proofs.YthgcjiocelcblaaGreat

namespace Go.Proofs.YthgcjiocelcblaaGreat
open Go.RowKit Go.Deep

theorem wpList_appFull {w : World} {ops : Array Oper} {rest : List Oper} {o : Oper} {a : Act} {Q : Exit → Act → World → Prop} (hgd : o.guard = none) (s x : Operand)
    (ho : o.op = .call { callee := .builtin .append, args := #[s, x], argTypes := #[84, 84] })
    (B : Nat) (sv : Value) (L : List SP) (hs : a.eval s = sv) (hI : FullI B w sv L) (ad : Addr) (c : Nat) (p : SP) (hx : a.eval x = .slice (some ad) 1 c)
    (hc : ∀ j u, (SP.cl p)[j]? = some u → w.cell? (ad.add j) = some u) (hB : B ≤ w.heap.size) (hlen : L.length ≤ 1000)
    (h : ∀ v' w', OwnSP B w' v' (L ++ [p]) → Below B w w' → w.grownBy w' sv.ownBlock → (v'.ownBlock = sv.ownBlock ∨ v'.ownBlock = some w.heap.size) → wpList Tryz.prog ops Q rest (a.put o.dst v') w') : wpList Tryz.prog ops Q (o :: rest) a w := by
  refine wpList_plain hgd fun K hK => ?_
  obtain ⟨v', w', hr, ho', hb, hg, hw⟩ := run_appFull hI hB hlen p ad c hc o.type
  unfold Oper.wp
  simp [execOp, ho, resolve, invoke, builtin, hs, hx, hr, Result.andThen]
  exact hK _ _ (h v' w' ho' hb hg hw)
def slN : Value → Nat
  | .slice _ n _ => n
  | _ => 0
/-- The pages of a stripe: those that were handed in, and what fills it. -/
structure FullL (sz sq k : Nat) (B : Nat) (w : World) (sv : Value) (L0 L : List SP) : Prop where
  ge : k ≤ L.length
  old : ∀ i, i < k → L.getD i SP.nil = L0.getD i SP.nil
  new : ∀ i, k ≤ i → i < L.length → (L.getD i SP.nil).h = fillHdr sq ∧ (L.getD i SP.nil).d.l = List.replicate sz 0 ∧ (L.getD i SP.nil).d.n = sz ∧ PartOk w (L.getD i SP.nil).d ∧ Far B (L.getD i SP.nil).d ∧ ∀ x, (L.getD i SP.nil).d.a = some x → x.block < w.heap.size ∧ some x.block ≠ sv.ownBlock
theorem FullL.step {sz sq k B : Nat} {w w' : World} {sv : Value} {L0 L : List SP} (h : FullL sz sq k B w sv L0 L) (hb : Below w.heap.size w w') : FullL sz sq k B w' sv L0 L :=
  ⟨h.ge, h.old, fun i h1 h2 => ⟨(h.new i h1 h2).1, (h.new i h1 h2).2.1, (h.new i h1 h2).2.2.1, (h.new i h1 h2).2.2.2.1.step hb, (h.new i h1 h2).2.2.2.2.1, fun x hx => ⟨Nat.lt_of_lt_of_le ((h.new i h1 h2).2.2.2.2.2 x hx).1 hb.size, ((h.new i h1 h2).2.2.2.2.2 x hx).2⟩⟩⟩
theorem FullL.app {sz sq k B : Nat} {w w' : World} {sv v' : Value} {L0 L : List SP} (h : FullL sz sq k B w sv L0 L) (hg : w.grownBy w' sv.ownBlock) (hw : v'.ownBlock = sv.ownBlock ∨ v'.ownBlock = some w.heap.size) : FullL sz sq k B w' v' L0 L :=
  ⟨h.ge, h.old, fun i h1 h2 => by
    obtain ⟨a1, a2, a3, a4, a5, a6⟩ := h.new i h1 h2
    refine ⟨a1, a2, a3, a4.at_ fun _ x hx => hg.block _ (a6 x hx).1 (a6 x hx).2, a5, fun x hx => ⟨Nat.lt_of_lt_of_le (a6 x hx).1 hg.size, ?_⟩⟩
    rcases hw with e | e
    · rw [e]; exact (a6 x hx).2
    · rw [e]; intro c; have := (a6 x hx).1; simp only [Option.some.injEq] at c; omega⟩
theorem FullL.more {sz sq k B : Nat} {w : World} {sv : Value} {L0 L : List SP} (h : FullL sz sq k B w sv L0 L) (b : Nat) (hb : B ≤ b) (hr : Row w (some ⟨b, 0, none⟩) sz (List.replicate sz 0)) (hs : sz ≤ 2000) (hlt : b < w.heap.size) (hne : some b ≠ sv.ownBlock) : FullL sz sq k B w sv L0 (L ++ [⟨fillHdr sq, ⟨some ⟨b, 0, none⟩, sz, sz, List.replicate sz 0⟩⟩]) := by
  have e : ∀ i, i < L.length → (L ++ [(⟨fillHdr sq, ⟨some ⟨b, 0, none⟩, sz, sz, List.replicate sz 0⟩⟩ : SP)]).getD i SP.nil = L.getD i SP.nil := fun i hi => by simp [List.getD, List.getElem?_append_left hi]
  refine ⟨by rw [List.length_append]; have := h.ge; omega, fun i hi => by rw [e i (by have := h.ge; omega)]; exact h.old i hi, fun i h1 h2 => ?_⟩
  by_cases c : i < L.length
  · rw [e i c]; exact h.new i h1 c
  · have hi : i = L.length := by rw [List.length_append, List.length_singleton] at h2; omega
    have e2 : (L ++ [(⟨fillHdr sq, ⟨some ⟨b, 0, none⟩, sz, sz, List.replicate sz 0⟩⟩ : SP)]).getD i SP.nil = ⟨fillHdr sq, ⟨some ⟨b, 0, none⟩, sz, sz, List.replicate sz 0⟩⟩ := by rw [hi]; simp [List.getD]
    rw [e2]
    refine ⟨rfl, rfl, rfl, ⟨hr, Nat.le_refl _, show sz ≤ maxLen by unfold maxLen; omega, fun h => by cases h⟩, fun x hx => ?_, fun x hx => ?_⟩
    · cases hx
      exact hb
    · cases hx
      exact ⟨hlt, hne⟩
theorem FullI.own_lt {B : Nat} {w : World} {sv : Value} {L : List SP} (h : FullI B w sv L) : ∀ g, sv.ownBlock = some g → g < w.heap.size := by
  intro g hg
  rcases h with ⟨b, off, rfl, h0, hc⟩ | h
  · obtain ⟨b', off', e1, hc⟩ := hc h0
    obtain ⟨rfl, rfl⟩ : b = b' ∧ off = off' := by simpa using e1
    have := World.block_lt_of_cell? w _ (hc 0 h0).1
    simp [Value.ownBlock] at hg
    simp only at this
    omega
  · exact (h.lt g hg).2
def FullRet (sz sq k n : Nat) (L0 : List SP) (w : World) (e : Ending) (w' : World) : Prop :=
  ∃ a c L, e = .returned (.slice a n c) ∧ L.length = n ∧ CellsSP w' a L ∧ FullL sz sq k w.heap.size w' (.slice a n c) L0 L ∧ Below w.heap.size w w'
set_option maxRecDepth 100000 in
set_option maxHeartbeats 2000000 in
theorem full_any (n : Nat) (bl pg : Int) (sz sq ba : Nat) (ma : Option Addr) (mn mc : Nat) (ea : Option Addr) (en ec : Nat) (b off k c : Nat) (L0 : List SP) (w : World) (hn : 3 ≤ n) (hn2 : n ≤ 100) (h0 : 1 ≤ sz) (h1 : sz ≤ 2000) (hk : 0 < k) (hk2 : k + 1 ≤ n) (hkc : k ≤ c) (hL : L0.length = k) (hcl : CellsSP w (some ⟨b, off, none⟩) L0) :
    Calls Tryz.prog 41 #[.agg #[.int .i64 (n : Int), .int .i64 bl, .int .i64 pg, .int .i64 (sz : Int)], .agg #[.int .u32 (sq : Int), .int .u32 (ba : Int), .slice ma mn mc, .slice ea en ec], .slice (some ⟨b, off, none⟩) k c] w (FullRet sz sq k (n - 1) L0 w) := by
  have HCL := Lib.hid fun (x : World) => clip_any b off k c x hk hkc (by omega)
  have HWI := Lib.hid fun (x : World) => width_any (n : Int) bl pg (sz : Int) x (by omega) (by omega)
  have HFI := Lib.hid fun (x : World) => fill_any (n : Int) bl pg sz sq x h0 h1
  have HBX := Lib.hid (pt_box (w := w) (n : Int) bl pg (sz : Int) (.int .u32 (sq : Int)) (.int .u32 (ba : Int)) (.slice ma mn mc) (.slice ea en ec))
  obtain ⟨w2, hw2'⟩ : ∃ x, x = (w.alloc (.cells #[.int .i64 (n : Int), .int .i64 bl, .int .i64 pg, .int .i64 (sz : Int)] 49)).alloc (.cells #[.int .u32 (sq : Int), .int .u32 (ba : Int), .slice ma mn mc, .slice ea en ec] 25) := ⟨_, rfl⟩
  have HB2 : Hid (Below w.heap.size w w2 ∧ w2.heap.size = w.heap.size + 2) := Lib.hid ⟨by rw [hw2']; exact bel_alloc (bel_alloc (Below.refl _ _) _) _, by rw [hw2']; simp⟩
  rw [← hw2'] at HBX
  have HWN := Lib.hid hw2'
  have HI0 : Hid (FullI w2.heap.size w2 (.slice (some ⟨b, off, none⟩) k k) L0 ∧ FullL sz sq k w2.heap.size w2 (.slice (some ⟨b, off, none⟩) k k) L0 L0) := Lib.hid ⟨.inl ⟨b, off, by rw [hL], by omega, hcl.step HB2.out.1⟩, ⟨by omega, fun _ _ => rfl, fun i h1 h2 => by omega⟩⟩
  have HL := Lib.hid hL
  have HN := Lib.hid (And.intro hn (And.intro hn2 (And.intro hk (And.intro hk2 (And.intro h0 h1)))))
  clear hL hcl hw2' h0 h1 hn hn2 hk hk2 hkc
  go_enter Tryz.func41, Tryz.ntmps41
  go_upto_region 1 with fail
  rw [← HWN.out]
  obtain ⟨c0, c1, c2, c3, c4, c5, c6, c7⟩ := HBX.out w2 (Below.refl _ _)
  go_wp2_with fail
  ((with_reducible refine (HCL.out _).mono ?_))
  rintro e w3 ⟨rfl, rfl⟩
  clear c0 c1 c2 c3 c4 c5 c6 c7
  go_wp2_with fail
  go_loopw [2] (fun v wr => ∃ L, Hid (FullI w3.heap.size wr v L) ∧ Hid (FullL sz sq k w3.heap.size wr v L0 L) ∧ Hid (L.length + 1 ≤ n) ∧ Hid (Below w3.heap.size w3 wr)) (fun v _ => n - slN v)
  case atStart => exact ⟨L0, Lib.hid HI0.out.1, Lib.hid HI0.out.2, Lib.hid (by rw [HL.out]; exact HN.out.2.2.2.1), Lib.hid (Below.refl _ _)⟩
  case round =>
    obtain ⟨L, HI, HF, HLn, HB⟩ := hrel
    obtain ⟨a, c', rfl, hcs⟩ := HI.out.cells
    have hbx : Below (w.heap.size + 2) w3 wr := by have := HB.out; rw [HB2.out.2] at this; exact this
    obtain ⟨c0, c1, c2, c3, c4, _, _, _⟩ := HBX.out wr hbx
    by_cases hlt : L.length < n - 1
    · have q1 : decide ((L.length : Int) < (n : Int) - 1) = true := by have := HN.out.1; simp; omega
      have HLT := Lib.hid hlt
      clear hbx hcs hlt
      go_wp2_with fail
      ((with_reducible refine (HWI.out _).mono ?_))
      rintro e w4 ⟨rfl, hb4⟩
      have HB4 := Lib.hid (HB.out.trans (hb4.mono HB.out.size))
      have HI4 := Lib.hid (HI.out.below hb4)
      have HF4 := Lib.hid (HF.out.step hb4)
      clear hb4 c0 c1 c2 c3 c4
      have hbx : Below (w.heap.size + 2) w3 w4 := by have := HB4.out; rw [HB2.out.2] at this; exact this
      obtain ⟨c0, c1, c2, c3, c4, _, _, _⟩ := HBX.out w4 hbx
      clear hbx
      go_wp2_with fail
      ((with_reducible refine (HFI.out _).mono ?_))
      rintro e w5 ⟨fb, rfl, hfb, hb5, hrow⟩
      have HB5 := Lib.hid (HB4.out.trans (hb5.mono HB4.out.size))
      have HI5 := Lib.hid (HI4.out.below hb5)
      have HF5 := Lib.hid (HF4.out.step hb5)
      have HR5 := Lib.hid (And.intro hrow hfb)
      clear hb5 c0 c1 c2 c3 c4 hrow hfb
      go_wp2_with (at_builtin; refine wpList_appFull rfl _ _ rfl w3.heap.size _ L rfl (HI5.out.below (bel_alloc (Below.refl _ _) _)) _ 1 ⟨fillHdr sq, ⟨some ⟨fb, 0, none⟩, sz, sz, List.replicate sz 0⟩⟩ rfl (cells_new _ _ rfl _ _) (Nat.le_trans HB5.out.size (by simp)) (by have := HLn.out; have := HN.out.2.1; omega) ?_)
      intro v' w6 ho hb6 hg6 hwh
      have hfl := FullL.app (((HF5.out.more fb (Nat.le_trans HB4.out.size HR5.out.2) HR5.out.1 (by have := HN.out.2.2.2.2.2; omega) (row_lt HR5.out.1 (by have := HN.out.2.2.2.2.1; omega) _ rfl) (fun e => by have := HI4.out.own_lt fb e.symm; have := HR5.out.2; omega)).step (bel_alloc (Below.refl _ _) _))) hg6 (by rw [World.size_alloc]; exact hwh)
      have hb7 := (HB5.out.trans ((bel_alloc (Below.refl _ _) _).mono HB5.out.size)).trans hb6
      obtain ⟨a6, c6, rfl, _⟩ := cellsSP_own ho
      have HF6 := Lib.hid hfl
      have HO6 := Lib.hid ho
      have HB7 := Lib.hid hb7
      clear hfl ho hb7 hb6 hg6 hwh
      go_wp2
      go_roundw
      case rel => exact ⟨_, Lib.hid (.inr HO6.out), HF6, Lib.hid (by have := HLT.out; simp; omega), HB7⟩
      case measure => simp [slN]; have := HLT.out; omega
    · have q1 : decide ((L.length : Int) < (n : Int) - 1) = false := by have := HN.out.1; simp; omega
      have hle : L.length = n - 1 := by have := HLn.out; omega
      have HCS := Lib.hid hcs
      have HLE := Lib.hid hle
      clear hbx hcs hlt hle
      go_wp2_with fail
      ((with_reducible refine (HWI.out _).mono ?_))
      rintro e w4 ⟨rfl, hb4⟩
      have HB4 := Lib.hid hb4
      clear hb4 c0 c1 c2 c3 c4
      go_wp2
      go_ret
      have hb5 := HB.out.trans (HB4.out.mono HB.out.size)
      have hF := HF.out.step HB4.out
      rw [HLE.out] at hF
      exact ⟨a, c', L, by rw [HLE.out]; rfl, HLE.out, HCS.out.step HB4.out, ⟨hF.ge, hF.old, fun i h1 h2 => ⟨(hF.new i h1 h2).1, (hF.new i h1 h2).2.1, (hF.new i h1 h2).2.2.1, (hF.new i h1 h2).2.2.2.1, fun x hx => Nat.le_trans HB2.out.1.size ((hF.new i h1 h2).2.2.2.2.1 x hx), (hF.new i h1 h2).2.2.2.2.2⟩⟩, HB2.out.1.trans (hb5.mono HB2.out.1.size)⟩
end Go.Proofs.YthgcjiocelcblaaGreat

namespace Go.Proofs.YthgcjiocelcblaaGreat
open Go.Maps (Keyed)
open Go.ChangeMaps (setBlock)
open Go.MapKept

section
variable {κ : Type} [DecidableEq κ]
variable {P : Program} {k : TypeId} {ok : κ → Prop} {kv : κ → Value} {b : Nat} {f : κ → Option Value} {w : World}
theorem MapF.drop {t e : TypeId} (h : MapF ok kv b f w) (Q : KeyF P k ok kv) (ht : P.underlying t = some (.map k e)) {x : κ} (hx : ok x) (ty : TypeId) :
    ∃ w', (Builtin.delete_ #[t, k] ty #[.map (some b), kv x]).run P w = .ok (.tuple #[]) w' ∧ MapF ok kv b (fun y => if y = x then none else f y) w' ∧ w.grownBy w' (some b) ∧ w'.heap.size = w.heap.size := by
  obtain ⟨es, clock, hb, h1, h2, h3⟩ := h
  obtain ⟨l, hl⟩ := Q.read x hx
  have grow : ∀ o, w.grownBy (setBlock w b o) (some b) := fun o => ⟨rfl, rfl, rfl, by simp [setBlock], fun i _ hi => ChangeMaps.heap_setBlock_other hb _ (fun e => hi (by rw [e]))⟩
  rcases Q.K.find w hl es.toList (fun e he => by obtain ⟨y, hy, hk, _⟩ := h1 e he; obtain ⟨m, hm⟩ := Q.read y hy; exact ⟨m, by rw [hk]; exact hm⟩) with ⟨q1, q2⟩ | ⟨j, e0, q1, q2, q3⟩
  · refine ⟨setBlock w b (.map es clock), by simp [Builtin.delete_, run_underlying ht, MapKept.run_getObj_map hb, Q.K.check w _ hl, q1, MapKept.run_setObj_map _ hb, Result.andThen, setBlock],
      ⟨_, _, ChangeMaps.heap_setBlock_same hb _, ?_, ?_, h3⟩, grow _, by simp [setBlock]⟩
    · intro e he
      obtain ⟨y, hy, hk, hv⟩ := h1 e he
      have hne : y ≠ x := fun c => q2 e he (by rw [hk, c])
      exact ⟨y, hy, hk, by simp [hne, hv]⟩
    · intro y u hy hu
      by_cases c : y = x
      · simp only [c, if_true] at hu; cases hu
      · simp only [c, if_false] at hu
        exact h2 y u hy hu
  · have hjl : j < es.toList.length := (List.getElem?_eq_some_iff.1 q2).1
    have hjs : j < es.size := by simpa using hjl
    have hlist : (es.eraseIdxIfInBounds j).toList = es.toList.eraseIdx j := by
      unfold Array.eraseIdxIfInBounds
      rw [dif_pos hjs]
      simp
    have apart : ∀ i (hi : i < es.toList.length), i ≠ j → (es.toList[i]).key ≠ kv x := by
      intro i hi hne c
      rw [List.getElem?_eq_getElem hjl, Option.some.injEq] at q2
      rcases Nat.lt_or_gt_of_ne hne with hlt | hlt
      · have := List.pairwise_iff_getElem.1 h3 i j hi hjl hlt
        rw [q2, c, q3] at this
        exact this rfl
      · have := List.pairwise_iff_getElem.1 h3 j i hjl hi hlt
        rw [q2, c, q3] at this
        exact this rfl
    refine ⟨setBlock w b (.map (es.eraseIdxIfInBounds j) clock), by
      simp [Builtin.delete_, run_underlying ht, MapKept.run_getObj_map hb, Q.K.check w _ hl, q1, MapKept.run_setObj_map _ hb, Result.andThen, setBlock],
      ⟨_, _, ChangeMaps.heap_setBlock_same hb _, ?_, ?_, ?_⟩, grow _, by simp [setBlock]⟩
    · intro e he
      rw [hlist, List.mem_eraseIdx_iff_getElem] at he
      obtain ⟨i, hi, hne, ex⟩ := he
      obtain ⟨y, hy, hk, hv⟩ := h1 e (ex ▸ List.getElem_mem hi)
      have hyx : y ≠ x := fun c => apart i hi hne (by rw [ex, hk, c])
      exact ⟨y, hy, hk, by simp [hyx, hv]⟩
    · intro y u hy hu
      by_cases c : y = x
      · simp only [c, if_true] at hu; cases hu
      · simp only [c, if_false] at hu
        obtain ⟨e, he, hk, hv⟩ := h2 y u hy hu
        refine ⟨e, ?_, hk, hv⟩
        obtain ⟨i, hi, ex⟩ := List.getElem_of_mem he
        rw [hlist, List.mem_eraseIdx_iff_getElem]
        refine ⟨i, hi, ?_, ex⟩
        rintro rfl
        rw [List.getElem?_eq_getElem hi, Option.some.injEq] at q2
        exact c (Q.inj y x hy hx (by rw [← hk, ← q3, ← ex, q2]))
    · rw [hlist]
      exact h3.sublist (List.eraseIdx_sublist _ _)
theorem wpList_dropF {ops : Array Oper} {rest : List Oper} {o : Oper} {a : Act} {R : Exit → Act → World → Prop}
    (hg : o.guard = none) (m x : Operand) (t : TypeId) (hop : o.op = Op.call { callee := Callee.builtin Builtin.delete, args := #[m, x], argTypes := #[t, k] })
    (e : TypeId) (Q : KeyF P k ok kv) (ht : P.underlying t = some (.map k e)) (y : κ) (hy : ok y)
    (hm : a.eval m = .map (some b)) (hown : MapF ok kv b f w) (hx : a.eval x = kv y)
    (hK : ∀ w', MapF ok kv b (fun i => if i = y then none else f i) w' → w.grownBy w' (some b) → w'.heap.size = w.heap.size → wpList P ops R rest (a.put o.dst (.tuple #[])) w') :
    wpList P ops R (o :: rest) a w := by
  refine wpList_plain hg fun K' hK' => ?_
  obtain ⟨w', hrun, r1, r2, r3⟩ := hown.drop Q ht hy o.type
  unfold Oper.wp
  simp [execOp, hop, resolve, invoke, builtin, hm, hx, hrun, Result.andThen]
  exact hK' _ _ (hK w' r1 r2 r3)
end
/-- A page is gone. -/
def RS.cut (s : RS) (b m p : Nat) : RS := { s with F := fun k => if k.2.1 = b ∧ ((k.1 < m ∧ k.2.2 < s.pg) ∨ (k.1 = m ∧ k.2.2 < p)) then none else s.F k }
theorem RS.cut_start (s : RS) (b : Nat) : s.cut b 0 0 = s := by
  have : (s.cut b 0 0).F = s.F := by
    funext k
    unfold RS.cut
    simp only
    rw [if_neg (by omega)]
  unfold RS.cut at this ⊢
  simp only at this
  rw [this]
theorem RS.cut_row (s : RS) (b m : Nat) : s.cut b m s.pg = s.cut b (m + 1) 0 := by
  unfold RS.cut
  congr 1
  funext k
  by_cases h : k.2.1 = b ∧ ((k.1 < m ∧ k.2.2 < s.pg) ∨ (k.1 = m ∧ k.2.2 < s.pg))
  · rw [if_pos h, if_pos (by omega)]
  · rw [if_neg h, if_neg (by omega)]
theorem RS.cut_more (s : RS) (b m p : Nat) : (s.cut b m (p + 1)).pageV = fun k => if k = (m, b, p) then none else (s.cut b m p).pageV k := by
  funext k
  obtain ⟨x, y, z⟩ := k
  unfold RS.pageV RS.cut
  simp only [Prod.mk.injEq]
  by_cases h : x = m ∧ y = b ∧ z = p
  · rw [if_pos h, if_pos (by omega)]; rfl
  · rw [if_neg h]
    by_cases h2 : y = b ∧ ((x < m ∧ z < s.pg) ∨ (x = m ∧ z < p))
    · rw [if_pos h2, if_pos (by omega)]
    · rw [if_neg h2, if_neg (by omega)]
/-- What a step that deletes a page leaves. -/
theorem ram_cut {B : Nat} {s : RS} {w : World} {b m p : Nat} (h : Ram B (s.cut b m p) w) (w2 : World) (hm : MapF ok3 kv3 s.pb (fun j => if j = (m, b, p) then none else (s.cut b m p).pageV j) w2) (grow : w.grownBy w2 (some s.pb)) :
    Ram B (s.cut b m (p + 1)) w2 ∧ RStep (s.cut b m p) w (s.cut b m (p + 1)) w2 := by
  have hblk : ∀ j, j < w.heap.size → j ≠ s.pb → w2.heap[j]? = w.heap[j]? := fun j hj hn => grow.block j hj (fun e => hn (Option.some.inj e))
  have h0 : ∀ k, (s.cut b m (p + 1)).ob k ↔ (s.cut b m p).ob k := fun k => Iff.rfl
  refine ⟨⟨(hblk _ h.rlt h.sep.1).trans h.box, h.low, by rw [RS.cut_more]; exact hm, h.goneF.same (hblk _ h.goneF.lt (fun e => h.sep.2.2.1 e.symm)), fun j q hj hF => ?_, ownsRow_at h.ordF fun j hj => hblk j (h.ordF.lt j hj).2 (fun e => h.sep.2.2.2.2.1 ((show s.ord.ownBlock = some j from hj).trans (congrArg some e))), h.sep, h.geo⟩, grow.os, grow.tape, grow.output, grow.size, fun j hj hn => ⟨hn, hblk j hj (fun e => hn (Or.inr (Or.inl e)))⟩, rfl, rfl, rfl, rfl, rfl, rfl, rfl, rfl⟩
  have hF' : (s.cut b m p).F j = some q := by
    unfold RS.cut at hF ⊢
    simp only at hF ⊢
    split at hF
    · cases hF
    · rename_i hn
      rw [if_neg (by omega)]
      exact hF
  obtain ⟨q1, q2, q3, q4⟩ := h.parts j q hj hF'
  exact ⟨q1.at_ fun h0 x hx => hblk _ (q1.lt h0 x hx) (fun e => q4 x hx (Or.inr (Or.inl e))), q2, q3, q4⟩
end Go.Proofs.YthgcjiocelcblaaGreat

namespace Go.Proofs.YthgcjiocelcblaaGreat
open Go.RowKit
section
variable {B : Nat} {s : RS} {w : World}
set_option maxRecDepth 100000 in
set_option maxHeartbeats 1000000 in
theorem ramErase (h : Ram B s w) (b : Nat) (hb : b ≤ 1000) :
    Calls Tryz.prog 134 #[.pointer (some ⟨s.rb, 0, none⟩), .int .i64 (b : Int)] w fun e w' => e = .returned (.int .i64 0) ∧ Ram B (s.cut b s.n 0) w' ∧ RStep s w (s.cut b s.n 0) w' := by
  have hn16 : s.n ≤ 16 := by have := h.geo.2.1; omega
  have hp32 : s.pg ≤ 32 := by have := h.geo.2.2.2.2.2.1; omega
  have HC : Hid (∀ (m p : Nat) (x : World), Ram B (s.cut b m p) x → x.cell? ⟨s.rb, 0, none⟩ = some (.int .i64 (s.n : Int)) ∧ x.cell? ⟨s.rb, 2, none⟩ = some (.int .i64 (s.pg : Int)) ∧ x.cell? ⟨s.rb, 4, none⟩ = some (.map (some s.pb))) := Lib.hid fun m p x hx => ⟨hx.c.1, hx.c.2.2.1, hx.c.2.2.2.2.1⟩
  have HK : Hid (∀ m p : Nat, m ≤ 16 → p ≤ 32 → ok3 (m, b, p)) := Lib.hid fun m p h1 h2 => ⟨by show m ≤ _; omega, by show b ≤ _; omega, by show p ≤ _; omega⟩
  have HS : Hid (Ram B (s.cut b 0 0) w ∧ RStep s w (s.cut b 0 0) w) := Lib.hid (by rw [RS.cut_start]; exact ⟨h, RStep.refl s w⟩)
  clear h
  go_enter Tryz.func134, Tryz.ntmps134
  go_wp2_with fail
  go_loopw [5] (fun i wr => ∃ m : Nat, m ≤ s.n ∧ i = .int .i64 (m : Int) ∧ Hid (Ram B (s.cut b m 0) wr ∧ RStep s w (s.cut b m 0) wr)) (fun i _ => (s.n - intOf i).toNat)
  case atStart => exact ⟨0, Nat.zero_le _, rfl, HS⟩
  case round =>
    obtain ⟨m, hm, rfl, HI⟩ := hrel
    obtain ⟨c0, c1, c2⟩ := HC.out _ _ _ HI.out.1
    by_cases hlt : m < s.n
    · have q1 : decide (m < s.n) = true := by simpa using hlt
      clear c1 c2
      go_wp2_with fail
      clear c0
      go_loopw [6] (fun i wr => ∃ p : Nat, p ≤ s.pg ∧ i = .int .i64 (p : Int) ∧ Hid (Ram B (s.cut b m p) wr ∧ RStep s w (s.cut b m p) wr)) (fun i _ => (s.pg - intOf i).toNat)
      case atStart => exact ⟨0, Nat.zero_le _, rfl, HI⟩
      case round =>
        obtain ⟨p, hp, rfl, HI2⟩ := hrel
        obtain ⟨c0, c1, c2⟩ := HC.out _ _ _ HI2.out.1
        by_cases hlt2 : p < s.pg
        · have q2 : decide (p < s.pg) = true := by simpa using hlt2
          have hmf : MapF ok3 kv3 s.pb (s.cut b m p).pageV wr := HI2.out.1.pages
          have hok := HK.out m p (by omega) (by omega)
          obtain ⟨w2, hrun, hm2, hg2, _⟩ := hmf.drop keyF3 Tryz.underlying54 hok 0
          simp only [kv3] at hrun
          have HI3 := Lib.hid (ram_cut HI2.out.1 w2 hm2 hg2)
          have HR3 := Lib.hid (HI2.out.2.trans HI3.out.2)
          clear hm2 hg2 hmf hok
          go_wp2
          go_roundw
          case rel => exact ⟨p + 1, by omega, by go_num, Lib.hid ⟨HI3.out.1, HR3.out⟩⟩
          case measure => simp [intOf]; omega
        · have q2 : decide (p < s.pg) = false := by simpa using hlt2
          obtain rfl : p = s.pg := by omega
          have HI4 : Hid (Ram B (s.cut b (m + 1) 0) wr ∧ RStep s w (s.cut b (m + 1) 0) wr) := Lib.hid (by rw [← RS.cut_row]; exact HI2.out)
          go_wp2
          go_roundw
          case rel => exact ⟨m + 1, by omega, by go_num, HI4⟩
          case measure => simp [intOf]; omega
    · have q1 : decide (m < s.n) = false := by simpa using hlt
      obtain rfl : m = s.n := by omega
      go_wp2
      go_ret
      exact ⟨rfl, HI.out.1, HI.out.2⟩
end
end Go.Proofs.YthgcjiocelcblaaGreat

namespace Go.Proofs.YthgcjiocelcblaaGreat
open Go.RowKit Go.Deep

def RS.kill (s : RS) (m : Nat) : RS := { s with gone := fun x => if x = m then 1 else s.gone x }
theorem kill_goneV (s : RS) (m : Nat) : (s.kill m).goneV = fun j => if j = m then some (.int .i64 1) else s.goneV j := by
  funext j
  unfold RS.goneV RS.kill
  by_cases h : j = m <;> simp [h]
theorem ram_kill {B : Nat} {s : RS} {w : World} (h : Ram B s w) (w2 : World) (m : Nat) (hm : MapF ok1 kv1 s.gb (fun j => if j = m then some (.int .i64 1) else s.goneV j) w2) (grow : w.grownBy w2 (some s.gb)) :
    Ram B (s.kill m) w2 ∧ RStep s w (s.kill m) w2 := by
  have hblk : ∀ j, j < w.heap.size → j ≠ s.gb → w2.heap[j]? = w.heap[j]? := fun j hj hn => grow.block j hj (fun e => hn (Option.some.inj e))
  refine ⟨⟨(hblk _ h.rlt h.sep.2.1).trans h.box, h.low, h.pages.same (hblk _ h.pages.lt h.sep.2.2.1), by rw [kill_goneV]; exact hm, fun j q hj hF => ?_, ownsRow_at h.ordF fun j hj => hblk j (h.ordF.lt j hj).2 (fun e => h.sep.2.2.2.2.2 ((show s.ord.ownBlock = some j from hj).trans (congrArg some e))), h.sep, h.geo⟩, grow.os, grow.tape, grow.output, grow.size, fun j hj hn => ⟨hn, hblk j hj (fun e => hn (Or.inr (Or.inr (Or.inl e))))⟩, rfl, rfl, rfl, rfl, rfl, rfl, rfl, rfl⟩
  obtain ⟨q1, q2, q3, q4⟩ := h.parts j q hj hF
  exact ⟨q1.at_ fun h0 x hx => hblk _ (q1.lt h0 x hx) (fun e => q4 x hx (Or.inr (Or.inr (Or.inl e)))), q2, q3, q4⟩
theorem ram_die {B : Nat} {s : RS} {w : World} (h : Ram B s w) (D : Nat) (hD : D ≤ 100000) :
    ∃ w7, (Instr.mapUpdate 55 (.map (some s.gb)) (.int .i64 (D : Int)) (.int .i64 1)).run Tryz.prog w = .ok () w7 ∧ Ram B (s.kill D) w7 ∧ RStep s w (s.kill D) w7 := by
  obtain ⟨w7, h1, h2, h3, _⟩ := h.goneF.update keyF1 Tryz.underlying55 (x := D) hD (.int .i64 1)
  obtain ⟨k1, k2⟩ := ram_kill h w7 D h2 h3
  exact ⟨w7, h1, k1, k2⟩
end Go.Proofs.YthgcjiocelcblaaGreat
