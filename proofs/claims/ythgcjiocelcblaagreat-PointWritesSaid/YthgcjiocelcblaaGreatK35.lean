/- Parts of the proof: StKept, StFirst. -/
import Derived.Test.YthgcjiocelcblaaGreatK31
import Derived.Test.YthgcjiocelcblaaGreatK34
namespace Go.Proofs.YthgcjiocelcblaaGreat
open Go.RowKit Go.Deep

theorem ordL_all {n : Nat} {z : Int} {x : Nat} (hx : x < n) : x ∈ ordL 0 n z := by
  have hr : ∀ i (h : i < (rangeL 0 n).length), (rangeL 0 n)[i] = i := fun i h => by simp [rangeL]
  have hl : (rangeL 0 n).length = n := rangeL_len 0 n
  unfold ordL
  split
  · rename_i hz
    by_cases e : x = z.toNat
    · rw [e]; exact List.mem_cons_self
    · refine List.mem_cons_of_mem _ (List.mem_eraseIdx_iff_getElem.2 ⟨x, by omega, by omega, hr x (by omega)⟩)
  · exact List.mem_iff_getElem.2 ⟨x, by omega, hr x (by omega)⟩
theorem has_wrote {s s' : RS} {n p seg row : Nat} {G : List PG} {P : PG} (hW : Wrote s s' seg row (ordL 0 n s.first) (onB p G P)) {m : Nat} (hm : m < n) (hg : s.gone m = 0) : s'.page (m, seg, row) = onB p G P m := by
  obtain ⟨q, h1, h2⟩ := hW.1 m (ordL_all hm) hg
  rw [row_page_some h1]; exact h2
theorem ownsI_shape {B : Nat} {w : World} {e : TypeId} {sz : Nat} {v : Value} {n : Nat} {xs : List Value} (h : w.ownsRow B e sz v n xs) : ∃ a c, v = .slice a n c := by
  rcases h.2 with ⟨rfl, h0⟩ | ⟨g, cap, cur, rfl, _⟩
  · exact ⟨none, 0, by rw [h0]⟩
  · exact ⟨_, _, rfl⟩
theorem deads_none {s : RS} (h : ∀ m, s.gone m = 0) (ms : List Nat) : deads s ms = 0 := by
  unfold deads
  simp [h]
theorem chips0 : chipsOf 0 = 3 := by
  unfold chipsOf modN
  rw [IntKind.wrap_u64]
  rfl
/-- Pages that aren't the members'. -/
structure Pgs (s : RS) (w : World) (a : Option Addr) (L : List SP) : Prop where
  pg : PagesSP w a L
  len : 0 < L.length ∧ ∀ q ∈ L, 0 < q.d.n
  at_ : ∀ x, a = some x → ¬ s.ob x.block
  parts : ∀ q ∈ L, ∀ x, q.d.a = some x → ¬ s.ob x.block
theorem spat_at {q : SP} {b o : Nat} {w w' : World} (h : SPat q b o w) (e : w'.heap[b]? = w.heap[b]?) : SPat q b o w' := by
  obtain ⟨h0, h1, h2, h3, h4, h5, h6, h7⟩ := h
  exact ⟨(World.cell?_of_block (w := w) (a := ⟨b, o, none⟩) e).trans h0, (World.cell?_of_block (w := w) (a := ⟨b, o + 1, none⟩) e).trans h1, (World.cell?_of_block (w := w) (a := ⟨b, o + 2, none⟩) e).trans h2, (World.cell?_of_block (w := w) (a := ⟨b, o + 3, none⟩) e).trans h3, (World.cell?_of_block (w := w) (a := ⟨b, o + 4, none⟩) e).trans h4, (World.cell?_of_block (w := w) (a := ⟨b, o + 5, none⟩) e).trans h5, (World.cell?_of_block (w := w) (a := ⟨b, o + 6, none⟩) e).trans h6, (World.cell?_of_block (w := w) (a := ⟨b, o + 7, none⟩) e).trans h7⟩
theorem Pgs.move {s s' : RS} {w w' : World} {a : Option Addr} {L : List SP} (h : Pgs s w a L) (hs : ∀ k, k < w.heap.size → ¬ s.ob k → ¬ s'.ob k ∧ w'.heap[k]? = w.heap[k]?) : Pgs s' w' a L := by
  obtain ⟨b, off, e, hc⟩ := h.pg.1 h.len.1
  have hlt : b < w.heap.size := World.block_lt_of_cell? w _ (hc 0 h.len.1).1
  have hb := hs b hlt (h.at_ _ e)
  have hq : ∀ q ∈ L, ∀ x, q.d.a = some x → ¬ s'.ob x.block ∧ w'.heap[x.block]? = w.heap[x.block]? := fun q hq x hx => hs x.block ((h.pg.2 q hq).1.lt (h.len.2 q hq) x hx) (h.parts q hq x hx)
  refine ⟨⟨fun h0 => ⟨b, off, e, fun i hi => spat_at (hc i hi) hb.2⟩, fun q hq' => ⟨(h.pg.2 q hq').1.at_ fun _ x hx => (hq q hq' x hx).2, (h.pg.2 q hq').2⟩⟩, h.len, fun x hx => ?_, fun q hq' x hx => (hq q hq' x hx).1⟩
  rw [e] at hx
  cases hx
  exact hb.1
theorem Pgs.step {s : RS} {w w' : World} {a : Option Addr} {L : List SP} (h : Pgs s w a L) (hb : Below w.heap.size w w') : Pgs s w' a L := h.move fun k hk hn => ⟨hn, hb.block k hk⟩
theorem Pgs.rstep {s s' : RS} {w w' : World} {a : Option Addr} {L : List SP} (h : Pgs s w a L) (hs : RStep s w s' w') : Pgs s' w' a L := h.move hs.block
theorem pgs_new {q : Nat → List Nat × RH} {k sz : Nat} {sv : Value} {L : List SP} {B : Nat} {s : RS} {w0 w : World} (hr : Ram B s w0) (h : GotP sz q w0.heap.size k sv L w) (hq : ∀ j, j < k → (q j).1.length = sz ∧ (q j).2.Fits ∧ 1 ≤ (q j).2.ki ∧ (q j).2.ki ≤ 6) (hk : 0 < k) (hsz : 0 < sz) :
    ∃ a cap, sv = .slice a k cap ∧ Pgs s w a L ∧ (∀ x ∈ L, x.d.n = sz) ∧ LOk L sz ∧ L.length = k := by
  obtain ⟨a, cap, e, h1, h2, h3, h4⟩ := gotP_sp h hq
  refine ⟨a, cap, e, ⟨h1, ⟨by omega, fun q hq => by rw [h2 q hq]; exact hsz⟩, fun x hx => ?_, fun q hq x hx => ?_⟩, h2, h3, h4⟩
  · rw [e, hx] at h
    rcases h.1.2 with ⟨e0, _⟩ | ⟨g, cap, cur, e0, hge, _⟩
    · cases e0
    · cases e0; exact hr.fresh hge
  · obtain ⟨j, hj, ej⟩ := List.mem_iff_getElem.1 hq
    have e2 : L.getD j SP.nil = q := by simp [List.getD, hj, ej]
    have := (h.2.2 j (by omega)).2.2.2.2.1
    rw [e2] at this
    exact hr.fresh (this x hx)
/-- A page of a slice of pages, cell by cell. -/
theorem spage_at {w : World} {a : Option Addr} {L : List SP} (h : CellsSP w a L) {i : Nat} (hi : i < L.length) : ∃ b off, a = some ⟨b, off, none⟩ ∧ SPat (L.getD i SP.nil) b (off + i * 8) w := by
  obtain ⟨b, off, e, hc⟩ := h (by omega)
  exact ⟨b, off, e, hc i hi⟩
end Go.Proofs.YthgcjiocelcblaaGreat

namespace Go.Proofs.YthgcjiocelcblaaGreat
open Go.RowKit Go.Deep

structure CaseOk (w : World) (ha : Option Addr) (hn : Nat) (fa : Option Addr) (fn : Nat) (ba : Option Addr) (bn bc : Nat) (HL : List RH) (FL BL : List Nat) : Prop where
  heads : CellsH w ha HL
  hlen : hn = HL.length
  hmax : hn ≤ maxLen
  fit : ∀ h ∈ HL, h.Fits
  first : Row w fa fn FL
  fmax : fn ≤ maxLen
  bytes : Row w ba bn BL
  bnil : ba = none → bc = 0
theorem par_nat (n seg row : Nat) (hn : 0 < n) : ∃ p : Nat, ((p : Nat) : Int) = ParOf (n : Nat) (6 : Nat) (seg : Nat) (row : Nat) ∧ p < n := by
  unfold ParOf
  have h1 : 0 ≤ ((seg : Int) * (6 : Nat) + (row : Int)) % (n : Int) := Int.emod_nonneg _ (by omega)
  have h2 : ((seg : Int) * (6 : Nat) + (row : Int)) % (n : Int) < (n : Int) := Int.emod_lt_of_pos _ (by omega)
  exact ⟨(((seg : Int) * (6 : Nat) + (row : Int)) % (n : Int)).toNat, by omega, by omega⟩
theorem far_mono {B C : Nat} {D : PS} (h : B ≤ C) (hf : Far C D) : Far B D := fun x hx => Nat.le_trans h (hf x hx)
theorem far7 {W : World} {b k o : Nat} {v u0 u1 u2 u3 u4 u5 u6 : Value} (h : W.cell? ⟨k, o, none⟩ = some v) (hne : k ≠ b) : (((((((W.setCell ⟨b, 0, none⟩ u0).setCell ⟨b, 1, none⟩ u1).setCell ⟨b, 2, none⟩ u2).setCell ⟨b, 3, none⟩ u3).setCell ⟨b, 4, none⟩ u4).setCell ⟨b, 5, none⟩ u5).setCell ⟨b, 6, none⟩ u6).cell? ⟨k, o, none⟩ = some v := by
  refine (World.cell?_of_block (w := W) (a := ⟨k, o, none⟩) ?_).trans h
  repeat rw [heap_setCell_other _ _ k _ hne]
theorem bel_seven {w w1 : World} (hb : Below w.heap.size w w1) (b : Nat) (h : w.heap.size ≤ b) (v0 v1 v2 v3 v4 v5 v6 : Value) :
    Below w.heap.size w (((((((w1.setCell ⟨b, 0, none⟩ v0).setCell ⟨b, 1, none⟩ v1).setCell ⟨b, 2, none⟩ v2).setCell ⟨b, 3, none⟩ v3).setCell ⟨b, 4, none⟩ v4).setCell ⟨b, 5, none⟩ v5).setCell ⟨b, 6, none⟩ v6) :=
  ((((((hb.setCell (p := ⟨b, 0, none⟩) h _).setCell (p := ⟨b, 1, none⟩) h _).setCell (p := ⟨b, 2, none⟩) h _).setCell (p := ⟨b, 3, none⟩) h _).setCell (p := ⟨b, 4, none⟩) h _).setCell (p := ⟨b, 5, none⟩) h _).setCell (p := ⟨b, 6, none⟩) h _
theorem memC_or (n : Nat) (x : Int) (h : 0 < n) : memC n x = -1 ∨ ∃ D : Nat, D < n ∧ memC n x = (D : Int) := by
  have hb := memC_bd n x h
  by_cases e : memC n x = -1
  · exact .inl e
  · exact .inr ⟨(memC n x).toNat, by omega, by omega⟩
/-- A page of a member in memory is another one. -/
theorem page_put_same {s : RS} {k : Nat × Nat × Nat} {q : PS} : (s.put k q).page k = q.l := by
  refine row_page_some ?_
  show (if k = k then some q else s.F k) = some q
  rw [if_pos rfl]
theorem page_put_other {s : RS} {k j : Nat × Nat × Nat} {q : PS} (h : j ≠ k) : (s.put k q).page j = s.page j := by
  have e : (s.put k q).F j = s.F j := by show (if j = k then some q else s.F j) = s.F j; rw [if_neg h]
  unfold RS.page
  rw [e]
  rfl
end Go.Proofs.YthgcjiocelcblaaGreat

namespace Go.Proofs.YthgcjiocelcblaaGreat
open Go.RowKit Go.Deep

def RS.lead (s : RS) (z : Int) : RS := { s with first := z }
theorem ram_lead {B : Nat} {s : RS} {w : World} (h : Ram B s w) (z : Int) :
    Ram B (s.lead z) (w.setCell ⟨s.rb, 6, none⟩ (.int .i64 z)) ∧ Below B w (w.setCell ⟨s.rb, 6, none⟩ (.int .i64 z)) ∧ (∀ k, k < w.heap.size → ¬ s.ob k → ¬ (s.lead z).ob k ∧ (w.setCell ⟨s.rb, 6, none⟩ (.int .i64 z)).heap[k]? = w.heap[k]?) ∧ w.heap.size ≤ (w.setCell ⟨s.rb, 6, none⟩ (.int .i64 z)).heap.size := by
  have hk : ∀ k, k ≠ s.rb → (w.setCell ⟨s.rb, 6, none⟩ (.int .i64 z)).heap[k]? = w.heap[k]? := fun k hk => heap_setCell_other _ _ k _ hk
  have hbx : (w.setCell ⟨s.rb, 6, none⟩ (.int .i64 z)).heap[s.rb]? = some (.cells #[.int .i64 (s.n : Int), .int .i64 (s.bl : Int), .int .i64 (s.pg : Int), .int .i64 (s.sz : Int), .map (some s.pb), .map (some s.gb), .int .i64 z, s.ord] 58 (0, 0)) := by
    have := heap_setCell_same w s.rb 6 _ _ (.int .i64 z) h.box
    simpa using this
  have hbel : Below B w (w.setCell ⟨s.rb, 6, none⟩ (.int .i64 z)) := (Below.refl B w).setCell (p := ⟨s.rb, 6, none⟩) h.low.1 _
  refine ⟨⟨hbx, h.low, h.pages.same (hk _ (fun e => h.sep.1 e.symm)), h.goneF.same (hk _ (fun e => h.sep.2.1 e.symm)), fun k p hk' hF => ?_, ownsRow_at h.ordF fun k hk' => hk k (fun e => h.sep.2.2.2.1 (by rw [← e]; exact hk')), h.sep, h.geo⟩, hbel, fun k _ hn => ⟨hn, hk k (fun e => hn (Or.inl e))⟩, hbel.size⟩
  obtain ⟨q1, q2, q3, q4⟩ := h.parts k p hk' hF
  exact ⟨q1.at_ fun _ x hx => hk _ (fun e => q4 x hx (Or.inl e)), q2, q3, q4⟩
theorem filter_one (D : Nat) : ∀ {ms : List Nat}, ms.Nodup → (ms.filter fun m => decide (m = D)).length ≤ 1
  | [], _ => by simp
  | a :: l, h => by
    have h1 := List.nodup_cons.1 h
    by_cases e : a = D
    · subst e
      have h2 : l.filter (fun m => decide (m = a)) = [] := by
        rw [List.filter_eq_nil_iff]
        intro x hx
        simp only [decide_eq_true_eq]
        rintro rfl
        exact h1.1 hx
      simp [h2]
    · simp [e, filter_one D h1.2]
theorem rangeL_zero (n : Nat) : rangeL 0 n = List.range n := by simp [rangeL]
theorem ordL_nodup (n : Nat) (z : Int) : (ordL 0 n z).Nodup := by
  unfold ordL
  rw [rangeL_zero]
  split
  · rename_i hz
    refine List.nodup_cons.2 ⟨fun hm => ?_, List.nodup_range.sublist (List.eraseIdx_sublist _ _)⟩
    obtain ⟨i, hi, hne, e⟩ := List.mem_eraseIdx_iff_getElem.1 hm
    rw [List.getElem_range] at e
    omega
  · exact List.nodup_range
theorem deads_one {s : RS} {D : Nat} (h : ∀ m, s.gone m = if m = D then 1 else 0) (n : Nat) (z : Int) : deads s (ordL 0 n z) ≤ 1 := by
  unfold deads
  have e : (fun m => decide (s.gone m ≠ 0)) = fun m => decide (m = D) := by
    funext m
    rw [h]
    by_cases c : m = D <;> simp [c]
  rw [e]
  exact filter_one D (ordL_nodup n z)
theorem deads_dv {s : RS} {dv : Int} (h : ∀ m : Nat, s.gone m = if (m : Int) = dv then 1 else 0) (n : Nat) (z : Int) : deads s (ordL 0 n z) ≤ 1 := by
  by_cases h0 : 0 ≤ dv
  · refine deads_one (D := dv.toNat) (fun m => ?_) n z
    rw [h]
    by_cases e : (m : Int) = dv
    · rw [if_pos e, if_pos (by omega)]
    · rw [if_neg e, if_neg (by omega)]
  · rw [deads_none (fun m => by rw [h, if_neg (by omega)])]; omega
theorem seven_put {W : World} {b : Nat} {u0 u1 u2 u3 u4 u5 u6 : Value} (v0 v1 v2 v3 v4 v5 v6 : Value) {t : TypeId} (h : W.heap[b]? = some (.cells #[u0, u1, u2, u3, u4, u5, u6] t (0, 0))) :
    (((((((W.setCell ⟨b, 0, none⟩ v0).setCell ⟨b, 1, none⟩ v1).setCell ⟨b, 2, none⟩ v2).setCell ⟨b, 3, none⟩ v3).setCell ⟨b, 4, none⟩ v4).setCell ⟨b, 5, none⟩ v5).setCell ⟨b, 6, none⟩ v6).heap[b]? = some (.cells #[v0, v1, v2, v3, v4, v5, v6] t (0, 0)) := by
  have h0 := heap_setCell_same W b 0 _ _ v0 h
  have h1 := heap_setCell_same _ b 1 _ _ v1 h0
  have h2 := heap_setCell_same _ b 2 _ _ v2 h1
  have h3 := heap_setCell_same _ b 3 _ _ v3 h2
  have h4 := heap_setCell_same _ b 4 _ _ v4 h3
  have h5 := heap_setCell_same _ b 5 _ _ v5 h4
  have h6 := heap_setCell_same _ b 6 _ _ v6 h5
  simpa using h6
theorem wrap_step (i : Nat) (h : i ≤ 1000) : wrap64 ((i : Int) + 1) = (i : Int) + 1 := IntWalk.wrap64_in _ (by omega)
theorem wrap_u32i (e : Nat) (h : e < 4294967296) : IntKind.i64.wrap (e : Int) = (e : Int) := by
  rw [IntKind.wrap_i64]; omega
theorem beq_ne {a b : Nat} (h : ¬ a = b) : ((a : Int) == (b : Int)) = false := beq_false_of_ne fun e => h (by omega)
theorem round_lessI {i n : Nat} (h : i < n) : ((n : Int) - ((i : Int) + 1)).toNat < ((n : Int) - (i : Int)).toNat := by omega
theorem round_lessN {i n : Nat} (h : i < n) : n - (intOf (.int .i64 ((i : Int) + 1))).toNat < n - (intOf (.int .i64 (i : Int))).toNat := by simp only [intOf]; omega
/-- Where member k stands in the order, if it isn't the one ahead. -/
def ordPos (z : Int) (k : Nat) : Nat := if 0 ≤ z then (if (k : Int) ≤ z then k + 1 else k) else k
theorem ordPos_more (z : Int) (k : Nat) : ordPos z (k + 1) = if (k : Int) = z then ordPos z k else ordPos z k + 1 := by
  unfold ordPos
  by_cases h0 : 0 ≤ z
  · rw [if_pos h0, if_pos h0]
    by_cases h1 : (k : Int) = z
    · rw [if_pos h1, if_neg (by omega), if_pos (by omega)]
    · rw [if_neg h1]
      by_cases h2 : (k : Int) ≤ z
      · rw [if_pos (by omega), if_pos h2]
      · rw [if_neg (by omega), if_neg h2]
  · rw [if_neg h0, if_neg h0, if_neg (by omega)]
theorem ordL_at {n k : Nat} {z : Int} (hz : -1 ≤ z ∧ z < (n : Int)) (hk : k < n) (hne : (k : Int) ≠ z) : (ordL 0 n z).getD (ordPos z k) 0 = k ∧ ordPos z k < n := by
  unfold ordL ordPos
  rw [rangeL_zero]
  by_cases h0 : 0 ≤ z
  · rw [if_pos ⟨by omega, by omega⟩, if_pos h0]
    by_cases h2 : (k : Int) ≤ z
    · rw [if_pos h2]
      refine ⟨?_, by omega⟩
      rw [List.getD_cons_succ, List.getD, List.getElem?_eraseIdx, if_pos (by omega)]
      simp [hk]
    · rw [if_neg h2]
      refine ⟨?_, by omega⟩
      obtain ⟨j, rfl⟩ : ∃ j, k = j + 1 := ⟨k - 1, by omega⟩
      rw [List.getD_cons_succ, List.getD, List.getElem?_eraseIdx, if_neg (by omega)]
      simp [hk]
  · rw [if_neg (by omega), if_neg h0]
    exact ⟨by simp [List.getD, hk], by omega⟩
theorem ordL_head {n F : Nat} (h : F < n) : (ordL 0 n (F : Int)).getD 0 0 = F := by
  unfold ordL
  rw [if_pos ⟨by omega, by omega⟩]
  simp
theorem own_cells {B : Nat} {w : World} {v : Value} {l : List Nat} (h : w.ownsRow B 3 1 v l.length (vals l)) (h0 : 0 < l.length) : ∃ g c, v = .slice (some ⟨g, 0, none⟩) l.length c ∧ g < w.heap.size ∧ ∀ j, j < l.length → w.cell? ⟨g, j, none⟩ = some (.int .i64 ((l.getD j 0 : Nat) : Int)) := by
  have h' := h
  rcases h.2 with ⟨_, e0⟩ | ⟨g, cap, cur, rfl, _⟩
  · omega
  · refine ⟨g, cap, rfl, (h.lt g rfl).2, fun j hj => ?_⟩
    rw [h'.cellAt j (by omega)]
    unfold vals
    simp [List.getD, hj]
end Go.Proofs.YthgcjiocelcblaaGreat
