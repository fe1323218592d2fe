/- gabionlaw18.of. -/
import Derived.Test.YtdpkinppkhnjkaaDnFind
import Derived.Deep.AppendLies
namespace Go.Proofs.Ytdpkinppkhnjkaa
open Go.RowKit

def cellsR (x : Nat × ByteArray) : List Value := [.int .i64 (x.1 : Int), .string x.2]
/-- The document's entries of the call's own. -/
def OwnR (B : Nat) (w : World) (v : Value) (L : EntL) : Prop := w.ownsRow B 40 2 v L.length (L.flatMap cellsR)
theorem info_ent : (Try.prog.info? 40).map (fun i => (i.zero, i.size, i.bytes)) = some (some (.agg #[.int .i64 0, .string ⟨#[]⟩]), 2, 24) := by kernel_rfl
theorem ownR_nil (B : Nat) (w : World) : OwnR B w (.slice none 0 0) [] := World.ownsRow_nil w B _ 2
theorem ownR_bel {B : Nat} {w w' : World} {sv : Value} {l : EntL} (h : OwnR B w sv l) (hb : Below w.heap.size w w') : OwnR B w' sv l :=
  World.ownsRow.kept (row := none) h ⟨hb.os, hb.tape, hb.output, hb.size, fun b hb' _ => hb.block b hb'⟩ (by cases hv : sv.ownBlock <;> simp)
/-- Where the document's entries stand. -/
def RowRf (w : World) (a : Option Addr) (n : Nat) (L : EntL) : Prop :=
  L.length = n ∧ (∀ x ∈ L, x.1 < 4294967296) ∧ (0 < n → ∃ b off, a = some ⟨b, off, none⟩ ∧ ∀ i, i < n → w.cell? ⟨b, off + i * 2, none⟩ = some (.int .i64 ((L.getD i ent0).1 : Int)) ∧ w.cell? ⟨b, off + i * 2 + 1, none⟩ = some (.string (L.getD i ent0).2))
theorem RowRf.below {w x : World} {a : Option Addr} {n : Nat} {L : EntL} (h : RowRf w a n L) (hb : Below w.heap.size w x) : RowRf x a n L := by
  obtain ⟨h1, h2, h3⟩ := h
  refine ⟨h1, h2, fun h0 => ?_⟩
  obtain ⟨b, off, e, hc⟩ := h3 h0
  exact ⟨b, off, e, fun i hi => ⟨pt_stepS (hc i hi).1 hb, pt_stepS (hc i hi).2 hb⟩⟩
theorem RowRf.at {w : World} {a : Option Addr} {n : Nat} {L : EntL} (h : RowRf w a n L) {k : Nat} (hk : k < n) :
    ∃ b off nd nm, a = some ⟨b, off, none⟩ ∧ L.getD k ent0 = (nd, nm) ∧ nd < 4294967296 ∧ w.cell? ⟨b, off + k * 2, none⟩ = some (.int .i64 (nd : Int)) ∧ w.cell? ⟨b, off + k * 2 + 1, none⟩ = some (.string nm) := by
  obtain ⟨h1, h2, h3⟩ := h
  obtain ⟨b, off, e, hc⟩ := h3 (by omega)
  obtain ⟨c1, c2⟩ := hc k hk
  refine ⟨b, off, _, _, e, rfl, ?_, c1, c2⟩
  have e2 : L.getD k ent0 = L[k]'(by omega) := by simp [List.getD, h1, hk]
  have := h2 (L[k]'(by omega)) (List.getElem_mem _)
  rw [← e2] at this
  exact this
theorem cellsR_at : ∀ (L : EntL) (k : Nat), k < L.length → (L.flatMap cellsR)[k * 2]? = some (.int .i64 ((L.getD k ent0).1 : Int)) ∧ (L.flatMap cellsR)[k * 2 + 1]? = some (.string (L.getD k ent0).2)
  | x :: L, 0, _ => ⟨rfl, rfl⟩
  | x :: L, k + 1, h => by
    have ih := cellsR_at L k (by simp at h; omega)
    rw [List.flatMap_cons]
    have e1 : (k + 1) * 2 = k * 2 + 2 := by omega
    rw [e1]
    exact ih
theorem cellsR_len (L : EntL) : (L.flatMap cellsR).length = L.length * 2 := by
  induction L with
  | nil => rfl
  | cons x L ih => rw [List.flatMap_cons, List.length_append, ih]; simp [cellsR]; omega
theorem ownR_row {B : Nat} {w : World} {v : Value} {L : EntL} (h : OwnR B w v L) (hb : ∀ x ∈ L, x.1 < 4294967296) : ∃ a c, v = .slice a L.length c ∧ RowRf w a L.length L := by
  rcases h.2 with ⟨h0, h1⟩ | ⟨g, cap, cur, e1, e2, e3, e4, e5, e6, e7⟩
  · exact ⟨none, 0, by rw [h0, h1], rfl, hb, fun hp => by omega⟩
  · refine ⟨_, cap, e1, rfl, hb, fun _ => ⟨g, 0, rfl, fun i hi => ?_⟩⟩
    obtain ⟨q1, q2⟩ := cellsR_at L i hi
    have hc : ∀ j, j < L.length * 2 → w.cell? ⟨g, 0 + j, none⟩ = (L.flatMap cellsR)[j]? := fun j hj => by
      have h2 : cur[j]? = (cur.toList.take (L.length * 2))[j]? := by rw [List.getElem?_take_of_lt hj, Array.getElem?_toList]
      rw [Nat.zero_add, ← e7, ← h2]
      simp [World.cell?, e3]
    refine ⟨by rw [hc _ (by omega), q1], ?_⟩
    rw [show 0 + i * 2 + 1 = 0 + (i * 2 + 1) by omega, hc _ (by omega), q2]
theorem takeR (L : EntL) {k : Nat} (h : k < L.length) : L.take (k + 1) = L.take k ++ [L.getD k ent0] := by
  rw [List.take_add_one, List.getElem?_eq_getElem h]
  simp [List.getD, h]
set_option maxRecDepth 100000 in
set_option maxHeartbeats 2000000 in
theorem of_any (a : Option Addr) (n cap : Nat) (L : EntL) (w : World) (hr : RowD w a n L) (hn : n ≤ 100000) :
    Calls Try.prog 8 #[.slice a n cap] w fun e w' => (∃ sa sc, e = .returned (.slice sa n sc) ∧ RowRf w' sa n L) ∧ Below w.heap.size w w' := by
  have HR := Lib.hid hr
  have HN := Lib.hid hn
  have HL : Hid (L.length = n) := Lib.hid hr.1
  have HLT : Hid (∀ x ∈ L, x.1 < 4294967296) := Lib.hid hr.2.1
  obtain ⟨i0, hI⟩ := info_parts info_ent
  have HI := Lib.hid hI
  clear hr hn hI
  go_enter Try.func8, Try.ntmps8
  go_wp2_with fail
  go_loopw [3, 4] (fun v iv wr => ∃ k : Nat, iv = .int .i64 (k : Int) ∧ k ≤ n ∧ OwnR w.heap.size wr v (L.take k) ∧ Below w.heap.size w wr) (fun _ iv _ => n - (intOf iv).toNat)
  case atStart => exact ⟨0, rfl, Nat.zero_le _, ownR_nil _ _, Below.refl _ _⟩
  case round =>
    obtain ⟨k, rfl, hk, ho, hb⟩ := hrel
    have HO := Lib.hid ho
    have HB := Lib.hid hb
    clear ho hb
    by_cases hlt : k < n
    · have t1 : decide ((k : Int) < (n : Int)) = true := by simp; omega
      have t1' : decide (k < n) = true := by simpa using hlt
      have hR := HR.out.below HB.out
      obtain ⟨b, off, nd, nm, rfl, hL, hnd, c1, c2⟩ := hR.at hlt
      have j0 : (0 : Int) ≤ (k : Int) := by omega
      have j1 : (k : Int) < (n : Int) := by omega
      have u2 : IntKind.i64.wrap (nd : Int) = (nd : Int) := by rw [IntKind.wrap_i64]; omega
      obtain ⟨k1, hk1⟩ : ∃ x, k + 1 = x := ⟨_, rfl⟩
      have e1 : (k : Int) + 1 = (k1 : Int) := by omega
      have u1 : IntKind.i64.wrap (k1 : Int) = (k1 : Int) := by have := HN.out; rw [IntKind.wrap_i64]; omega
      have HT := Lib.hid (takeR L (k := k) (by rw [HL.out]; exact hlt))
      rw [hL, hk1] at HT
      have HTL : Hid ((L.take k).length = k) := Lib.hid (by rw [List.length_take, HL.out]; omega)
      have HK : Hid (k < n ∧ k1 = k + 1) := Lib.hid ⟨hlt, by omega⟩
      have hown : (wr.alloc (.cells #[.int .i64 (nd : Int), .string nm] 40)).drew.ownsRow w.heap.size 40 2 u3 k ((L.take k).flatMap cellsR) := by
        have := ownR_bel HO.out (bel_alloc (Below.refl _ wr) (.cells #[.int .i64 (nd : Int), .string nm] 40)).drew
        unfold OwnR at this
        rw [HTL.out] at this
        exact this
      have hkH : (wr.alloc (.cells #[.int .i64 (nd : Int), .string nm] 40)).drew.heap.size = wr.heap.size + 1 := by simp
      have HKK : Hid (k + 1 ≤ maxLen ∧ (k + 1) * 24 ≤ 140737488355328 ∧ (wr.alloc (.cells #[.int .i64 (nd : Int), .string nm] 40)).drew.heap.size = wr.heap.size + 1 ∧ w.heap.size ≤ (wr.alloc (.cells #[.int .i64 (nd : Int), .string nm] 40)).drew.heap.size) := Lib.hid (by
        have h1 := HN.out
        have h2 := HB.out.size
        rw [hkH]
        unfold maxLen
        clear u1 u2
        omega)
      obtain ⟨hi, hz0, hz1, hz2⟩ := HI.out
      clear hR hL hlt hk hk1 hkH
      go_upto_region 5 with fail
      go_region_law (refine step_append_lies _ (by rfl) _ _ _ (by rfl) w.heap.size 40 i0 _ 2 24 Try.underlying30 hi hz0 hz1 hz2 rfl (by decide) _ k _ (by rfl) hown ⟨wr.heap.size, 0, none⟩ 1 1 [.int .i64 (nd : Int), .string nm] (by rfl) (by rfl) (World.news_of_block (cs := #[.int .i64 (nd : Int), .string nm]) (t := 40) (fr := (0, 0)) (heap_alloc_new wr _)) (by simp [Value.oneCell']) Nat.one_pos HKK.out.1 HKK.out.2.1 HKK.out.2.2.2 (wr.heap.size + 1) HKK.out.2.2.1 ?_; intro g2 c2' w5 hown1 hgrow hat hlt3; have hb5 : Below w.heap.size wr w5 := ((Below.refl w.heap.size wr).alloc HB.out.size _).drew.trans ((Below.refl w.heap.size _).grown hgrow HKK.out.2.2.2 (fun q hq => (hown.lt q hq).1)); have HB5 := Lib.hid (HB.out.trans hb5); have HO5 := Lib.hid hown1; clear hgrow hat hb5 hown1)
      all_goals
        have ho5 : OwnR w.heap.size w5 (.slice (some ⟨g2, 0, none⟩) (k + 1) c2') (L.take k1) := by
          have h := HO5.out
          unfold OwnR
          rw [HT.out, List.flatMap_append, List.length_append, HTL.out]
          exact h
        have HO6 := Lib.hid ho5
        clear ho5 hown hlt3 hi hz0 hz1 hz2 c1 c2 u2
        go_wp2_with fail
        clear e1 u1
        go_roundw
        case rel => exact ⟨k1, rfl, by have := HK.out; omega, HO6.out, HB5.out⟩
        case measure => have := HK.out; simp [intOf]; omega
    · obtain rfl : k = n := by omega
      have t1 : decide ((k : Int) < (k : Int)) = false := by simp
      have t1' : decide (k < k) = false := by simp
      have ho := HO.out
      rw [← HL.out, List.take_length] at ho
      obtain ⟨sa, sc, rfl, hrow⟩ := ownR_row ho HLT.out
      rw [HL.out] at hrow ⊢
      have HRW := Lib.hid hrow
      clear ho hrow hlt hk HO
      go_wp2_with fail
      go_ret
      exact ⟨⟨sa, sc, rfl, HRW.out⟩, HB.out⟩
end Go.Proofs.Ytdpkinppkhnjkaa
