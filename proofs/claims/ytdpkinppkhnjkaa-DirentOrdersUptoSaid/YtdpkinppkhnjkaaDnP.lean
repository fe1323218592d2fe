/- dirent: names in order as lists; append of strings; an entry that is none. -/
import Derived.Test.YtdpkinppkhnjkaaStab
import Derived.Test.YtdpkinppkhnjkaaNHead
import Derived.Maps.AppendAt
import Derived.Laws.AppendOwnNone
namespace Go.Proofs.Ytdpkinppkhnjkaa
open Go.RowKit

def seqL (f : Seq') (N : Nat) : List ByteArray := (List.range N).map f
theorem seqL_len (f : Seq') (N : Nat) : (seqL f N).length = N := by simp [seqL]
theorem seqL_at (f : Seq') {N k : Nat} (h : k < N) : (seqL f N).getD k ByteArray.empty = f k := by simp [seqL, List.getD, h]
theorem seqL_of (S : List ByteArray) : seqL (fun k => S.getD k ByteArray.empty) S.length = S := by
  apply List.ext_getElem (by simp [seqL])
  intro i h1 h2
  simp [seqL, List.getD, h2]
def trn (i j k : Nat) : Nat := if k = i then j else if k = j then i else k
theorem trn_trn (i j k : Nat) : trn i j (trn i j k) = k := by
  unfold trn
  split <;> (try split) <;> (try split) <;> (try split) <;> omega
theorem trn_lt {i j k N : Nat} (hi : i < N) (hj : j < N) (hk : k < N) : trn i j k < N := by
  unfold trn
  split
  · exact hj
  · split
    · exact hi
    · exact hk
theorem swp_perm (g : Seq') {i j N : Nat} (hi : i < N) (hj : j < N) : (seqL (swp g i j) N).Perm (seqL g N) := by
  have e : seqL (swp g i j) N = ((List.range N).map (trn i j)).map g := by
    unfold seqL
    rw [List.map_map]
    apply List.map_congr_left
    intro k _
    simp only [Function.comp, swp, trn]
    split
    · rfl
    · split
      · rfl
      · rfl
  have hnd : ((List.range N).map (trn i j)).Nodup := by
    unfold List.Nodup
    rw [List.pairwise_map]
    have h0 : (List.range N).Nodup := List.nodup_range
    unfold List.Nodup at h0
    refine h0.imp fun {a b} hab he => hab ?_
    rw [← trn_trn i j a, he, trn_trn]
  have hp : ((List.range N).map (trn i j)).Perm (List.range N) := by
    rw [List.perm_ext_iff_of_nodup hnd List.nodup_range]
    intro x
    rw [List.mem_map, List.mem_range]
    constructor
    · rintro ⟨y, hy, rfl⟩
      exact trn_lt hi hj (List.mem_range.1 hy)
    · intro hx
      exact ⟨trn i j x, List.mem_range.2 (trn_lt hi hj hx), trn_trn i j x⟩
  rw [e]
  exact hp.map g
theorem prm_perm {f g : Seq'} {N : Nat} (h : Prm 0 N f g) : (seqL g N).Perm (seqL f N) := by
  induction h with
  | refl => exact .refl _
  | swap i j hi hj _ ih => exact (swp_perm _ hi.2 hj.2).trans ih
theorem srt_pair {f : Seq'} {N : Nat} (h : Srt f 0 N) : (seqL f N).Pairwise leS := by
  unfold seqL
  rw [List.pairwise_map]
  exact List.pairwise_lt_range.imp_of_mem fun {a b} _ hb hab => h a b (Nat.zero_le _) hab (List.mem_range.1 hb)
theorem srt_one {S R : List ByteArray} (h : S.Perm R) (h1 : S.Pairwise leS) (h2 : R.Pairwise leS) : S = R :=
  List.Perm.eq_of_pairwise (fun _ _ _ _ h1 h2 => leS_antisymm h1 h2) h1 h2 h
/-- Entries as data. -/
abbrev EntL := List (Nat × ByteArray)
def ent0 : Nat × ByteArray := (0, ByteArray.empty)
/-- The names of entries that are some. -/
def nmL (L : EntL) : List ByteArray := (L.filter fun x => x.1 != 0).map (·.2)
theorem nmL_step (L : EntL) {k : Nat} (h : k < L.length) : nmL (L.take (k + 1)) = nmL (L.take k) ++ (if (L.getD k ent0).1 = 0 then [] else [(L.getD k ent0).2]) := by
  have e : L.getD k ent0 = L[k] := by simp [List.getD, h]
  rw [e, List.take_add_one, List.getElem?_eq_getElem h]
  unfold nmL
  rw [List.filter_append, List.map_append]
  congr 1
  by_cases c : L[k].1 = 0
  · simp [c]
  · simp [c]
theorem nmL_all (L : EntL) : nmL (L.take L.length) = nmL L := by rw [List.take_length]
theorem nmL_le (L : EntL) : (nmL L).length ≤ L.length := by
  unfold nmL
  rw [List.length_map]
  exact List.length_filter_le _ _
theorem nmL_mem {L : EntL} {s : ByteArray} (h : s ∈ nmL L) : ∃ x ∈ L, x.2 = s := by
  unfold nmL at h
  rw [List.mem_map] at h
  obtain ⟨x, hx, rfl⟩ := h
  exact ⟨x, (List.mem_filter.1 hx).1, rfl⟩
/-- Where entries stand. -/
def RowD (w : World) (a : Option Addr) (n : Nat) (L : EntL) : Prop :=
  L.length = n ∧ (∀ x ∈ L, x.1 < 4294967296) ∧ (0 < n → ∃ b off, a = some ⟨b, off, none⟩ ∧ ∀ i, i < n → w.cell? ⟨b, off + i * 2, none⟩ = some (.int .u32 ((L.getD i ent0).1 : Int)) ∧ w.cell? ⟨b, off + i * 2 + 1, none⟩ = some (.string (L.getD i ent0).2))
theorem RowD.below {w x : World} {a : Option Addr} {n : Nat} {L : EntL} (h : RowD w a n L) (hb : Below w.heap.size w x) : RowD x a n L := by
  obtain ⟨h1, h2, h3⟩ := h
  refine ⟨h1, h2, fun h0 => ?_⟩
  obtain ⟨b, off, e, hc⟩ := h3 h0
  exact ⟨b, off, e, fun i hi => ⟨pt_stepS (hc i hi).1 hb, pt_stepS (hc i hi).2 hb⟩⟩
theorem RowD.at {w : World} {a : Option Addr} {n : Nat} {L : EntL} (h : RowD w a n L) {k : Nat} (hk : k < n) :
    ∃ b off nd nm, a = some ⟨b, off, none⟩ ∧ L.getD k ent0 = (nd, nm) ∧ nd < 4294967296 ∧ w.cell? ⟨b, off + k * 2, none⟩ = some (.int .u32 (nd : Int)) ∧ w.cell? ⟨b, off + k * 2 + 1, none⟩ = some (.string nm) := by
  obtain ⟨h1, h2, h3⟩ := h
  obtain ⟨b, off, e, hc⟩ := h3 (by omega)
  obtain ⟨c1, c2⟩ := hc k hk
  refine ⟨b, off, _, _, e, rfl, ?_, c1, c2⟩
  have e2 : L.getD k ent0 = L[k]'(by omega) := by simp [List.getD, h1, hk]
  have := h2 (L[k]'(by omega)) (List.getElem_mem _)
  rw [← e2] at this
  exact this
theorem strs_bel {B : Nat} {w w' : World} {sv : Value} {l : List ByteArray} (h : StrsOwn B w sv l) (hb : Below w.heap.size w w') : StrsOwn B w' sv l :=
  World.ownsRow.kept (row := none) h ⟨hb.os, hb.tape, hb.output, hb.size, fun b hb' _ => hb.block b hb'⟩ (by cases hv : sv.ownBlock <;> simp)
theorem strs_base {B B' : Nat} {w : World} {sv : Value} {l : List ByteArray} (h : StrsOwn B w sv l) (hB : B' ≤ B) : StrsOwn B' w sv l := by
  refine ⟨h.1, ?_⟩
  rcases h.2 with h0 | ⟨g, cap, cur, h1, h2, h3⟩
  · exact .inl h0
  · exact .inr ⟨g, cap, cur, h1, Nat.le_trans hB h2, h3⟩
theorem wpList_appS {w : World} {ops : Array Oper} {rest : List Oper} {o : Oper} {a : Act} {Q : Exit → Act → World → Prop} (hgd : o.guard = none) (s x : Operand)
    (ho : o.op = .call { callee := .builtin .append, args := #[s, x], argTypes := #[27, 27] })
    (B : Nat) (sv : Value) (l : List ByteArray) (hs : a.eval s = sv) (hown : StrsOwn B w sv l) (xa : Option Addr) (m c : Nat) (cs : List ByteArray) (hx : a.eval x = .slice xa m c)
    (hm : cs.length = m) (hcell : 0 < m → ∃ b off, xa = some ⟨b, off, none⟩ ∧ ∀ i, i < m → w.cell? ⟨b, off + i, none⟩ = some (.string (cs.getD i ByteArray.empty))) (hc : xa = none → c = 0) (hB : B ≤ w.heap.size) (hlen : l.length + m ≤ 1000000)
    (h : ∀ v' w', StrsOwn B w' v' (l ++ cs) → Below B w w' → wpList Try.prog ops Q rest (a.put o.dst v') w') : wpList Try.prog ops Q (o :: rest) a w := by
  obtain ⟨i0, hi, hz0, hz1, hz2⟩ := info_parts info_str
  cases xa with
  | none =>
    have h0 : m = 0 := by
      rcases Nat.eq_zero_or_pos m with h | h
      · exact h
      · obtain ⟨_, _, h1, _⟩ := hcell h
        cases h1
    obtain rfl := hc rfl
    subst h0
    obtain rfl : cs = [] := List.eq_nil_of_length_eq_zero hm
    refine wpList_append_own_none hgd s x 27 ho B 9 i0 1 Try.underlying27 hi sv _ _ hs hown hx ?_
    refine h sv w ?_ (Below.refl _ _)
    rw [List.append_nil]
    exact hown
  | some ad =>
    refine wpList_append_own_at w hgd s x 27 ho B 9 i0 (.string ⟨#[]⟩) 1 16 Try.underlying27 hi hz0 hz1 hz2 rfl (by decide) sv _ _ hs hown ad m c (cs.map Value.string) hx (by simp [hm]) ?_ ?_ (by unfold maxLen; omega) (by omega) hB ?_
    · intro j u hj
      have hjm : j < m := by
        rcases Nat.lt_or_ge j m with h | h
        · exact h
        · rw [List.getElem?_eq_none (by simp; omega)] at hj; cases hj
      obtain ⟨b, off, h1, h2⟩ := hcell (by omega)
      cases h1
      have h3 := h2 j hjm
      rw [List.getElem?_map, List.getElem?_eq_getElem (by omega)] at hj
      simp only [Option.map_some, Option.some.injEq] at hj
      rw [show cs.getD j ByteArray.empty = cs[j]'(by omega) by simp [List.getD, hm, hjm]] at h3
      rw [← hj]
      unfold Addr.add
      split
      · rename_i h0; subst h0; exact h3
      · exact h3
    · intro u hu
      rw [List.mem_map] at hu
      obtain ⟨y, _, rfl⟩ := hu
      rfl
    · intro v' w' h2 h3 _ h5
      refine h v' w' ?_ ((Below.refl B w).grown h3 hB (fun k hk => (World.ownsRow.lt hown k hk).1))
      unfold StrsOwn
      rw [List.map_append, List.length_append, hm]; exact h2
theorem none_any (n : Nat) (s : ByteArray) (w : World) :
    Calls Try.prog 12 #[.agg #[.int .u32 (n : Int), .string s]] w fun e w' => e = .returned (.bool (n == 0)) ∧ Below w.heap.size w w' := by
  obtain ⟨t, ht⟩ : ∃ t, (n == 0) = t := ⟨_, rfl⟩
  rw [ht]
  have t1 : ((n : Int) == 0) = t := by rw [← ht, Bool.eq_iff_iff]; simp
  have hb := bel_alloc (Below.refl _ w) (.cells #[.int .u32 (n : Int), .string s] 26)
  have HB := Lib.hid hb
  clear hb ht
  go_enter Try.func12, Try.ntmps12
  go_wp2
  go_ret
  exact ⟨rfl, HB.out⟩
end Go.Proofs.Ytdpkinppkhnjkaa
