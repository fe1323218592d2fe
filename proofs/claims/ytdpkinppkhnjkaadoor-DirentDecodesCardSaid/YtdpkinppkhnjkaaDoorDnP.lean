/- dirent: names in order as lists; append of strings; an entry that is none. -/
import Derived.Test.YtdpkinppkhnjkaaDoorStab
import Derived.Test.YtdpkinppkhnjkaaDoorNHead
import Derived.Maps.AppendAt
import Derived.Laws.AppendOwnNone
namespace Go.Proofs.YtdpkinppkhnjkaaDoor
open Go.RowKit

def seqL (f : Seq') (N : Nat) : List ByteArray := (List.range N).map f
theorem seqL_len (f : Seq') (N : Nat) : (seqL f N).length = N := by simp [seqL]
theorem seqL_at (f : Seq') {N k : Nat} (h : k < N) : (seqL f N).getD k ByteArray.empty = f k := by simp [seqL, List.getD, h]
theorem seqL_of (S : List ByteArray) : seqL (fun k => S.getD k ByteArray.empty) S.length = S := by
  apply List.ext_getElem (by simp [seqL])
  intro i h1 h2
  simp [seqL, List.getD, h2]
def trn (i j k : Nat) : Nat := if k = i then j else if k = j then i else k
theorem trn_trn (i j k : Nat) : trn i j (trn i j k) = k := by
  unfold trn
  split <;> (try split) <;> (try split) <;> (try split) <;> omega
theorem trn_lt {i j k N : Nat} (hi : i < N) (hj : j < N) (hk : k < N) : trn i j k < N := by
  unfold trn
  split
  · exact hj
  · split
    · exact hi
    · exact hk
theorem swp_perm (g : Seq') {i j N : Nat} (hi : i < N) (hj : j < N) : (seqL (swp g i j) N).Perm (seqL g N) := by
  have e : seqL (swp g i j) N = ((List.range N).map (trn i j)).map g := by
    unfold seqL
    rw [List.map_map]
    apply List.map_congr_left
    intro k _
    simp only [Function.comp, swp, trn]
    split
    · rfl
    · split
      · rfl
      · rfl
  have hnd : ((List.range N).map (trn i j)).Nodup := by
    unfold List.Nodup
    rw [List.pairwise_map]
    have h0 : (List.range N).Nodup := List.nodup_range
    unfold List.Nodup at h0
    refine h0.imp fun {a b} hab he => hab ?_
    rw [← trn_trn i j a, he, trn_trn]
  have hp : ((List.range N).map (trn i j)).Perm (List.range N) := by
    rw [List.perm_ext_iff_of_nodup hnd List.nodup_range]
    intro x
    rw [List.mem_map, List.mem_range]
    constructor
    · rintro ⟨y, hy, rfl⟩
      exact trn_lt hi hj (List.mem_range.1 hy)
    · intro hx
      exact ⟨trn i j x, List.mem_range.2 (trn_lt hi hj hx), trn_trn i j x⟩
  rw [e]
  exact hp.map g
theorem prm_perm {f g : Seq'} {N : Nat} (h : Prm 0 N f g) : (seqL g N).Perm (seqL f N) := by
  induction h with
  | refl => exact .refl _
  | swap i j hi hj _ ih => exact (swp_perm _ hi.2 hj.2).trans ih
theorem srt_pair {f : Seq'} {N : Nat} (h : Srt f 0 N) : (seqL f N).Pairwise leS := by
  unfold seqL
  rw [List.pairwise_map]
  exact List.pairwise_lt_range.imp_of_mem fun {a b} _ hb hab => h a b (Nat.zero_le _) hab (List.mem_range.1 hb)
theorem srt_one {S R : List ByteArray} (h : S.Perm R) (h1 : S.Pairwise leS) (h2 : R.Pairwise leS) : S = R :=
  List.Perm.eq_of_pairwise (fun _ _ _ _ h1 h2 => leS_antisymm h1 h2) h1 h2 h
/-- Entries as data. -/
abbrev EntL := List (Nat × ByteArray)
def ent0 : Nat × ByteArray := (0, ByteArray.empty)
/-- The names of entries that are some. -/
def nmL (L : EntL) : List ByteArray := (L.filter fun x => x.1 != 0).map (·.2)
theorem nmL_step (L : EntL) {k : Nat} (h : k < L.length) : nmL (L.take (k + 1)) = nmL (L.take k) ++ (if (L.getD k ent0).1 = 0 then [] else [(L.getD k ent0).2]) := by
  have e : L.getD k ent0 = L[k] := by simp [List.getD, h]
  rw [e, List.take_add_one, List.getElem?_eq_getElem h]
  unfold nmL
  rw [List.filter_append, List.map_append]
  congr 1
  by_cases c : L[k].1 = 0
  · simp [c]
  · simp [c]
theorem nmL_all (L : EntL) : nmL (L.take L.length) = nmL L := by rw [List.take_length]
theorem nmL_le (L : EntL) : (nmL L).length ≤ L.length := by
  unfold nmL
  rw [List.length_map]
  exact List.length_filter_le _ _
theorem nmL_mem {L : EntL} {s : ByteArray} (h : s ∈ nmL L) : ∃ x ∈ L, x.2 = s := by
  unfold nmL at h
  rw [List.mem_map] at h
  obtain ⟨x, hx, rfl⟩ := h
  exact ⟨x, (List.mem_filter.1 hx).1, rfl⟩
/-- Where entries stand. -/
def RowD (w : World) (a : Option Addr) (n : Nat) (L : EntL) : Prop :=
  L.length = n ∧ (∀ x ∈ L, x.1 < 4294967296) ∧ (0 < n → ∃ b off, a = some ⟨b, off, none⟩ ∧ ∀ i, i < n → w.cell? ⟨b, off + i * 2, none⟩ = some (.int .u32 ((L.getD i ent0).1 : Int)) ∧ w.cell? ⟨b, off + i * 2 + 1, none⟩ = some (.string (L.getD i ent0).2))
theorem RowD.below {w x : World} {a : Option Addr} {n : Nat} {L : EntL} (h : RowD w a n L) (hb : Below w.heap.size w x) : RowD x a n L := by
  obtain ⟨h1, h2, h3⟩ := h
  refine ⟨h1, h2, fun h0 => ?_⟩
  obtain ⟨b, off, e, hc⟩ := h3 h0
  exact ⟨b, off, e, fun i hi => ⟨pt_stepS (hc i hi).1 hb, pt_stepS (hc i hi).2 hb⟩⟩
theorem RowD.at {w : World} {a : Option Addr} {n : Nat} {L : EntL} (h : RowD w a n L) {k : Nat} (hk : k < n) :
    ∃ b off nd nm, a = some ⟨b, off, none⟩ ∧ L.getD k ent0 = (nd, nm) ∧ nd < 4294967296 ∧ w.cell? ⟨b, off + k * 2, none⟩ = some (.int .u32 (nd : Int)) ∧ w.cell? ⟨b, off + k * 2 + 1, none⟩ = some (.string nm) := by
  obtain ⟨h1, h2, h3⟩ := h
  obtain ⟨b, off, e, hc⟩ := h3 (by omega)
  obtain ⟨c1, c2⟩ := hc k hk
  refine ⟨b, off, _, _, e, rfl, ?_, c1, c2⟩
  have e2 : L.getD k ent0 = L[k]'(by omega) := by simp [List.getD, h1, hk]
  have := h2 (L[k]'(by omega)) (List.getElem_mem _)
  rw [← e2] at this
  exact this
theorem strs_bel {B : Nat} {w w' : World} {sv : Value} {l : List ByteArray} (h : StrsOwn B w sv l) (hb : Below w.heap.size w w') : StrsOwn B w' sv l :=
  World.ownsRow.kept (row := none) h ⟨hb.os, hb.tape, hb.output, hb.size, fun b hb' _ => hb.block b hb'⟩ (by cases hv : sv.ownBlock <;> simp)
theorem strs_base {B B' : Nat} {w : World} {sv : Value} {l : List ByteArray} (h : StrsOwn B w sv l) (hB : B' ≤ B) : StrsOwn B' w sv l := by
  refine ⟨h.1, ?_⟩
  rcases h.2 with h0 | ⟨g, cap, cur, h1, h2, h3⟩
  · exact .inl h0
  · exact .inr ⟨g, cap, cur, h1, Nat.le_trans hB h2, h3⟩
theorem wpList_appS {w : World} {ops : Array Oper} {rest : List Oper} {o : Oper} {a : Act} {Q : Exit → Act → World → Prop} (hgd : o.guard = none) (s x : Operand)
    (ho : o.op = .call { callee := .builtin .append, args := #[s, x], argTypes := #[35, 35] })
    (B : Nat) (sv : Value) (l : List ByteArray) (hs : a.eval s = sv) (hown : StrsOwn B w sv l) (xa : Option Addr) (m c : Nat) (cs : List ByteArray) (hx : a.eval x = .slice xa m c)
    (hm : cs.length = m) (hcell : 0 < m → ∃ b off, xa = some ⟨b, off, none⟩ ∧ ∀ i, i < m → w.cell? ⟨b, off + i, none⟩ = some (.string (cs.getD i ByteArray.empty))) (hc : xa = none → c = 0) (hB : B ≤ w.heap.size) (hlen : l.length + m ≤ 1000000)
    (h : ∀ v' w', StrsOwn B w' v' (l ++ cs) → Below B w w' → wpList Tryd.prog ops Q rest (a.put o.dst v') w') : wpList Tryd.prog ops Q (o :: rest) a w := by
  obtain ⟨i0, hi, hz0, hz1, hz2⟩ := info_parts info_str
  cases xa with
  | none =>
    have h0 : m = 0 := by
      rcases Nat.eq_zero_or_pos m with h | h
      · exact h
      · obtain ⟨_, _, h1, _⟩ := hcell h
        cases h1
    obtain rfl := hc rfl
    subst h0
    obtain rfl : cs = [] := List.eq_nil_of_length_eq_zero hm
    refine wpList_append_own_none hgd s x 35 ho B 9 i0 1 Tryd.underlying35 hi sv _ _ hs hown hx ?_
    refine h sv w ?_ (Below.refl _ _)
    rw [List.append_nil]
    exact hown
  | some ad =>
    refine wpList_append_own_at w hgd s x 35 ho B 9 i0 (.string ⟨#[]⟩) 1 16 Tryd.underlying35 hi hz0 hz1 hz2 rfl (by decide) sv _ _ hs hown ad m c (cs.map Value.string) hx (by simp [hm]) ?_ ?_ (by unfold maxLen; omega) (by omega) hB ?_
    · intro j u hj
      have hjm : j < m := by
        rcases Nat.lt_or_ge j m with h | h
        · exact h
        · rw [List.getElem?_eq_none (by simp; omega)] at hj; cases hj
      obtain ⟨b, off, h1, h2⟩ := hcell (by omega)
      cases h1
      have h3 := h2 j hjm
      rw [List.getElem?_map, List.getElem?_eq_getElem (by omega)] at hj
      simp only [Option.map_some, Option.some.injEq] at hj
      rw [show cs.getD j ByteArray.empty = cs[j]'(by omega) by simp [List.getD, hm, hjm]] at h3
      rw [← hj]
      unfold Addr.add
      split
      · rename_i h0; subst h0; exact h3
      · exact h3
    · intro u hu
      rw [List.mem_map] at hu
      obtain ⟨y, _, rfl⟩ := hu
      rfl
    · intro v' w' h2 h3 _ h5
      refine h v' w' ?_ ((Below.refl B w).grown h3 hB (fun k hk => (World.ownsRow.lt hown k hk).1))
      unfold StrsOwn
      rw [List.map_append, List.length_append, hm]; exact h2
theorem none_any (n : Nat) (s : ByteArray) (w : World) :
    Calls Tryd.prog 17 #[.agg #[.int .u32 (n : Int), .string s]] w fun e w' => e = .returned (.bool (n == 0)) ∧ Below w.heap.size w w' := by
  obtain ⟨t, ht⟩ : ∃ t, (n == 0) = t := ⟨_, rfl⟩
  rw [ht]
  have t1 : ((n : Int) == 0) = t := by rw [← ht, Bool.eq_iff_iff]; simp
  have hb := nbel_alloc (Below.refl _ w) (.cells #[.int .u32 (n : Int), .string s] 26)
  have HB := Lib.hid hb
  clear hb ht
  go_enter Tryd.func17, Tryd.ntmps17
  go_wp2
  go_ret
  exact ⟨rfl, HB.out⟩
end Go.Proofs.YtdpkinppkhnjkaaDoor

namespace Go.Proofs.YtdpkinppkhnjkaaDoor
open Go.RowKit

/-- A sorted list of the same names. -/
def NamesRet (w : World) (L : List ByteArray) (e : Ending) (w' : World) : Prop :=
  ∃ sa sc S, e = .returned (.slice sa S.length sc) ∧ RowS w' sa S.length sc S ∧ S.Perm L ∧ S.Pairwise leS ∧ Below w.heap.size w w'
set_option maxRecDepth 100000 in
set_option maxHeartbeats 1000000 in
theorem sortNil (w : World) :
    Calls Tryd.prog 18 #[.slice none 0 0, .func (Fn.func 19) #[] #[]] w fun e w' => e = .returned (.tuple #[]) ∧ w' = w := by
  have H1 : ∀ x : World, Calls Tryd.prog 34 #[.slice none 0 0, .int .i64 0, .int .i64 0, .func (Fn.func 19) #[] #[]] x fun e w' => e = .returned (.tuple #[]) ∧ w' = x := by
    intro x
    go_enter Tryd.func34, Tryd.ntmps34
    go_wp2_with fail
    go_loopw [8] (fun iv wr => iv = .int .i64 1 ∧ wr = x) (fun _ _ => 0)
    case atStart => exact ⟨rfl, rfl⟩
    case round =>
      obtain ⟨rfl, rfl⟩ := hrel
      go_wp2_with fail
      exact bodyPost_end (results_none rfl _ _ _) rfl ⟨rfl, rfl⟩
  have H2 : Hid (∀ x : World, Calls Tryd.prog 28 #[.slice none 0 0, .int .i64 0, .func (Fn.func 19) #[] #[]] x fun e w' => e = .returned (.tuple #[]) ∧ w' = x) := Lib.hid (by
    intro x
    have HI := Lib.hid H1
    clear H1
    go_enter Tryd.func28, Tryd.ntmps28
    go_wp2_with fail
    go_loopw [7, 8] (fun av bv wr => av = .int .i64 0 ∧ bv = .int .i64 20 ∧ wr = x) (fun _ _ _ => 0)
    case atStart => exact ⟨rfl, rfl, rfl⟩
    case round =>
      obtain ⟨rfl, rfl, rfl⟩ := hrel
      go_wp2_with fail
      ((with_reducible refine (HI.out _).mono ?_))
      rintro e w2 ⟨rfl, rfl⟩
      go_wp2_with fail
      go_loopw [6, 7, 8, 9] (fun sv _ _ _ wr => sv = .int .i64 20 ∧ wr = w2) (fun _ _ _ _ _ => 0)
      case atStart => exact ⟨rfl, rfl⟩
      case round =>
        obtain ⟨rfl, rfl⟩ := hrel
        go_wp2_with fail
        exact bodyPost_end (results_none rfl _ _ _) rfl ⟨rfl, rfl⟩)
  clear H1
  go_enter Tryd.func18, Tryd.ntmps18
  go_wp2_with fail
  ((with_reducible refine (H2.out _).mono ?_))
  rintro e w2 ⟨rfl, rfl⟩
  go_wp2_with fail
  exact bodyPost_end (results_none rfl _ _ _) rfl ⟨rfl, rfl⟩
/-- Sorting names of the call's own. -/
theorem sort_own (B : Nat) (w : World) (v : Value) (l : List ByteArray) (h : StrsOwn B w v l) (hn : l.length ≤ 100000) (hz : ∀ s ∈ l, s.size ≤ 70368744177664) :
    Calls Tryd.prog 18 #[v, .func (Fn.func 19) #[] #[]] w fun e w' => e = .returned (.tuple #[]) ∧ ∃ sa sc S, v = .slice sa S.length sc ∧ RowS w' sa S.length sc S ∧ S.Perm l ∧ S.Pairwise leS ∧ Below B w w' := by
  rcases h.2 with ⟨h0, h1⟩ | ⟨g, cap, cur, e1, e2, e3, e4, e5, e6, e7⟩
  · obtain rfl : l = [] := List.eq_nil_of_length_eq_zero h1
    subst h0
    refine (sortNil w).mono ?_
    rintro e w' ⟨rfl, rfl⟩
    exact ⟨rfl, none, 0, [], rfl, ⟨rfl, Nat.le_refl _, Nat.zero_le _, fun _ => rfl, fun h => absurd h (Nat.lt_irrefl _)⟩, .refl _, .nil, Below.refl _ _⟩
  · subst e1
    have hs : SqAt g l.length (fun k => l.getD k ByteArray.empty) w := by
      refine ⟨cur, e3, by omega, fun k hk => ?_⟩
      have h2 : cur[k]? = (cur.toList.take (l.length * 1))[k]? := by rw [List.getElem?_take_of_lt (by omega), Array.getElem?_toList]
      rw [h2, e7]
      simp [List.getD, hk]
    refine (sortStable_any g l.length cap _ w hs hn (fun k _ hk => ?_)).mono ?_
    · have e : l.getD k ByteArray.empty = l[k] := by simp [List.getD, hk]
      rw [e]
      exact hz _ (List.getElem_mem _)
    · rintro e w' ⟨rfl, ⟨f', hs', hp, ho⟩, hb⟩
      have hl : (seqL f' l.length).length = l.length := seqL_len _ _
      refine ⟨rfl, _, cap, seqL f' l.length, by rw [hl], ⟨rfl, by omega, e5, (fun h => by cases h), fun _ => ⟨g, 0, rfl, fun i hi => ?_⟩⟩, ?_, srt_pair ho, hb.mono e2⟩
      · rw [hl] at hi
        rw [Nat.zero_add, (hs'.cell hi).1, seqL_at f' hi]
      · have h1 := prm_perm hp
        rw [seqL_of] at h1
        exact h1
set_option maxRecDepth 100000 in
set_option maxHeartbeats 2000000 in
theorem names_any (a : Option Addr) (n cap : Nat) (L : EntL) (w : World) (hr : RowD w a n L) (hn : n ≤ 100000) (hz : ∀ x ∈ L, x.2.size ≤ 70368744177664) :
    Calls Tryd.prog 7 #[.slice a n cap] w (NamesRet w (nmL L)) := by
  have HR := Lib.hid hr
  have HN := Lib.hid hn
  have HL : Hid (L.length = n) := Lib.hid hr.1
  have HZ : Hid (∀ s ∈ nmL L, s.size ≤ 70368744177664) := Lib.hid fun s hs => by
    obtain ⟨x, hx, rfl⟩ := nmL_mem hs
    exact hz x hx
  clear hr hn hz
  go_enter Tryd.func7, Tryd.ntmps7
  go_wp2_with fail
  go_loopw [3, 8] (fun v iv wr => ∃ k : Nat, iv = .int .i64 (k : Int) ∧ k ≤ n ∧ StrsOwn w.heap.size wr v (nmL (L.take k)) ∧ Below w.heap.size w wr) (fun _ iv _ => n - (intOf iv).toNat)
  case atStart => exact ⟨0, rfl, Nat.zero_le _, strs_nil _ _, Below.refl _ _⟩
  case round =>
    obtain ⟨k, rfl, hk, ho, hb⟩ := hrel
    have HO := Lib.hid ho
    have HB := Lib.hid hb
    clear ho hb
    by_cases hlt : k < n
    · have t1 : decide ((k : Int) < (n : Int)) = true := by simp; omega
      have t1' : decide (k < n) = true := by simpa using hlt
      have hR := HR.out.below HB.out
      obtain ⟨b, off, nd, nm, rfl, hL, hnd, c1, c2⟩ := hR.at hlt
      have i0 : (0 : Int) ≤ (k : Int) := by omega
      have i1 : (k : Int) < (n : Int) := by omega
      have HS := Lib.hid (nmL_step L (k := k) (by rw [HL.out]; exact hlt))
      rw [hL] at HS
      simp only at HS
      obtain ⟨k1, hk1⟩ : ∃ x, k + 1 = x := ⟨_, rfl⟩
      have e1 : (k : Int) + 1 = (k1 : Int) := by omega
      have u1 : IntKind.i64.wrap (k1 : Int) = (k1 : Int) := by have := HN.out; rw [IntKind.wrap_i64]; omega
      rw [hk1] at HS
      have HK : Hid (k < n ∧ k1 = k + 1) := Lib.hid ⟨hlt, by omega⟩
      clear hR hL hlt hk hk1
      go_upto_region 5 with fail
      clear c1 c2
      obtain ⟨p, hp⟩ : ∃ x, x = wr.heap.size := ⟨_, rfl⟩
      obtain ⟨Z, hZ⟩ : ∃ x, x = wr.alloc (.cells #[.int .u32 (nd : Int), .string nm] 26) := ⟨_, rfl⟩
      have hZh : Z.heap[p]? = some (.cells #[.int .u32 (nd : Int), .string nm] 26 (0, 0)) := by rw [hZ, hp]; exact heap_alloc_new _ _
      have HOZ : Hid (StrsOwn w.heap.size Z u3 (nmL (L.take k))) := Lib.hid (by rw [hZ]; exact World.ownsRow.alloc HO.out _)
      have HBZ : Hid (Below w.heap.size w Z) := Lib.hid (by rw [hZ]; exact nbel_alloc HB.out _)
      rw [← hZ, ← hp]
      have HP : Hid (p < Z.heap.size) := Lib.hid (Array.getElem?_eq_some_iff.1 hZh).1
      have HZH := Lib.hid hZh
      obtain ⟨z0, z1⟩ : Z.cell? ⟨p, 0, none⟩ = some (.int .u32 (nd : Int)) ∧ Z.cell? ⟨p, 1, none⟩ = some (.string nm) := by
        constructor <;> simp [World.cell?, hZh]
      clear hZ hp hZh
      have HC := Lib.hid (none_any nd nm Z)
      go_wp2_with fail
      ((with_reducible refine HC.out.mono ?_))
      rintro e w2 ⟨rfl, hb2⟩
      have y1 : w2.cell? ⟨p, 1, none⟩ = some (.string nm) := pt_stepS z1 hb2
      have HO2 : Hid (StrsOwn w.heap.size w2 u3 (nmL (L.take k))) := Lib.hid (strs_bel HOZ.out hb2)
      have HB2 : Hid (Below w.heap.size w w2) := Lib.hid (nbel_trans HBZ.out hb2)
      clear hb2 z0 z1
      by_cases hz : nd = 0
      · have t2 : (nd == 0) = true := by simpa using hz
        rw [if_pos hz, List.append_nil] at HS
        clear hz
        go_wp2_with fail
        clear e1 u1
        go_roundw
        case rel => exact ⟨k1, rfl, by have := HK.out; omega, by rw [HS.out]; exact HO2.out, HB2.out⟩
        case measure => have := HK.out; simp [intOf]; omega
      · have t2 : (nd == 0) = false := by simpa using hz
        rw [if_neg hz] at HS
        clear hz
        go_wp2_with (at_builtin; refine wpList_appS rfl _ _ rfl w.heap.size _ (nmL (L.take k)) rfl (World.ownsRow.alloc HO2.out _) _ 1 1 [nm] rfl rfl ?c0 (fun h => by cases h) (Nat.le_trans HB2.out.size (by simp)) ?c1 ?_)
        case c0 => exact fun _ => ⟨_, 0, rfl, fun i hi => by
          obtain rfl : i = 0 := by omega
          exact cell_new1 _ _ _⟩
        case c1 =>
          have h1 := nmL_le (L.take k)
          rw [List.length_take] at h1
          have := HN.out; have := HK.out
          omega
        intro v' w3 ho3 hb3
        have HO3 : Hid (StrsOwn w.heap.size w3 v' (nmL (L.take k1))) := Lib.hid (by rw [HS.out]; exact ho3)
        have HB3 : Hid (Below w.heap.size w w3) := Lib.hid ((nbel_alloc HB2.out _).trans hb3)
        clear ho3 hb3 y1
        go_wp2_with fail
        clear e1 u1
        go_roundw
        case rel => exact ⟨k1, rfl, by have := HK.out; omega, HO3.out, HB3.out⟩
        case measure => have := HK.out; simp [intOf]; omega
    · obtain rfl : k = n := by omega
      have t1 : decide ((k : Int) < (k : Int)) = false := by simp
      have t1' : decide (k < k) = false := by simp
      have ho := HO.out
      rw [← HL.out, nmL_all] at ho
      have HC := Lib.hid (sort_own _ wr u3 _ ho (Nat.le_trans (nmL_le L) (by rw [HL.out]; exact HN.out)) HZ.out)
      clear ho hlt hk
      go_wp2_with fail
      ((with_reducible refine HC.out.mono ?_))
      rintro e w2 ⟨rfl, sa, sc, S, rfl, hrs, hp, ho, hb2⟩
      have HF := Lib.hid (And.intro hrs (And.intro hp (And.intro ho (HB.out.trans hb2))))
      clear hrs hp ho hb2
      go_wp2_with fail
      go_ret
      exact ⟨sa, sc, S, rfl, HF.out.1, HF.out.2.1, HF.out.2.2.1, HF.out.2.2.2⟩
end Go.Proofs.YtdpkinppkhnjkaaDoor

namespace Go.Proofs.YtdpkinppkhnjkaaDoor
open Go.RowKit

def ordEx : EntL := [(3, ⟨#[98]⟩), (0, ⟨#[]⟩), (2, ⟨#[97]⟩)]
theorem ordEx_names : nmL ordEx = [⟨#[98]⟩, ⟨#[97]⟩] := rfl
theorem ordEx_lt : lessOf ⟨#[97]⟩ ⟨#[98]⟩ = true := by kernel_rfl
theorem ordEx_sorted {S : List ByteArray} (h : S.Perm (nmL ordEx)) (h2 : S.Pairwise leS) : S = [⟨#[97]⟩, ⟨#[98]⟩] := by
  rw [ordEx_names] at h
  refine srt_one (h.trans (.swap _ _ _)) h2 ?_
  refine .cons (fun x hx => ?_) (.cons (fun x hx => by cases hx) .nil)
  simp only [List.mem_cons, List.not_mem_nil, or_false] at hx
  subst hx
  exact lt_leS ordEx_lt
theorem ordEx_at (Z : World) (g : Nat) (hh : Z.heap[g]? = some (.cells #[.int .u32 3, .string ⟨#[98]⟩, .int .u32 0, .string ⟨#[]⟩, .int .u32 2, .string ⟨#[97]⟩] 26 (0, 0))) : RowD Z (some ⟨g, 0, none⟩) 3 ordEx := by
  refine ⟨rfl, fun x hx => ?_, fun _ => ⟨_, 0, rfl, fun i hi => ?_⟩⟩
  · simp only [ordEx, List.mem_cons, List.not_mem_nil, or_false] at hx
    rcases hx with rfl | rfl | rfl <;> decide
  · rcases (show i = 0 ∨ i = 1 ∨ i = 2 by omega) with rfl | rfl | rfl <;> exact ⟨by simp [World.cell?, hh, ordEx, List.getD], by simp [World.cell?, hh, ordEx, List.getD]⟩
theorem ordEx_row (w : World) : RowD (w.alloc (.cells #[.int .u32 3, .string ⟨#[98]⟩, .int .u32 0, .string ⟨#[]⟩, .int .u32 2, .string ⟨#[97]⟩] 26)) (some ⟨w.heap.size, 0, none⟩) 3 ordEx :=
  ordEx_at _ _ (heap_alloc_new w _)
set_option maxRecDepth 100000 in
set_option maxHeartbeats 1000000 in
theorem ordered_any (w : World) :
    Calls Tryd.prog 4 #[] w fun e w' => e = .returned (.bool true) ∧ Below w.heap.size w w' := by
  have HC := Lib.hid (names_any _ 3 3 ordEx _ (ordEx_row w) (by omega) (fun x hx => by
    simp only [ordEx, List.mem_cons, List.not_mem_nil, or_false] at hx
    rcases hx with rfl | rfl | rfl <;> decide))
  have HB := Lib.hid (nbel_alloc (Below.refl _ w) (.cells #[.int .u32 3, .string ⟨#[98]⟩, .int .u32 0, .string ⟨#[]⟩, .int .u32 2, .string ⟨#[97]⟩] 26))
  go_enter Tryd.func4, Tryd.ntmps4
  go_wp2_with fail
  ((with_reducible refine HC.out.mono ?_))
  rintro e w2 ⟨sa, sc, S, rfl, hrs, hp, ho, hb2⟩
  obtain rfl := ordEx_sorted hp ho
  obtain ⟨-, -, -, -, hcell⟩ := hrs
  obtain ⟨b, off, rfl, hc⟩ := hcell (by decide)
  have c0 := hc 0 (by decide)
  have c1 := hc 1 (by decide)
  have HB2 := Lib.hid (nbel_trans HB.out hb2)
  clear hc hcell hp ho hb2
  simp only [List.getD, List.getElem?_cons_zero, List.getElem?_cons_succ, Option.getD_some, Nat.add_zero] at c0 c1
  go_wp2_with fail
  go_ret
  exact ⟨rfl, HB2.out⟩
end Go.Proofs.YtdpkinppkhnjkaaDoor
