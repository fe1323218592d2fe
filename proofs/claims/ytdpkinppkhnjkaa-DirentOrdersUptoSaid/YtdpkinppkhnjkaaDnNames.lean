/- dirent.Names; gabionlaw18.ordered. -/
import Derived.Test.YtdpkinppkhnjkaaDnP
namespace Go.Proofs.Ytdpkinppkhnjkaa
open Go.RowKit

/-- A sorted list of the same names. -/
def NamesRet (w : World) (L : List ByteArray) (e : Ending) (w' : World) : Prop :=
  ∃ sa sc S, e = .returned (.slice sa S.length sc) ∧ RowS w' sa S.length sc S ∧ S.Perm L ∧ S.Pairwise leS ∧ Below w.heap.size w w'
set_option maxRecDepth 100000 in
set_option maxHeartbeats 1000000 in
theorem sortNil (w : World) :
    Calls Try.prog 13 #[.slice none 0 0, .func (Fn.func 14) #[] #[]] w fun e w' => e = .returned (.tuple #[]) ∧ w' = w := by
  have H1 : ∀ x : World, Calls Try.prog 22 #[.slice none 0 0, .int .i64 0, .int .i64 0, .func (Fn.func 14) #[] #[]] x fun e w' => e = .returned (.tuple #[]) ∧ w' = x := by
    intro x
    go_enter Try.func22, Try.ntmps22
    go_wp2_with fail
    go_loopw [8] (fun iv wr => iv = .int .i64 1 ∧ wr = x) (fun _ _ => 0)
    case atStart => exact ⟨rfl, rfl⟩
    case round =>
      obtain ⟨rfl, rfl⟩ := hrel
      go_wp2_with fail
      exact bodyPost_end (results_none rfl _ _ _) rfl ⟨rfl, rfl⟩
  have H2 : Hid (∀ x : World, Calls Try.prog 19 #[.slice none 0 0, .int .i64 0, .func (Fn.func 14) #[] #[]] x fun e w' => e = .returned (.tuple #[]) ∧ w' = x) := Lib.hid (by
    intro x
    have HI := Lib.hid H1
    clear H1
    go_enter Try.func19, Try.ntmps19
    go_wp2_with fail
    go_loopw [7, 8] (fun av bv wr => av = .int .i64 0 ∧ bv = .int .i64 20 ∧ wr = x) (fun _ _ _ => 0)
    case atStart => exact ⟨rfl, rfl, rfl⟩
    case round =>
      obtain ⟨rfl, rfl, rfl⟩ := hrel
      go_wp2_with fail
      ((with_reducible refine (HI.out _).mono ?_))
      rintro e w2 ⟨rfl, rfl⟩
      go_wp2_with fail
      go_loopw [6, 7, 8, 9] (fun sv _ _ _ wr => sv = .int .i64 20 ∧ wr = w2) (fun _ _ _ _ _ => 0)
      case atStart => exact ⟨rfl, rfl⟩
      case round =>
        obtain ⟨rfl, rfl⟩ := hrel
        go_wp2_with fail
        exact bodyPost_end (results_none rfl _ _ _) rfl ⟨rfl, rfl⟩)
  clear H1
  go_enter Try.func13, Try.ntmps13
  go_wp2_with fail
  ((with_reducible refine (H2.out _).mono ?_))
  rintro e w2 ⟨rfl, rfl⟩
  go_wp2_with fail
  exact bodyPost_end (results_none rfl _ _ _) rfl ⟨rfl, rfl⟩
/-- Sorting names of the call's own. -/
theorem sort_own (B : Nat) (w : World) (v : Value) (l : List ByteArray) (h : StrsOwn B w v l) (hn : l.length ≤ 100000) (hz : ∀ s ∈ l, s.size ≤ 70368744177664) :
    Calls Try.prog 13 #[v, .func (Fn.func 14) #[] #[]] w fun e w' => e = .returned (.tuple #[]) ∧ ∃ sa sc S, v = .slice sa S.length sc ∧ RowS w' sa S.length sc S ∧ S.Perm l ∧ S.Pairwise leS ∧ Below B w w' := by
  rcases h.2 with ⟨h0, h1⟩ | ⟨g, cap, cur, e1, e2, e3, e4, e5, e6, e7⟩
  · obtain rfl : l = [] := List.eq_nil_of_length_eq_zero h1
    subst h0
    refine (sortNil w).mono ?_
    rintro e w' ⟨rfl, rfl⟩
    exact ⟨rfl, none, 0, [], rfl, ⟨rfl, Nat.le_refl _, Nat.zero_le _, fun _ => rfl, fun h => absurd h (Nat.lt_irrefl _)⟩, .refl _, .nil, Below.refl _ _⟩
  · subst e1
    have hs : SqAt g l.length (fun k => l.getD k ByteArray.empty) w := by
      refine ⟨cur, e3, by omega, fun k hk => ?_⟩
      have h2 : cur[k]? = (cur.toList.take (l.length * 1))[k]? := by rw [List.getElem?_take_of_lt (by omega), Array.getElem?_toList]
      rw [h2, e7]
      simp [List.getD, hk]
    refine (sortStable_any g l.length cap _ w hs hn (fun k _ hk => ?_)).mono ?_
    · have e : l.getD k ByteArray.empty = l[k] := by simp [List.getD, hk]
      rw [e]
      exact hz _ (List.getElem_mem _)
    · rintro e w' ⟨rfl, ⟨f', hs', hp, ho⟩, hb⟩
      have hl : (seqL f' l.length).length = l.length := seqL_len _ _
      refine ⟨rfl, _, cap, seqL f' l.length, by rw [hl], ⟨rfl, by omega, e5, (fun h => by cases h), fun _ => ⟨g, 0, rfl, fun i hi => ?_⟩⟩, ?_, srt_pair ho, hb.mono e2⟩
      · rw [hl] at hi
        rw [Nat.zero_add, (hs'.cell hi).1, seqL_at f' hi]
      · have h1 := prm_perm hp
        rw [seqL_of] at h1
        exact h1
set_option maxRecDepth 100000 in
set_option maxHeartbeats 2000000 in
theorem names_any (a : Option Addr) (n cap : Nat) (L : EntL) (w : World) (hr : RowD w a n L) (hn : n ≤ 100000) (hz : ∀ x ∈ L, x.2.size ≤ 70368744177664) :
    Calls Try.prog 6 #[.slice a n cap] w (NamesRet w (nmL L)) := by
  have HR := Lib.hid hr
  have HN := Lib.hid hn
  have HL : Hid (L.length = n) := Lib.hid hr.1
  have HZ : Hid (∀ s ∈ nmL L, s.size ≤ 70368744177664) := Lib.hid fun s hs => by
    obtain ⟨x, hx, rfl⟩ := nmL_mem hs
    exact hz x hx
  clear hr hn hz
  go_enter Try.func6, Try.ntmps6
  go_wp2_with fail
  go_loopw [3, 8] (fun v iv wr => ∃ k : Nat, iv = .int .i64 (k : Int) ∧ k ≤ n ∧ StrsOwn w.heap.size wr v (nmL (L.take k)) ∧ Below w.heap.size w wr) (fun _ iv _ => n - (intOf iv).toNat)
  case atStart => exact ⟨0, rfl, Nat.zero_le _, strs_nil _ _, Below.refl _ _⟩
  case round =>
    obtain ⟨k, rfl, hk, ho, hb⟩ := hrel
    have HO := Lib.hid ho
    have HB := Lib.hid hb
    clear ho hb
    by_cases hlt : k < n
    · have t1 : decide ((k : Int) < (n : Int)) = true := by simp; omega
      have t1' : decide (k < n) = true := by simpa using hlt
      have hR := HR.out.below HB.out
      obtain ⟨b, off, nd, nm, rfl, hL, hnd, c1, c2⟩ := hR.at hlt
      have i0 : (0 : Int) ≤ (k : Int) := by omega
      have i1 : (k : Int) < (n : Int) := by omega
      have HS := Lib.hid (nmL_step L (k := k) (by rw [HL.out]; exact hlt))
      rw [hL] at HS
      simp only at HS
      obtain ⟨k1, hk1⟩ : ∃ x, k + 1 = x := ⟨_, rfl⟩
      have e1 : (k : Int) + 1 = (k1 : Int) := by omega
      have u1 : IntKind.i64.wrap (k1 : Int) = (k1 : Int) := by have := HN.out; rw [IntKind.wrap_i64]; omega
      rw [hk1] at HS
      have HK : Hid (k < n ∧ k1 = k + 1) := Lib.hid ⟨hlt, by omega⟩
      clear hR hL hlt hk hk1
      go_upto_region 5 with fail
      clear c1 c2
      obtain ⟨p, hp⟩ : ∃ x, x = wr.heap.size := ⟨_, rfl⟩
      obtain ⟨Z, hZ⟩ : ∃ x, x = wr.alloc (.cells #[.int .u32 (nd : Int), .string nm] 26) := ⟨_, rfl⟩
      have hZh : Z.heap[p]? = some (.cells #[.int .u32 (nd : Int), .string nm] 26 (0, 0)) := by rw [hZ, hp]; exact heap_alloc_new _ _
      have HOZ : Hid (StrsOwn w.heap.size Z u3 (nmL (L.take k))) := Lib.hid (by rw [hZ]; exact World.ownsRow.alloc HO.out _)
      have HBZ : Hid (Below w.heap.size w Z) := Lib.hid (by rw [hZ]; exact bel_alloc HB.out _)
      rw [← hZ, ← hp]
      have HP : Hid (p < Z.heap.size) := Lib.hid (Array.getElem?_eq_some_iff.1 hZh).1
      have HZH := Lib.hid hZh
      obtain ⟨z0, z1⟩ : Z.cell? ⟨p, 0, none⟩ = some (.int .u32 (nd : Int)) ∧ Z.cell? ⟨p, 1, none⟩ = some (.string nm) := by
        constructor <;> simp [World.cell?, hZh]
      clear hZ hp hZh
      have HC := Lib.hid (none_any nd nm Z)
      go_wp2_with fail
      ((with_reducible refine HC.out.mono ?_))
      rintro e w2 ⟨rfl, hb2⟩
      have y1 : w2.cell? ⟨p, 1, none⟩ = some (.string nm) := pt_stepS z1 hb2
      have HO2 : Hid (StrsOwn w.heap.size w2 u3 (nmL (L.take k))) := Lib.hid (strs_bel HOZ.out hb2)
      have HB2 : Hid (Below w.heap.size w w2) := Lib.hid (bel_trans HBZ.out hb2)
      clear hb2 z0 z1
      by_cases hz : nd = 0
      · have t2 : (nd == 0) = true := by simpa using hz
        rw [if_pos hz, List.append_nil] at HS
        clear hz
        go_wp2_with fail
        clear e1 u1
        go_roundw
        case rel => exact ⟨k1, rfl, by have := HK.out; omega, by rw [HS.out]; exact HO2.out, HB2.out⟩
        case measure => have := HK.out; simp [intOf]; omega
      · have t2 : (nd == 0) = false := by simpa using hz
        rw [if_neg hz] at HS
        clear hz
        go_wp2_with (at_builtin; refine wpList_appS rfl _ _ rfl w.heap.size _ (nmL (L.take k)) rfl (World.ownsRow.alloc HO2.out _) _ 1 1 [nm] rfl rfl ?c0 (fun h => by cases h) (Nat.le_trans HB2.out.size (by simp)) ?c1 ?_)
        case c0 => exact fun _ => ⟨_, 0, rfl, fun i hi => by
          obtain rfl : i = 0 := by omega
          exact cell_new1 _ _ _⟩
        case c1 =>
          have h1 := nmL_le (L.take k)
          rw [List.length_take] at h1
          have := HN.out; have := HK.out
          omega
        intro v' w3 ho3 hb3
        have HO3 : Hid (StrsOwn w.heap.size w3 v' (nmL (L.take k1))) := Lib.hid (by rw [HS.out]; exact ho3)
        have HB3 : Hid (Below w.heap.size w w3) := Lib.hid ((bel_alloc HB2.out _).trans hb3)
        clear ho3 hb3 y1
        go_wp2_with fail
        clear e1 u1
        go_roundw
        case rel => exact ⟨k1, rfl, by have := HK.out; omega, HO3.out, HB3.out⟩
        case measure => have := HK.out; simp [intOf]; omega
    · obtain rfl : k = n := by omega
      have t1 : decide ((k : Int) < (k : Int)) = false := by simp
      have t1' : decide (k < k) = false := by simp
      have ho := HO.out
      rw [← HL.out, nmL_all] at ho
      have HC := Lib.hid (sort_own _ wr u3 _ ho (Nat.le_trans (nmL_le L) (by rw [HL.out]; exact HN.out)) HZ.out)
      clear ho hlt hk
      go_wp2_with fail
      ((with_reducible refine HC.out.mono ?_))
      rintro e w2 ⟨rfl, sa, sc, S, rfl, hrs, hp, ho, hb2⟩
      have HF := Lib.hid (And.intro hrs (And.intro hp (And.intro ho (HB.out.trans hb2))))
      clear hrs hp ho hb2
      go_wp2_with fail
      go_ret
      exact ⟨sa, sc, S, rfl, HF.out.1, HF.out.2.1, HF.out.2.2.1, HF.out.2.2.2⟩
end Go.Proofs.Ytdpkinppkhnjkaa
