/- gabionlaw04's shape, begun. -/
import Derived.Test.YtbfmpcomjmcfjaaNNew
import Derived.Test.YtbfmpcomjmcfjaaRefBytes
namespace Go.Proofs.Ytbfmpcomjmcfjaa
open Go.RowKit Go.Deep

theorem own_far {B : Nat} {w : World} {a : Option Addr} {n c : Nat} {l : List Nat} (h : Own B w (.slice a n c) l) : ∀ x, a = some x → B ≤ x.block := fun x hx => (own_base h x.block (by rw [hx]; rfl)).1
section
variable {B : Nat} {tag : Nat → Option Tag} {L : NL} {S : NS} {w : World}
set_option maxHeartbeats 400000 in
theorem ops_any (h : NA B tag L S w) : Calls Try.prog 23 #[.pointer (some ⟨L.pa, 0, none⟩)] w fun e w' => e = .returned (.int .i64 (S.ops : Int)) ∧ w = w' := by
  have c6 := h.c .ops
  clear h
  go_enter Try.func23, Try.ntmps23
  go_wp2
  go_ret
  exact ⟨rfl, rfl⟩
theorem NA.behind {b : Nat} {w0 w2 : World} (h : NA B tag L S w) (k : Kept (ownT tag) w w2) (hb : Below b w0 w) (hB : b ≤ B) : Below b w0 w2 :=
  hb.trans (k.toBelow (Nat.le_trans hB h.base) fun x hx => by
    unfold ownT at hx
    cases ht : tag x with
    | none => exact absurd ht hx
    | some t => exact Nat.le_trans hB (h.range x t ht).1)
theorem NA.notOwn (h : NA B tag L S w) {k : Nat} (hk : w.heap.size ≤ k) : ¬ ownT tag k := fun o => o (h.noTag hk)
/-- Nothing comes: an operation is counted. -/
theorem tick_plain (S : NS) (h2 : (S.ev (S.ops + 1)).ki ≠ 2) (h3 : (S.ev (S.ops + 1)).ki ≠ 3) : S.tick = S.setOps (S.ops + 1) := by
  unfold NS.tick NS.met; rw [if_neg h3, if_neg h2]
/-- Nothing is to come. -/
def Quiet (S : NS) : Prop := ∀ n, S.ev n = NE.zero
theorem Quiet.tick {S : NS} (h : Quiet S) : S.tick = S.setOps (S.ops + 1) := tick_plain S (by rw [h]; decide) (by rw [h]; decide)
theorem Quiet.ki {S : NS} (h : Quiet S) (n : Nat) : (S.ev n).ki = 0 := by rw [h]; rfl
end

theorem at2 (x : Int) : ∃ r : Nat, wrap64 ((IntKind.u64.wrap x).tmod 2) = (r : Int) ∧ r < 2 := by
  have h0 := wrap_u64_nonneg x
  have e : (IntKind.u64.wrap x).tmod 2 = (IntKind.u64.wrap x) % 2 := Int.tmod_eq_emod_of_nonneg h0
  rw [e]
  generalize IntKind.u64.wrap x = m at *
  refine ⟨(m % 2).toNat, ?_, by omega⟩
  rw [IntWalk.wrap64_in (m % 2) ⟨by omega, by omega⟩]
  omega
set_option maxHeartbeats 400000 in
theorem shape_any (x : Int) (w : World) : Calls Try.prog 19 #[.int .i64 x] w fun e w' => (∃ r : Nat, r < 2 ∧ (x = 0 → r = 0) ∧ (x = 1 → r = 1) ∧ e = .returned (.agg #[.int .i64 ((3 + r : Nat) : Int), .int .i64 16, .int .i64 4, .int .i64 256])) ∧ Below w.heap.size w w' := by
  obtain ⟨r, hr, hr2⟩ := at2 x
  go_enter Try.func19, Try.ntmps19
  go_wp2
  refine bodyPost_ret (v := .agg #[.int .i64 ((3 + r : Nat) : Int), .int .i64 16, .int .i64 4, .int .i64 256]) ?_ rfl ⟨⟨r, hr2, fun e => ?_, fun e => ?_, rfl⟩, bel_alloc (Below.refl _ w) _⟩
  · rw [show ((3 + r : Nat) : Int) = 3 + (r : Int) by omega]
    simp [results, Try.results19, go_sem]
  · subst e
    rw [show wrap64 ((IntKind.u64.wrap 0).tmod 2) = 0 by kernel_rfl] at hr
    omega
  · subst e
    rw [show wrap64 ((IntKind.u64.wrap 1).tmod 2) = 1 by kernel_rfl] at hr
    omega
theorem good_shape {r : Nat} (h : r < 2) : GoodG ((3 + r : Nat) : Int) ((16 : Nat) : Int) ((4 : Nat) : Int) ((256 : Nat) : Int) := by unfold GoodG; omega
theorem new_plain (r : Nat) (hr : r < 2) (w : World) :
    Calls Try.prog 20 #[.agg #[.int .i64 ((3 + r : Nat) : Int), .int .i64 16, .int .i64 4, .int .i64 256], .slice none 0 0, .slice none 0 0] w (NewRet (3 + r) 16 4 256 (fun _ => NE.zero) w) :=
  new_ok (3 + r) 16 4 256 none 0 0 (fun _ => NE.zero) w (good_shape hr) (by omega) (Lib.hid fun w' _ => plan_nil w')
theorem quiet_fresh (a b c d : Nat) : Quiet (NS.fresh a b c d (fun _ => NE.zero)) := fun _ => rfl

set_option maxRecDepth 100000 in
set_option maxHeartbeats 3200000 in
theorem begun_any (w : World) : Calls Try.prog 18 #[] w fun e w' => e = .returned (.bool true) ∧ Below w.heap.size w w' := by
  go_enter Try.func18, Try.ntmps18
  go_wp2_with fail
  refine (shape_any 0 w).mono ?_
  rintro e w1 ⟨⟨r, _, hr0, _, rfl⟩, hb1⟩
  obtain rfl := hr0 rfl
  go_wp2_with fail
  refine (new_plain 0 (by omega) w1).mono ?_
  rintro e w2 ⟨tag, L, rfl, hn2, hb2⟩
  have hb02 := hb1.trans (hb2.mono hb1.size)
  have HB02 := Lib.hid hb02
  have HW1 := Lib.hid hb1.size
  have HQ := Lib.hid (quiet_fresh (3 + 0) 16 4 256)
  obtain ⟨S, hS⟩ : ∃ S, S = NS.fresh (3 + 0) 16 4 256 (fun _ => NE.zero) := ⟨_, rfl⟩
  rw [← hS] at hn2 HQ
  have HS := Lib.hid hS
  clear hS hb1 hb2 hb02 hr0
  go_wp2_with fail
  refine (zeros_any 256 w2 (by omega)).mono ?_
  intro e w3 h3
  obtain ⟨a1, c1, rfl, hr1, hn1, ho1, hb3⟩ := retOwn_len h3
  rw [List.length_replicate] at ho1 hr1 ⊢
  have HF1 := Lib.hid (own_far ho1)
  have HR1 := Lib.hid hr1
  have HN1 := Lib.hid hn1
  have hn3 := hn2.below hb3
  have HB03 := Lib.hid (HB02.out.trans (hb3.mono HB02.out.size))
  have HT := Lib.hid hn2
  clear h3 ho1 hr1 hn1 hn2 
  go_wp2_with fail
  refine (zeros_any 64 w3 (by omega)).mono ?_
  intro e w4 h4
  obtain ⟨a2, c2, rfl, hr2, hn2, ho2, hb4⟩ := retOwn_len h4
  rw [List.length_replicate] at ho2 hr2 ⊢
  have HF2 := Lib.hid (own_far ho2)
  have HR2 := Lib.hid hr2
  have HN2 := Lib.hid hn2
  have hn4 := hn3.below hb4
  have HR14 := Lib.hid (row_keep HR1.out hb4 (Nat.le_refl _))
  have HB04 := Lib.hid (HB03.out.trans (hb4.mono HB03.out.size))
  have HZ := Lib.hid (And.intro hb3.size hb4.size)
  obtain ⟨ds, hds⟩ : ∃ ds : List Nat, ds = List.replicate 256 0 := ⟨_, rfl⟩
  obtain ⟨os, hos⟩ : ∃ os : List Nat, os = List.replicate 64 0 := ⟨_, rfl⟩
  rw [← hds] at HR14
  rw [← hos] at HR2
  have HLD : Hid (ds.length = 256) := Lib.hid (by rw [hds, List.length_replicate])
  clear h4 ho2 hr2 hn2 hn3 hb3 hb4 HR1 hds hos
  -- the block's page 1 isn't the next
  have t4 : S.tick = S.setOps (S.ops + 1) := HQ.out.tick
  have sops : S.ops = 0 := by rw [HS.out]; rfl
  go_wp2_with fail
  have hp1 := program_order hn4 0 3 (Nat.zero_le _) (by rw [HS.out]; show 3 < 16; omega) (by rw [HS.out]; rfl) (by omega) (by rw [t4, HS.out]; rfl) (by rw [HQ.out.ki]; decide) a1 256 c1 a2 64 c2 1 (by rw [t4, HS.out]; show 1 < 4; omega) (by rw [t4, HS.out]; rfl) rfl (by rw [t4, HS.out]; rfl) (by rw [t4, HS.out]; decide)
  refine hp1.mono ?_
  rintro e w5 ⟨rfl, tag5, hn5, hg5, hk5⟩
  rw [t4] at hn5
  have r15 := row_kept HR14.out hk5 (fun x hx => HT.out.notOwn (HF1.out x hx))
  have r25 := row_kept HR2.out hk5 (fun x hx => HT.out.notOwn (Nat.le_trans HZ.out.1 (HF2.out x hx)))
  have hz4 := hk5.size
  have HB05 := Lib.hid (hn4.behind hk5 HB04.out HW1.out)
  have HN5 := Lib.hid hn5
  have hno1 : ∀ x, a1 = some x → ¬ ownT tag5 x.block := fun x hx o => (hg5.down _ o).elim (HT.out.notOwn (HF1.out x hx)) (fun q => by
    have hl := row_lt HR14.out (by omega) x hx
    omega)
  have hno2 : ∀ x, a2 = some x → ¬ ownT tag5 x.block := fun x hx o => (hg5.down _ o).elim (HT.out.notOwn (Nat.le_trans HZ.out.1 (HF2.out x hx))) (fun q => by
    have hl := row_lt HR2.out (by omega) x hx
    omega)
  have Q5 : Quiet (S.setOps (S.ops + 1)) := HQ.out
  have t5 : (S.setOps (S.ops + 1)).tick = (S.setOps (S.ops + 1)).setOps (S.ops + 1 + 1) := Q5.tick
  have hp2 := program_ok hn5 0 3 (Nat.zero_le _) (by rw [HS.out]; show 3 < 16; omega) (by rw [HS.out]; rfl) (by show S.ops + 1 < _; omega) (by rw [t5, HS.out]; rfl) (by rw [Q5.ki]; decide) a1 256 c1 a2 64 c2 0 (by rw [t5, HS.out]; show 0 < 4; omega) (by rw [t5, HS.out]; rfl) rfl (by rw [t5, HS.out]; rfl) (by rw [t5, HS.out]; rfl) (by rw [Q5.ki]; decide)
    ds os r15 HN1.out r25 HN2.out hno1 hno2
  have HP2 := Lib.hid hp2
  have HR15 := Lib.hid r15
  have HR25 := Lib.hid r25
  have HNO := Lib.hid (And.intro hno1 hno2)
  have HZ5 := Lib.hid hz4
  clear hp1 hp2 r15 r25 hk5 hg5 hno1 hno2 hn5 hn4 t4 hz4
  go_wp2_with fail
  refine HP2.out.mono ?_
  rintro e w6 ⟨rfl, tag6, hn6, hg6, hk6⟩
  rw [t5] at hn6
  obtain ⟨T, hT⟩ : ∃ T, T = (((S.setOps (S.ops + 1)).setOps (S.ops + 1 + 1)).setPage 0 3 0 (some (ds ++ os))).setNext 0 3 (0 + 1) := ⟨_, rfl⟩
  rw [← hT] at hn6
  have Q6 : Quiet T := by rw [hT]; exact HQ.out
  have t6 : T.tick = T.setOps (T.ops + 1) := Q6.tick
  have hp3 := read_some hn6 0 3 (Nat.zero_le _) (by rw [hT, HS.out]; show 3 < 16; omega) (by rw [hT, HS.out]; rfl) (by rw [hT]; show S.ops + 1 + 1 < _; omega) (by rw [t6, hT, HS.out]; rfl) (by rw [Q6.ki]; decide) 0 (by rw [t6, hT, HS.out]; show 0 < 4; omega) (ds ++ os) (by rw [t6, hT]; simp [NS.setOps, NS.setNext, NS.setPage])
  have g3 : T.tick.g3 = 256 := by rw [t6, hT, HS.out]; rfl
  have tops : T.tick.ops = 3 := by rw [t6, hT]; show S.ops + 1 + 1 + 1 = 3; omega
  rw [g3] at hp3
  have r16 := row_kept HR15.out hk6 HNO.out.1
  have r26 := row_kept HR25.out hk6 HNO.out.2
  have hz6 := hk6.size
  have hno16 : ∀ x, a1 = some x → ¬ ownT tag6 x.block := fun x hx o => (hg6.down _ o).elim (HNO.out.1 x hx) (fun q => by
    have hl := row_lt HR15.out (by omega) x hx
    omega)
  have hno26 : ∀ x, a2 = some x → ¬ ownT tag6 x.block := fun x hx o => (hg6.down _ o).elim (HNO.out.2 x hx) (fun q => by
    have hl := row_lt HR25.out (by omega) x hx
    omega)
  have HP3 := Lib.hid hp3
  have HR16 := Lib.hid r16
  have HR26 := Lib.hid r26
  have HNO6 := Lib.hid (And.intro hno16 hno26)
  have HB06 := Lib.hid (HN5.out.behind hk6 HB05.out HW1.out)
  have HN6 := Lib.hid hn6
  have HTO := Lib.hid tops
  clear hp3 r16 r26 hno16 hno26 hk6 hg6 hn6 hT t6 Q6 g3 t5 Q5 hz6 tops sops
  go_wp2_with fail
  refine HP3.out.mono ?_
  rintro e w7 ⟨x1, y1, x2, y2, rfl, ho1, ho2, hn7, hk7⟩
  have hd7 : (ds ++ os).take 256 = ds := by rw [List.take_append_of_le_length (by rw [HLD.out]; omega), List.take_of_length_le (by rw [HLD.out]; omega)]
  have he7 : (ds ++ os).drop 256 = os := by rw [List.drop_append_of_le_length (by rw [HLD.out]; omega), List.drop_of_length_le (by rw [HLD.out]; omega)]; rfl
  rw [hd7] at ho1
  rw [he7] at ho2
  obtain ⟨_, _, e1, s1, _⟩ := row_of_own ho1
  simp only [Value.slice.injEq] at e1
  obtain ⟨rfl, z1, rfl⟩ := e1
  obtain ⟨_, _, e2, s2, _⟩ := row_of_own ho2
  simp only [Value.slice.injEq] at e2
  obtain ⟨rfl, z2, rfl⟩ := e2
  rw [HLD.out] at s1
  have s3 := row_kept HR16.out hk7 HNO6.out.1
  have s4 := row_kept HR26.out hk7 HNO6.out.2
  rw [HR26.out.1] at s2
  have HSA := Lib.hid (same_any x1 a1 256 y1 256 c1 ds w7 s1 s3)
  have HSB := Lib.hid (same_any x2 a2 64 y2 64 c2 os w7 s2 s4)
  have HOP := Lib.hid (ops_any hn7)
  have HFIN := Lib.hid (HN6.out.behind hk7 HB06.out HW1.out)
  clear ho1 ho2 hn7 hk7 hd7 he7 s1 s2 s3 s4 z1 z2
  go_wp2_with fail
  refine HSA.out.mono ?_
  rintro e w8 ⟨rfl, rfl⟩
  go_wp2_with fail
  refine HSB.out.mono ?_
  rintro e w8 ⟨rfl, rfl⟩
  go_wp2_with fail
  refine HOP.out.mono ?_
  rintro e w8 ⟨rfl, rfl⟩
  rw [HTO.out]
  go_wp2
  go_ret
  exact ⟨rfl, HFIN.out⟩

end Go.Proofs.Ytbfmpcomjmcfjaa
