/- MemberFirsts: the walk. -/
import Derived.Test.YtallambldbhibaaMemSet
namespace Go.Proofs.Ytallambldbhibaa
open Go.RowKit Go.Deep

theorem firstL_mem (n : Nat) (x : Int) : x ∈ firstL n ↔ 0 ≤ x ∧ x < (n : Int) := by
  unfold firstL
  rw [List.mem_map]
  constructor
  · rintro ⟨i, hi, rfl⟩
    have := List.mem_range.1 hi
    omega
  · intro h
    exact ⟨x.toNat, List.mem_range.2 (by omega), by omega⟩
theorem firstL_nodup : ∀ n : Nat, (firstL n).Nodup
  | 0 => by simp [firstL]
  | n + 1 => by
    rw [firstL_more, List.nodup_append]
    refine ⟨firstL_nodup n, by simp, fun a ha b hb e => ?_⟩
    rw [List.mem_singleton] at hb
    have := (firstL_mem n a).1 ha
    omega
theorem setOk_first (n : Nat) (bl : Int) (hn : n ≤ 16) (hb : 16 ≤ bl) : setOk n bl (firstL n) (n : Int) 255 0 := by
  refine ⟨firstL_len n, .inl rfl, ⟨⟨by omega, by omega⟩, .inl rfl⟩, ?_⟩
  rw [if_neg (by omega), ← firstL_more]
  exact ⟨fun x hx => by have := (firstL_mem _ x).1 hx; omega, firstL_nodup _⟩
set_option maxRecDepth 100000 in
set_option maxHeartbeats 1000000 in
theorem memberFirsts_all (a b c d : Int) (w : World) (hin : In64x4 a b c d) :
    Calls Try.prog 15 #[.agg #[.int .i64 a, .int .i64 b, .int .i64 c, .int .i64 d]] w fun e w' => e = .returned (.bool true) ∧ Below w.heap.size w w' := by
  have HF := Lib.hid memFirst0_any
  by_cases hg : GoodG a b c d
  case neg =>
    have HC := Lib.hid fun x : World => check_bad a b c d x hg
    have HS := Lib.hid (gs_new w a b c d)
    clear hg hin
    go_enter Try.func15, Try.ntmps15
    obtain ⟨c0, c1, c2, c3, _⟩ := HS.out
    go_wp2_with fail
    ((with_reducible refine (HC.out _).mono ?_))
    rintro e w2 ⟨rfl, hb2⟩
    have HB2 := Lib.hid (HS.out.step hb2)
    clear hb2 c0 c1 c2 c3
    go_wp2_with fail
    ((with_reducible refine (HF.out _).mono ?_))
    rintro e w3 ⟨rfl, hb3⟩
    have HB3 := Lib.hid (HB2.out.step hb3)
    clear hb3
    go_wp2
    go_ret
    exact ⟨rfl, HB3.out.2.2.2.2⟩
  obtain ⟨n, rfl⟩ : ∃ n : Nat, a = (n : Int) := ⟨a.toNat, by have := hg.1; omega⟩
  have hn : n ≤ 16 := by have := hg.2.1; omega
  have hb16 : 16 ≤ b := hg.2.2.1
  have HC := Lib.hid fun x : World => check_good (n : Int) b c d x hg
  have HFI := Lib.hid fun x : World => memFirst_any n b c d x (by omega)
  have HSC : Hid (∀ (q : Option Addr) (cc : Nat) (x : World), RowI x q n cc (firstL n) → Calls Try.prog 55 #[.agg #[.int .u32 1, .slice q n cc, .int .i64 (n : Int), .int .i64 255, .int .i64 0], .agg #[.int .i64 (n : Int), .int .i64 b, .int .i64 c, .int .i64 d]] x fun e w' => e = .returned (.int .i64 0) ∧ Below x.heap.size x w') := Lib.hid fun q cc x hr =>
    setCheck_any 1 q n cc (n : Int) 255 0 n b c d (firstL n) x hr hg (by unfold In64; omega) 0 (by rw [if_pos (setOk_first n b hn hb16)])
  have HFU := Lib.hid fun (q : Option Addr) (cc : Nat) (x : World) => full_any 1 q n cc (n : Int) 255 0 x
  rw [show ((1 : Nat) : Int) = 1 from rfl] at HFU
  have HS := Lib.hid (gs_new w (n : Int) b c d)
  clear hg hin hb16
  go_enter Try.func15, Try.ntmps15
  obtain ⟨c0, c1, c2, c3, _⟩ := HS.out
  go_wp2_with fail
  ((with_reducible refine (HC.out _).mono ?_))
  rintro e w2 ⟨rfl, hb2⟩
  have HS2 := Lib.hid (HS.out.step hb2)
  obtain ⟨gb, hgb⟩ : ∃ x, x = w.heap.size := ⟨_, rfl⟩
  rw [← hgb] at HS2 ⊢
  have HGB := Lib.hid hgb
  clear hb2 c0 c1 c2 c3 HS hgb
  obtain ⟨c0, c1, c2, c3, _⟩ := HS2.out
  go_wp2_with fail
  ((with_reducible refine (HFI.out _).mono ?_))
  rintro e w3 ⟨v, rfl, ho, hb3⟩
  obtain ⟨qa, qc, rfl, hrow, _⟩ := ownI_row ho (firstL_in n (by omega))
  rw [firstL_len] at hrow ⊢
  have hS3 := HS2.out.step hb3
  have l0 := heap_alloc_new w3 (.cells #[.int .u32 1, .slice qa n qc, .int .i64 (n : Int), .int .i64 255, .int .i64 0] 113)
  have hr4 := rowI_below hrow (bel_alloc (Below.refl _ w3) (.cells #[.int .u32 1, .slice qa n qc, .int .i64 (n : Int), .int .i64 255, .int .i64 0] 113))
  have hS4 := hS3.step (bel_alloc (Below.refl _ w3) (.cells #[.int .u32 1, .slice qa n qc, .int .i64 (n : Int), .int .i64 255, .int .i64 0] 113))
  clear ho hb3 hrow hS3 c0 c1 c2 c3 HS2
  go_upto_region 4 with fail
  obtain ⟨sb, hsb⟩ : ∃ x, x = w3.heap.size := ⟨_, rfl⟩
  obtain ⟨w4, hw4⟩ : ∃ x, x = w3.alloc (.cells #[.int .u32 1, .slice qa n qc, .int .i64 (n : Int), .int .i64 255, .int .i64 0] 113) := ⟨_, rfl⟩
  rw [← hw4, ← hsb] at l0
  rw [← hw4] at hr4 hS4
  rw [← hw4, ← hsb]
  have HL4 := Lib.hid l0
  have HR4 := Lib.hid hr4
  have HS4 := Lib.hid hS4
  clear hsb hw4 hS4 hr4 l0
  go_wp2_with fail
  ((with_reducible refine (HF.out _).mono ?_))
  rintro e w5 ⟨rfl, hb5⟩
  have HL5 := Lib.hid ((hb5.block _ (Array.getElem?_eq_some_iff.1 HL4.out).1).trans HL4.out)
  have HR5 := Lib.hid (rowI_below HR4.out hb5)
  have HS5 := Lib.hid (HS4.out.step hb5)
  clear hb5 HL4 HR4 HS4
  obtain ⟨c0, c1, c2, c3, _⟩ := HS5.out
  obtain ⟨z0, z1, z2, z3, z4⟩ := five_at HL5.out
  have hsc := HSC.out qa qc w5 HR5.out
  go_wp2_with fail
  ((with_reducible refine hsc.mono ?_))
  rintro e w6 ⟨rfl, hb6⟩
  have HL6 := Lib.hid ((hb6.block _ (Array.getElem?_eq_some_iff.1 HL5.out).1).trans HL5.out)
  have HR6 := Lib.hid (rowI_below HR5.out hb6)
  have HS6 := Lib.hid (HS5.out.step hb6)
  clear hb6 HL5 HR5 HS5 c0 c1 c2 c3 z0 z1 z2 z3 z4 hsc
  obtain ⟨c0, c1, c2, c3, _⟩ := HS6.out
  obtain ⟨z0, z1, z2, z3, z4⟩ := five_at HL6.out
  go_wp2_with fail
  ((with_reducible refine (HFU.out qa qc w6).mono ?_))
  rintro e w7 ⟨rfl, hb7⟩
  have HL7 := Lib.hid ((hb7.block _ (Array.getElem?_eq_some_iff.1 HL6.out).1).trans HL6.out)
  have HR7 := Lib.hid (rowI_below HR6.out hb7)
  have HS7 := Lib.hid (HS6.out.step hb7)
  clear hb7 HL6 HR6 HS6 c0 c1 c2 c3 z0 z1 z2 z3 z4
  obtain ⟨c0, c1, c2, c3, _⟩ := HS7.out
  obtain ⟨z0, z1, z2, z3, z4⟩ := five_at HL7.out
  go_wp2_with fail
  go_loopw [4] (fun i wr => ∃ k : Nat, k ≤ n ∧ i = .int .i64 (k : Int) ∧ wr = w7) (fun i _ => n - (intOf i).toNat)
  case atStart => exact ⟨0, Nat.zero_le _, rfl, rfl⟩
  case round =>
    obtain ⟨k, hk, rfl, rfl⟩ := hrel
    by_cases hlt : k < n
    · have t1 : decide (k < n) = true := by simpa using hlt
      have t1' : decide ((k : Int) < (n : Int)) = true := by simpa using hlt
      obtain ⟨eb, eo, rfl, hcell, _, _⟩ := rowI_at HR7.out (k := k) hlt
      rw [firstL_at n k hlt] at hcell
      have i0 : (0 : Int) ≤ (k : Int) := by omega
      have i1 : (k : Int) < (n : Int) := by omega
      have t2 : ((k : Int) != (k : Int)) = false := by simp
      go_wp2
      go_roundw
      case rel => exact ⟨k + 1, by omega, by go_num, trivial⟩
      case measure => simp [intOf]; omega
    · have t1 : decide (k < n) = false := by simpa using hlt
      have t1' : decide ((k : Int) < (n : Int)) = false := by simpa using hlt
      go_wp2
      go_ret
      exact ⟨rfl, HS7.out.2.2.2.2⟩
end Go.Proofs.Ytallambldbhibaa
