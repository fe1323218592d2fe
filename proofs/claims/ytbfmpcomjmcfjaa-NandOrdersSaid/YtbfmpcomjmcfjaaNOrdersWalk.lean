/- NandOrders: the walk. -/
import Derived.Test.YtbfmpcomjmcfjaaNBegun
import Derived.Test.YtbfmpcomjmcfjaaEnds
namespace Go.Proofs.Ytbfmpcomjmcfjaa
open Go.RowKit Go.Deep

/-- What holds of the chips behind k rounds, n being the next page of the block. -/
def OrdI (w0 : World) (B : Nat) (L : NL) (a1 : Option Addr) (ds : List Nat) (a2 : Option Addr) (os : List Nat) (k n : Nat) (wr : World) : Prop :=
  ∃ tag S, NA B tag L S wr ∧ Quiet S ∧ S.ops ≤ k ∧ S.off = false ∧ (S.g0 = 3 ∧ S.g1 = 16 ∧ S.g2 = 4 ∧ S.g3 = 256) ∧ S.dead 1 = false ∧ S.bad 1 2 = false ∧ S.next 1 2 = n ∧ S.er 1 2 ≤ k ∧
    Row wr a1 256 ds ∧ Row wr a2 64 os ∧ (∀ x, a1 = some x → ¬ ownT tag x.block) ∧ (∀ x, a2 = some x → ¬ ownT tag x.block) ∧ Below w0.heap.size w0 wr
section
variable {w0 : World} {B : Nat} {L : NL} {a1 : Option Addr} {c1 : Nat} {ds : List Nat} {a2 : Option Addr} {c2 : Nat} {os : List Nat} {k n : Nat} {wr : World}
theorem ord_keep {tag tag' : Nat → Option Tag} {S S' : NS} {w' : World} (hB : w0.heap.size ≤ B) (h : NA B tag L S wr) (hq : Quiet S) (h' : NA B tag' L S' w') (hg : Grew tag tag' wr) (hk : Kept (ownT tag) wr w') (he : S'.ev = S.ev) (ho : S'.ops ≤ k + 1) (hof : S'.off = false) (hgs : S'.g0 = 3 ∧ S'.g1 = 16 ∧ S'.g2 = 4 ∧ S'.g3 = 256) (hd : S'.dead 1 = false) (hb : S'.bad 1 2 = false) (m : Nat) (hn : S'.next 1 2 = m) (her : S'.er 1 2 ≤ k + 1)
    (r1 : Row wr a1 256 ds) (r2 : Row wr a2 64 os) (f1 : ∀ x, a1 = some x → ¬ ownT tag x.block) (f2 : ∀ x, a2 = some x → ¬ ownT tag x.block) (hbel : Below w0.heap.size w0 wr) : OrdI w0 B L a1 ds a2 os (k + 1) m w' := by
  refine ⟨tag', S', h', fun j => by rw [he]; exact hq j, ho, hof, hgs, hd, hb, hn, her, row_kept r1 hk f1, row_kept r2 hk f2, fun x hx o => ?_, fun x hx o => ?_, h.behind hk hbel hB⟩
  · rcases hg.down _ o with q | q
    · exact f1 x hx q
    · have := row_lt r1 (by omega) x hx; omega
  · rcases hg.down _ o with q | q
    · exact f2 x hx q
    · have := row_lt r2 (by omega) x hx; omega
theorem ord_ok (hB : w0.heap.size ≤ B) (h : OrdI w0 B L a1 ds a2 os k n wr) (hk : k ≤ 100) (hn : n < 4) (hn1 : a1 = none → c1 = 0) (hn2 : a2 = none → c2 = 0) :
    Calls Try.prog 36 #[.pointer (some ⟨L.pa, 0, none⟩), .int .i64 1, .int .i64 2, .int .i64 (n : Int), .slice a1 256 c1, .slice a2 64 c2] wr fun e w' => e = .returned (.int .i64 0) ∧ OrdI w0 B L a1 ds a2 os (k + 1) (n + 1) w' := by
  obtain ⟨tag, S, h1, hq, ho, hof, ⟨g0, g1, g2, g3⟩, hd, hb, hx, her, r1, r2, f1, f2, hbel⟩ := h
  have ht := hq.tick
  refine (program_ok h1 1 2 (by omega) (by omega) hof (by omega) (by rw [ht]; exact hd) (by rw [hq.ki]; decide) a1 256 c1 a2 64 c2 n (by rw [ht]; show n < S.g2; omega) (by rw [ht]; exact g3.symm) rfl (by rw [ht]; exact hb) (by rw [ht]; exact hx) (by rw [hq.ki]; decide) ds os r1 hn1 r2 hn2 f1 f2).mono ?_
  rintro e w' ⟨rfl, tag', h2, hg, hk2⟩
  rw [ht] at h2
  exact ⟨rfl, ord_keep hB h1 hq h2 hg hk2 rfl (by show S.ops + 1 ≤ _; omega) hof ⟨g0, g1, g2, g3⟩ hd hb _ (by simp [NS.setNext]) (by show S.er 1 2 ≤ _; omega) r1 r2 f1 f2 hbel⟩
theorem ord_order (hB : w0.heap.size ≤ B) (h : OrdI w0 B L a1 ds a2 os k n wr) (hk : k ≤ 100) (p : Nat) (hp : p < 4) (hne : p ≠ n) :
    Calls Try.prog 36 #[.pointer (some ⟨L.pa, 0, none⟩), .int .i64 1, .int .i64 2, .int .i64 (p : Int), .slice a1 256 c1, .slice a2 64 c2] wr fun e w' => e = .returned (.int .i64 73) ∧ OrdI w0 B L a1 ds a2 os (k + 1) n w' := by
  obtain ⟨tag, S, h1, hq, ho, hof, ⟨g0, g1, g2, g3⟩, hd, hb, hx, her, r1, r2, f1, f2, hbel⟩ := h
  have ht := hq.tick
  refine (program_order h1 1 2 (by omega) (by omega) hof (by omega) (by rw [ht]; exact hd) (by rw [hq.ki]; decide) a1 256 c1 a2 64 c2 p (by rw [ht]; show p < S.g2; omega) (by rw [ht]; exact g3.symm) rfl (by rw [ht]; exact hb) (by rw [ht]; show p ≠ S.next 1 2; omega)).mono ?_
  rintro e w' ⟨rfl, tag', h2, hg, hk2⟩
  rw [ht] at h2
  exact ⟨rfl, ord_keep hB h1 hq h2 hg hk2 rfl (by show S.ops + 1 ≤ _; omega) hof ⟨g0, g1, g2, g3⟩ hd hb _ hx (by show S.er 1 2 ≤ _; omega) r1 r2 f1 f2 hbel⟩
theorem ord_range (hB : w0.heap.size ≤ B) (h : OrdI w0 B L a1 ds a2 os k n wr) (hk : k ≤ 100) :
    Calls Try.prog 36 #[.pointer (some ⟨L.pa, 0, none⟩), .int .i64 1, .int .i64 2, .int .i64 4, .slice a1 256 c1, .slice a2 64 c2] wr fun e w' => e = .returned (.int .i64 34) ∧ OrdI w0 B L a1 ds a2 os (k + 1) n w' := by
  obtain ⟨tag, S, h1, hq, ho, hof, ⟨g0, g1, g2, g3⟩, hd, hb, hx, her, r1, r2, f1, f2, hbel⟩ := h
  have ht := hq.tick
  refine (program_far h1 1 2 (by omega) (by omega) hof (by omega) (by rw [ht]; exact hd) (by rw [hq.ki]; decide) a1 256 c1 a2 64 c2 4 (by rw [ht]; show (S.g2 : Int) ≤ 4; omega)).mono ?_
  rintro e w' ⟨rfl, tag', h2, hg, hk2⟩
  rw [ht] at h2
  exact ⟨rfl, ord_keep hB h1 hq h2 hg hk2 rfl (by show S.ops + 1 ≤ _; omega) hof ⟨g0, g1, g2, g3⟩ hd hb _ hx (by show S.er 1 2 ≤ _; omega) r1 r2 f1 f2 hbel⟩
theorem ord_erase (hB : w0.heap.size ≤ B) (h : OrdI w0 B L a1 ds a2 os k n wr) (hk : k ≤ 100) :
    Calls Try.prog 37 #[.pointer (some ⟨L.pa, 0, none⟩), .int .i64 1, .int .i64 2] wr fun e w' => e = .returned (.int .i64 0) ∧ OrdI w0 B L a1 ds a2 os (k + 1) 0 w' := by
  obtain ⟨tag, S, h1, hq, ho, hof, ⟨g0, g1, g2, g3⟩, hd, hb, hx, her, r1, r2, f1, f2, hbel⟩ := h
  have ht := hq.tick
  refine (erase_ok h1 1 2 (by omega) (by omega) hof (by omega) (by rw [ht]; exact hd) (by rw [hq.ki]; decide) (by rw [hq.ki]; decide) (by rw [ht]; exact hb) (by rw [ht]; show S.er 1 2 < _; omega)).mono ?_
  rintro e w' ⟨rfl, tag', h2, hg, hk2⟩
  rw [ht] at h2
  exact ⟨rfl, ord_keep hB h1 hq h2 hg hk2 rfl (by show S.ops + 1 ≤ _; omega) hof ⟨g0, g1, g2, g3⟩ hd hb _ (by simp [NS.setNext, NS.setEr]) (by simp [NS.setNext, NS.setEr, NS.wipeTo, NS.setOps]; omega) r1 r2 f1 f2 hbel⟩
end

theorem tmod5 (z : Int) : -4 ≤ z.tmod 5 ∧ z.tmod 5 ≤ 4 := by
  by_cases h : 0 ≤ z
  · rw [Int.tmod_eq_emod_of_nonneg h]; omega
  · obtain ⟨y, rfl⟩ : ∃ y, z = -y := ⟨-z, by omega⟩
    rw [Int.neg_tmod, Int.tmod_eq_emod_of_nonneg (by omega)]; omega
set_option maxRecDepth 100000 in
set_option maxHeartbeats 3200000 in
theorem nandOrders_walk (a : Option Addr) (len cap : Nat) (zs : List Int) (w : World) (hin : RowZ w a len cap zs) :
    Calls Try.prog 8 #[.slice a len cap] w fun e w' => e = .returned (.bool true) ∧ Below w.heap.size w w' := by
  have hcm : (len : Int) ≤ 9223372036854775807 := by have := hin.2.1; have h2 := hin.2.2.1; unfold maxLen at h2; omega
  go_enter Try.func8, Try.ntmps8
  go_wp2_with fail
  refine (begun_any w).mono ?_
  rintro e w1 ⟨rfl, hb1⟩
  by_cases hl : 100 < len
  · have d1 : decide ((100 : Int) < (len : Int)) = true := decide_eq_true (by omega)
    clear hin
    go_wp2_with fail
    refine (begun_any w1).mono ?_
    rintro e w2 ⟨rfl, hb2⟩
    have HB := Lib.hid (hb1.trans (hb2.mono hb1.size))
    clear hb1 hb2
    go_wp2
    go_ret
    exact ⟨rfl, HB.out⟩
  · have d1 : decide ((100 : Int) < (len : Int)) = false := decide_eq_false (by omega)
    have HIN := Lib.hid hin
    clear hin
    go_wp2_with fail
    refine (shape_any 0 w1).mono ?_
    rintro e w2 ⟨⟨r, _, hr0, _, rfl⟩, hb2⟩
    obtain rfl := hr0 rfl
    have hb02 := hb1.trans (hb2.mono hb1.size)
    go_wp2_with fail
    refine (new_plain 0 (by omega) w2).mono ?_
    rintro e w3 ⟨tag, L, rfl, hn3, hb3⟩
    have hb03 := hb02.trans (hb3.mono hb02.size)
    have HW2 := Lib.hid hb02.size
    have HB03 := Lib.hid hb03
    obtain ⟨S, hS⟩ : ∃ S, S = NS.fresh (3 + 0) 16 4 256 (fun _ => NE.zero) := ⟨_, rfl⟩
    rw [← hS] at hn3
    have HS := Lib.hid hS
    have HN3 := Lib.hid hn3
    clear hS hb1 hb2 hb02 hb3 hb03 hr0 hn3
    go_wp2_with fail
    refine (zeros_any 256 w3 (by omega)).mono ?_
    intro e w4 h4
    obtain ⟨a1, c1, rfl, hr1, hn1, ho1, hb4⟩ := retOwn_len h4
    rw [List.length_replicate] at ho1 hr1 ⊢
    have HF1 := Lib.hid (own_far ho1)
    have HR1 := Lib.hid hr1
    have HNN1 := Lib.hid hn1
    have HB4 := Lib.hid hb4
    clear h4 ho1 hr1 hn1 hb4
    go_wp2_with fail
    refine (zeros_any 64 w4 (by omega)).mono ?_
    intro e w5 h5
    obtain ⟨a2, c2, rfl, hr2, hn2, ho2, hb5⟩ := retOwn_len h5
    rw [List.length_replicate] at ho2 hr2 ⊢
    have HB05 := Lib.hid (HB03.out.trans ((HB4.out.trans (hb5.mono HB4.out.size)).mono HB03.out.size))
    have HI : Hid (OrdI w w2.heap.size L a1 (List.replicate 256 0) a2 (List.replicate 64 0) 0 0 w5) := Lib.hid
      ⟨tag, S, (HN3.out.below HB4.out).below hb5, by rw [HS.out]; exact quiet_fresh _ _ _ _, by rw [HS.out]; exact Nat.le_refl _, by rw [HS.out]; rfl, by rw [HS.out]; exact ⟨rfl, rfl, rfl, rfl⟩, by rw [HS.out]; rfl, by rw [HS.out]; rfl, by rw [HS.out]; rfl, by rw [HS.out]; exact Nat.le_refl _,
        row_keep HR1.out hb5 (Nat.le_refl _), hr2, fun x hx => HN3.out.notOwn (HF1.out x hx), fun x hx => HN3.out.notOwn (Nat.le_trans HB4.out.size (own_far ho2 x hx)), HB05.out⟩
    have HNN2 := Lib.hid hn2
    obtain ⟨ds, hds⟩ : ∃ ds : List Nat, ds = List.replicate 256 0 := ⟨_, rfl⟩
    obtain ⟨os, hos⟩ : ∃ os : List Nat, os = List.replicate 64 0 := ⟨_, rfl⟩
    rw [← hds, ← hos] at HI
    clear h5 ho2 hr2 hn2 hb5 hds hos HB05 HR1 HF1 HB4 HN3 HS HB03
    go_wp2_with fail
    go_loopw [7, 8] (fun nx i wr => ∃ k n : Nat, k ≤ len ∧ n ≤ 4 ∧ i = .int .i64 (k : Int) ∧ nx = .int .i64 (n : Int) ∧ OrdI w w2.heap.size L a1 ds a2 os k n wr) (fun _ i _ => len - (intOf i).toNat)
    case atStart => exact ⟨0, 0, Nat.zero_le _, by omega, rfl, rfl, HI.out⟩
    case round =>
      obtain ⟨k, n, hk, hn, rfl, rfl, ho⟩ := hrel
      obtain ⟨wo, hwo⟩ : ∃ wo : World, wo = wr := ⟨_, rfl⟩
      subst hwo
      clear HI
      by_cases hlt : k < len
      · obtain ⟨b, off, rfl, hc, hz1, hz2⟩ := rowZ_at (rowZ_below HIN.out (by obtain ⟨_, _, _, _, _, _, _, _, _, _, _, _, _, _, _, hb⟩ := ho; exact hb)) hlt
        obtain ⟨z, hz⟩ : ∃ z, zs.getD k 0 = z := ⟨_, rfl⟩
        rw [hz] at hc hz1 hz2
        obtain ⟨m, hm⟩ : ∃ m, z.tmod 5 = m := ⟨_, rfl⟩
        have hml : -4 ≤ m ∧ m ≤ 4 := by rw [← hm]; exact tmod5 z
        have HO := Lib.hid ho
        have d2 : decide (k < len) = true := by simpa using hlt
        have HLT := Lib.hid hlt
        clear ho hz hlt
        have HML := Lib.hid hml
        have HW := Lib.hid hm
        have HK : Hid (k ≤ 100) := Lib.hid (by omega)
        have HNL := Lib.hid hn
        by_cases m0 : m < 0
        · have d3 : decide (m < 0) = true := by simpa using m0
          clear hml m0 hn
          go_wp2_with fail
          ((with_reducible refine (ord_erase HW2.out HO.out HK.out).mono ?_))
          rintro e w6 ⟨rfl, ho6⟩
          have HO6 := Lib.hid ho6
          clear ho6
          go_wp2
          go_roundw
          case rel => exact ⟨k + 1, 0, HLT.out, by omega, by go_num, rfl, HO6.out⟩
          case measure => have := HLT.out; simp [intOf]; omega
        · obtain ⟨p, rfl⟩ : ∃ p : Nat, m = (p : Int) := ⟨m.toNat, by omega⟩
          have d3 : decide ((p : Int) < 0) = false := by simp
          by_cases p4 : p = 4
          · subst p4
            clear hml m0 hn
            go_wp2_with fail
            refine (ord_range (a1 := a1) (c1 := c1) (ds := ds) (a2 := a2) (c2 := c2) (os := os) HW2.out HO.out HK.out).mono ?_
            rintro e w6 ⟨rfl, ho6⟩
            have HO6 := Lib.hid ho6
            clear ho6
            go_wp2
            go_roundw
            case rel => exact ⟨k + 1, n, HLT.out, HNL.out, by go_num, rfl, HO6.out⟩
            case measure => have := HLT.out; simp [intOf]; omega
          · have d4 : decide ((3 : Int) < (p : Int)) = false := by simp; omega
            have HP4 : Hid (p < 4) := Lib.hid (by omega)
            by_cases pn : p = n
            · subst pn
              have d5 : ((p : Int) == (p : Int)) = true := by simp
              have hpb : (p : Int) < 4 := by omega
              clear hml m0 hn p4
              go_wp2_with fail
              ((with_reducible refine (ord_ok (c1 := c1) (c2 := c2) HW2.out HO.out HK.out HP4.out HNN1.out HNN2.out).mono ?_))
              rintro e w6 ⟨rfl, ho6⟩
              have HO6 := Lib.hid ho6
              clear ho6
              go_wp2
              go_roundw
              case rel => exact ⟨k + 1, p + 1, HLT.out, HP4.out, by go_num, by go_num, HO6.out⟩
              case measure => have := HLT.out; simp [intOf]; omega
            · have d5 : ((p : Int) == (n : Int)) = false := by simp; omega
              have HPN := Lib.hid pn
              clear hml m0 hn p4 pn
              go_wp2_with fail
              ((with_reducible refine (ord_order (c1 := c1) (c2 := c2) HW2.out HO.out HK.out p HP4.out HPN.out).mono ?_))
              rintro e w6 ⟨rfl, ho6⟩
              have HO6 := Lib.hid ho6
              clear ho6
              go_wp2
              go_roundw
              case rel => exact ⟨k + 1, n, HLT.out, HNL.out, by go_num, rfl, HO6.out⟩
              case measure => have := HLT.out; simp [intOf]; omega
      · have HB : Hid (Below w.heap.size w wo) := Lib.hid (by obtain ⟨_, _, _, _, _, _, _, _, _, _, _, _, _, _, _, hb⟩ := ho; exact hb)
        have d2 : decide (k < len) = false := by simpa using hlt
        clear ho
        go_wp2
        go_ret
        exact ⟨rfl, HB.out⟩

end Go.Proofs.Ytbfmpcomjmcfjaa
