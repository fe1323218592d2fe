/- RecordBlanks: the walk. -/
import Derived.Test.YtjnjkoodeacpdaaRSealed
import Derived.Test.YtjnjkoodeacpdaaRefPart
import Derived.Test.YtjnjkoodeacpdaaFrame
import Derived.Deep.DeepCutAuto
namespace Go.Proofs.Ytjnjkoodeacpdaa
open Go.RowKit

/-- The bytes up to k are 255. -/
def upTo (bs : List Nat) (k : Nat) : List Nat := List.replicate k 255 ++ bs.drop k
theorem upTo_zero (bs : List Nat) : upTo bs 0 = bs := by simp [upTo]
theorem upTo_len {bs : List Nat} {k : Nat} (h : k ≤ bs.length) : (upTo bs k).length = bs.length := by simp [upTo]; omega
theorem upTo_set {bs : List Nat} {k : Nat} (h : k < bs.length) : (upTo bs k).set k 255 = upTo bs (k + 1) := by
  unfold upTo
  rw [List.set_append_right _ _ (by simp), List.length_replicate, Nat.sub_self, List.drop_eq_getElem_cons h, List.set_cons_zero, List.replicate_succ', List.append_assoc]
  rfl
theorem beq_all (bs : List Nat) (k : Nat) (hk : k < bs.length) (acc : Bool) : (acc && blankB (bs.take k) && (((bs.getD k 0 : Nat) : Int) == 255)) = (acc && blankB (bs.take (k + 1))) := by
  unfold blankB
  rw [take_snoc_getD bs k hk, List.all_append]
  have e : (((bs.getD k 0 : Nat) : Int) == 255) = (bs.getD k 0 == 255) := by
    by_cases h : bs.getD k 0 = 255
    · rw [h]; rfl
    · have h1 : ¬ ((bs.getD k 0 : Nat) : Int) = 255 := by omega
      rw [beq_eq_false_iff_ne.2 h, beq_eq_false_iff_ne.2 h1]
  rw [e]
  simp [Bool.and_assoc]

/-- Behind the filling: the two loops that look at all bytes, and the answer. -/
theorem own_monoB' {B B' : Nat} {w : World} {g n cap : Nat} {l : List Nat} (h : OwnB B w g n cap l) (hB : B' ≤ B) : OwnB B' w g n cap l := ⟨own_mono h.1 hB, h.2⟩

theorem own_set_far {B : Nat} {w : World} {sv : Value} {l : List Nat} (h : Own B w sv l) {b off : Nat} (hb : b < B) (v : Value) : Own B (w.setCell ⟨b, off, none⟩ v) sv l := by
  refine ⟨⟨h.1.1, ?_⟩, h.2⟩
  rcases h.1.2 with h0 | ⟨g, cap, cur, e1, e2, e3, e4⟩
  · exact .inl h0
  · refine .inr ⟨g, cap, cur, e1, e2, ?_, e4⟩
    rw [Below.heap_setCell w ⟨b, off, none⟩ v g (by show g ≠ b; omega)]
    exact e3
set_option maxRecDepth 100000 in
set_option maxHeartbeats 3200000 in
theorem recordBlanks_plain (a : Option Addr) (len cap : Nat) (bs : List Nat) (a2 : Option Addr) (len2 cap2 : Nat) (cs : List Nat) (w : World) (hin : InB w a len cap bs) (hin2 : InB w a2 len2 cap2 cs) (h600 : len ≤ 600) (h100 : len2 ≤ 100) :
    Calls Try.prog 12 #[.slice a len cap, .slice a2 len2 cap2, .bool false] w fun e w' => e = .returned (.bool true) ∧ Below w.heap.size w w' := by
  obtain ⟨hr, hlc, hcm, hn⟩ := hin
  obtain ⟨hr2, hlc2, hcm2, hn2⟩ := hin2
  unfold maxLen at hcm hcm2
  have d1 : decide ((600 : Int) < (len : Int)) = false := decide_eq_false (by omega)
  have d2 : decide ((100 : Int) < (len2 : Int)) = false := decide_eq_false (by omega)
  have HR := Lib.hid hr
  have HR2 := Lib.hid hr2
  clear hr hr2 hn hn2
  go_enter Try.func12, Try.ntmps12
  go_wp2
  go_loop [9, 10] (fun acc i => ∃ k : Nat, k ≤ len ∧ i = .int .i64 (k : Int) ∧ acc = .bool (blankB (bs.take k))) (fun _ i => len - (intOf i).toNat)
  case atStart => exact ⟨0, by omega, rfl, rfl⟩
  case round =>
    obtain ⟨k, hk, rfl, rfl⟩ := hrel
    by_cases hlt : k < len
    · obtain ⟨b, off, x, rfl, hc, hx, HX⟩ := row_cell HR.out hlt
      have hkl : k < bs.length := by rw [HR.out.1]; exact hlt
      have HS := Lib.hid (beq_all bs k hkl true)
      rw [← HX.out] at HS
      simp only [Bool.true_and] at HS
      cases hacc : blankB (bs.take k) with
      | false =>
        rw [hacc] at HS
        have HN : Hid (blankB (bs.take (k + 1)) = false) := Lib.hid (by rw [← HS.out]; rfl)
        clear hacc
        go_wp2
        go_round
        case rel => exact ⟨k + 1, by omega, by go_num, by rw [HN.out]⟩
        case measure => simp [intOf]; omega
      | true =>
        rw [hacc] at HS
        have HN : Hid (((x : Int) == 255) = blankB (bs.take (k + 1))) := Lib.hid (by rw [← HS.out]; rfl)
        clear hacc
        go_wp2
        go_round
        case rel => exact ⟨k + 1, by omega, by go_num, by rw [← HN.out]⟩
        case measure => simp [intOf]; omega
    · have HKE : Hid (k = len) := Lib.hid (by omega)
      have HK : Hid (bs.take k = bs) := Lib.hid (List.take_of_length_le (by rw [HR.out.1]; omega))
      rw [HK.out]
      obtain ⟨P, hP⟩ : ∃ P, blankB bs = P := ⟨_, rfl⟩
      rw [hP]
      have HP := Lib.hid hP
      clear hP
      have hge : ¬ ((k : Int) < (len : Int)) := by omega
      go_wp2
      go_loop [9, 11] (fun acc i => ∃ k : Nat, k ≤ len2 ∧ i = .int .i64 (k : Int) ∧ acc = .bool (P && blankB (cs.take k))) (fun _ i => len2 - (intOf i).toNat)
      case atStart => exact ⟨0, by omega, rfl, by simp [blankB]⟩
      case round =>
        obtain ⟨j, hj, rfl, rfl⟩ := hrel
        by_cases hlj : j < len2
        · obtain ⟨b', off', y, rfl, hc', hy, HY⟩ := row_cell HR2.out hlj
          have hjl : j < cs.length := by rw [HR2.out.1]; exact hlj
          have HS := Lib.hid (beq_all cs j hjl P)
          rw [← HY.out] at HS
          cases hacc : (P && blankB (cs.take j)) with
          | false =>
            rw [hacc] at HS
            have HN : Hid ((P && blankB (cs.take (j + 1))) = false) := Lib.hid (by rw [← HS.out]; rfl)
            clear hacc
            go_wp2
            go_round
            case rel => exact ⟨j + 1, by omega, by go_num, by rw [HN.out]⟩
            case measure => simp [intOf]; omega
          | true =>
            rw [hacc] at HS
            have HN : Hid (((y : Int) == 255) = (P && blankB (cs.take (j + 1)))) := Lib.hid (by rw [← HS.out]; rfl)
            clear hacc
            go_wp2
            go_round
            case rel => exact ⟨j + 1, by omega, by go_num, by rw [← HN.out]⟩
            case measure => simp [intOf]; omega
        · have HK2 : Hid (cs.take j = cs) := Lib.hid (List.take_of_length_le (by rw [HR2.out.1]; omega))
          rw [HK2.out]
          have hge2 : ¬ ((j : Int) < (len2 : Int)) := by omega
          go_wp2_with fail
          refine (sealed_any w).mono ?_
          rintro e w1 ⟨rfl, hb1⟩
          have hr1 := row_keep HR.out hb1 (Nat.le_refl _)
          have hr2 := row_keep HR2.out hb1 (Nat.le_refl _)
          have hbe := id hb1
          go_wp2_with fail
          refine (Blank_any _ len _ bs _ len2 _ cs w1 hr1 (by omega) hr2 (by omega)).mono ?_
          rintro e w2 ⟨rfl, rfl⟩
          rw [HP.out]
          generalize (P && blankB cs) = R
          have hRR : (R == R) = true := by simp
          go_wp2
          go_ret
          exact ⟨ret_bool (by simp), hbe⟩
set_option maxRecDepth 100000 in
set_option maxHeartbeats 3200000 in
theorem recordBlanks_full (a : Option Addr) (len cap : Nat) (bs : List Nat) (a2 : Option Addr) (len2 cap2 : Nat) (cs : List Nat) (w : World) (hin : InB w a len cap bs) (hin2 : InB w a2 len2 cap2 cs) (h600 : len ≤ 600) (h100 : len2 ≤ 100) :
    Calls Try.prog 12 #[.slice a len cap, .slice a2 len2 cap2, .bool true] w fun e w' => e = .returned (.bool true) ∧ Below w.heap.size w w' := by
  obtain ⟨hr, hlc, hcm, hn⟩ := hin
  obtain ⟨hr2, hlc2, hcm2, hn2⟩ := hin2
  have hcm_ := hcm
  have hcm2_ := hcm2
  unfold maxLen at hcm hcm2
  have d1 : decide ((600 : Int) < (len : Int)) = false := decide_eq_false (by omega)
  have d2 : decide ((100 : Int) < (len2 : Int)) = false := decide_eq_false (by omega)
  go_enter Try.func12, Try.ntmps12
  go_wp2_with fail
  refine (part_any a len cap bs w hr hlc hcm_ hn (by omega)).mono ?_
  intro e w1 h1
  obtain ⟨a3, c3, rfl, _, _, ho3, hb1⟩ := retOwn_len h1
  rw [hr.1] at ho3 ⊢
  have hr21 := row_keep hr2 hb1 (Nat.le_refl _)
  go_wp2_with fail
  refine (part_any a2 len2 cap2 cs w1 hr21 hlc2 hcm2_ hn2 (by omega)).mono ?_
  intro e w2 h2
  obtain ⟨a4, c4, rfl, _, _, ho4, hb2⟩ := retOwn_len h2
  rw [hr2.1] at ho4 ⊢
  have ho32 := own_up ho3 hb2
  have hb02 := bel_trans hb1 hb2
  have hlen := hr.1
  have hlen2 := hr2.1
  have HL := Lib.hid hlen
  have HL2 := Lib.hid hlen2
  have HZ1 : Hid (w.heap.size ≤ w1.heap.size) := Lib.hid hb1.size
  have HO3 : Hid (∀ k, (Value.slice a3 len c3).ownBlock = some k → k < w1.heap.size) := Lib.hid fun k hk => (own_base ho3 k hk).2
  clear h1 h2 ho3 hr hr2 hr21 hb1 hb2 hlen hlen2 hn hn2 hcm_ hcm2_
  go_wp2
  go_loopw [7] (fun i wr => ∃ k : Nat, k ≤ len ∧ i = .int .i64 (k : Int) ∧ Own w.heap.size wr (.slice a3 len c3) (upTo bs k) ∧ Own w1.heap.size wr (.slice a4 len2 c4) cs ∧ Below w.heap.size w wr) (fun i _ => len - (intOf i).toNat)
  case atStart => exact ⟨0, by omega, rfl, by rw [upTo_zero]; exact ho32, ho4, hb02⟩
  case round =>
    obtain ⟨k, hk, rfl, hO1, hO2, hbr⟩ := hrel
    clear ho32 ho4 hb02
    by_cases hlt : k < len
    · have hul : (upTo bs k).length = len := by rw [upTo_len (by rw [HL.out]; omega), HL.out]
      obtain ⟨g, gc, hsv, hg0, hg1, hB, _⟩ := ownB_of hO1 (by omega)
      rw [hul] at hsv hB
      cases hsv
      have hgw : g < w1.heap.size := HO3.out g rfl
      have hki : (k : Int) < (len : Int) := by omega
      have hk0 : (0 : Int) ≤ (k : Int) := by omega
      have hc := ownB_cell hB k hlt
      have hf := ownB_frozen hB k
      have hB2 := ownB_set hB k 255 (by omega)
      rw [upTo_set (by rw [HL.out]; exact hlt)] at hB2
      have HB2 := Lib.hid hB2.1
      have HO2 := Lib.hid (own_set_far hO2 (off := k) hgw (.int .u8 255))
      have HBR := Lib.hid (hbr.setCell (p := ⟨g, k, none⟩) hg0 (.int .u8 255))
      obtain ⟨y, hy⟩ : ∃ y, (upTo bs k).getD k 0 = y := ⟨_, rfl⟩
      rw [hy] at hc
      clear hB hB2 hO1 hO2 hbr hul hgw hy hg0 hg1
      go_wp2
      go_roundw
      case rel => exact ⟨k + 1, by omega, by go_num, HB2.out, HO2.out, HBR.out⟩
      case measure => simp [intOf]; omega
    · have hkl : len = k := by omega
      subst hkl
      have HOA := Lib.hid hO1
      have hge : ¬ ((len : Int) < (len : Int)) := by omega
      clear hO1
      go_wp2
      go_loopw [8] (fun i wq => ∃ j : Nat, j ≤ len2 - 1 ∧ i = .int .i64 (j : Int) ∧ Own w.heap.size wq (.slice a3 len c3) (upTo bs len) ∧ Own w1.heap.size wq (.slice a4 len2 c4) (upTo cs j) ∧ Below w.heap.size w wq) (fun i _ => len2 - (intOf i).toNat)
      case atStart => exact ⟨0, by omega, rfl, HOA.out, by rw [upTo_zero]; exact hO2, hbr⟩
      case round =>
        obtain ⟨j, hj, rfl, hP1, hP2, hbq⟩ := hrel
        clear hO2 hbr HOA
        by_cases hlj : j < len2 - 1
        · have hul : (upTo cs j).length = len2 := by rw [upTo_len (by rw [HL2.out]; omega), HL2.out]
          obtain ⟨g, gc, hsv, hg0, hg1, hB, _⟩ := ownB_of hP2 (by omega)
          rw [hul] at hsv hB
          cases hsv
          have hji : (j : Int) < (len2 : Int) - 1 := by omega
          have hji2 : (j : Int) < (len2 : Int) := by omega
          have hj0 : (0 : Int) ≤ (j : Int) := by omega
          have hc := ownB_cell hB j (by omega)
          have hf := ownB_frozen hB j
          have hB2 := ownB_set hB j 255 (by omega)
          rw [upTo_set (by rw [HL2.out]; omega)] at hB2
          have HB2 := Lib.hid hB2.1
          have hfar : Own w.heap.size (wr.setCell ⟨g, j, none⟩ (.int .u8 255)) (.slice a3 len c3) (upTo bs len) := by
            refine ⟨⟨hP1.1.1, ?_⟩, hP1.2⟩
            rcases hP1.1.2 with h0 | ⟨g', cap', cur', e1, e2, e3, e4⟩
            · exact .inl h0
            · refine .inr ⟨g', cap', cur', e1, e2, ?_, e4⟩
              have hgg := HO3.out g' (by rw [e1]; rfl)
              rw [Below.heap_setCell wr ⟨g, j, none⟩ _ g' (by show g' ≠ g; omega)]
              exact e3
          have HF := Lib.hid hfar
          have HBQ := Lib.hid (hbq.setCell (p := ⟨g, j, none⟩) (by have := HZ1.out; show w.heap.size ≤ g; omega) (.int .u8 255))
          obtain ⟨y, hy⟩ : ∃ y, (upTo cs j).getD j 0 = y := ⟨_, rfl⟩
          rw [hy] at hc
          clear hB hB2 hP1 hP2 hbq hul hy hg0 hg1 hfar
          go_wp2
          go_roundw
          case rel => exact ⟨j + 1, by omega, by go_num, HF.out, HB2.out, HBQ.out⟩
          case measure => simp [intOf]; omega
        · have hge3 : ¬ ((j : Int) < (len2 : Int) - 1) := by omega
          obtain ⟨X, hX⟩ : ∃ X, upTo bs len = X := ⟨_, rfl⟩
          obtain ⟨Y, hY⟩ : ∃ Y, upTo cs j = Y := ⟨_, rfl⟩
          have hXl : X.length = len := by rw [← hX, upTo_len (by rw [HL.out]; omega), HL.out]
          have hYl : Y.length = len2 := by rw [← hY, upTo_len (by rw [HL2.out]; omega), HL2.out]
          rw [hX] at hP1
          rw [hY] at hP2
          obtain ⟨a5, c5, e5, hr5, _⟩ := row_of_own hP1
          obtain ⟨a6, c6, e6, hr6, _⟩ := row_of_own hP2
          rw [hXl] at hr5 e5
          rw [hYl] at hr6 e6
          cases e5
          cases e6
          have HR := Lib.hid hr5
          have HR2 := Lib.hid hr6
          have HBQ := Lib.hid hbq
          clear hP1 hP2 hr5 hr6 hbq hX hY hXl hYl hj
          go_wp2
          go_loop [9, 10] (fun acc i => ∃ k : Nat, k ≤ len ∧ i = .int .i64 (k : Int) ∧ acc = .bool (blankB (X.take k))) (fun _ i => len - (intOf i).toNat)
          case atStart => exact ⟨0, by omega, rfl, rfl⟩
          case round =>
            obtain ⟨k, hk, rfl, rfl⟩ := hrel
            by_cases hlt : k < len
            · obtain ⟨b, off, x, rfl, hc, hx, HX⟩ := row_cell HR.out hlt
              have hkl : k < X.length := by rw [HR.out.1]; exact hlt
              have HS := Lib.hid (beq_all X k hkl true)
              rw [← HX.out] at HS
              simp only [Bool.true_and] at HS
              cases hacc : blankB (X.take k) with
              | false =>
                rw [hacc] at HS
                have HN : Hid (blankB (X.take (k + 1)) = false) := Lib.hid (by rw [← HS.out]; rfl)
                clear hacc
                go_wp2
                go_round
                case rel => exact ⟨k + 1, by omega, by go_num, by rw [HN.out]⟩
                case measure => simp [intOf]; omega
              | true =>
                rw [hacc] at HS
                have HN : Hid (((x : Int) == 255) = blankB (X.take (k + 1))) := Lib.hid (by rw [← HS.out]; rfl)
                clear hacc
                go_wp2
                go_round
                case rel => exact ⟨k + 1, by omega, by go_num, by rw [← HN.out]⟩
                case measure => simp [intOf]; omega
            · have HKE : Hid (k = len) := Lib.hid (by omega)
              have HK : Hid (X.take k = X) := Lib.hid (List.take_of_length_le (by rw [HR.out.1]; omega))
              rw [HK.out]
              obtain ⟨P, hP⟩ : ∃ P, blankB X = P := ⟨_, rfl⟩
              rw [hP]
              have HP := Lib.hid hP
              clear hP
              have hge : ¬ ((k : Int) < (len : Int)) := by omega
              go_wp2
              go_loop [9, 11] (fun acc i => ∃ k : Nat, k ≤ len2 ∧ i = .int .i64 (k : Int) ∧ acc = .bool (P && blankB (Y.take k))) (fun _ i => len2 - (intOf i).toNat)
              case atStart => exact ⟨0, by omega, rfl, by simp [blankB]⟩
              case round =>
                obtain ⟨j, hj, rfl, rfl⟩ := hrel
                by_cases hlj : j < len2
                · obtain ⟨b', off', y, rfl, hc', hy, HY⟩ := row_cell HR2.out hlj
                  have hjl : j < Y.length := by rw [HR2.out.1]; exact hlj
                  have HS := Lib.hid (beq_all Y j hjl P)
                  rw [← HY.out] at HS
                  cases hacc : (P && blankB (Y.take j)) with
                  | false =>
                    rw [hacc] at HS
                    have HN : Hid ((P && blankB (Y.take (j + 1))) = false) := Lib.hid (by rw [← HS.out]; rfl)
                    clear hacc
                    go_wp2
                    go_round
                    case rel => exact ⟨j + 1, by omega, by go_num, by rw [HN.out]⟩
                    case measure => simp [intOf]; omega
                  | true =>
                    rw [hacc] at HS
                    have HN : Hid (((y : Int) == 255) = (P && blankB (Y.take (j + 1)))) := Lib.hid (by rw [← HS.out]; rfl)
                    clear hacc
                    go_wp2
                    go_round
                    case rel => exact ⟨j + 1, by omega, by go_num, by rw [← HN.out]⟩
                    case measure => simp [intOf]; omega
                · have HK2 : Hid (Y.take j = Y) := Lib.hid (List.take_of_length_le (by rw [HR2.out.1]; omega))
                  rw [HK2.out]
                  have hge2 : ¬ ((j : Int) < (len2 : Int)) := by omega
                  go_wp2_with fail
                  refine (sealed_any wr).mono ?_
                  rintro e w1 ⟨rfl, hb1⟩
                  have hr1 := row_keep HR.out hb1 (Nat.le_refl _)
                  have hr2 := row_keep HR2.out hb1 (Nat.le_refl _)
                  have hbe := bel_trans HBQ.out hb1
                  go_wp2_with fail
                  refine (Blank_any _ len _ X _ len2 _ Y w1 hr1 (by omega) hr2 (by omega)).mono ?_
                  rintro e w2 ⟨rfl, rfl⟩
                  rw [HP.out]
                  generalize (P && blankB Y) = R
                  have hRR : (R == R) = true := by simp
                  go_wp2
                  go_ret
                  exact ⟨ret_bool (by simp), hbe⟩

theorem recordBlanks_walk (a : Option Addr) (len cap : Nat) (bs : List Nat) (a2 : Option Addr) (len2 cap2 : Nat) (cs : List Nat) (full : Bool) (w : World) (hin : InB w a len cap bs) (hin2 : InB w a2 len2 cap2 cs) :
    Calls Try.prog 12 #[.slice a len cap, .slice a2 len2 cap2, .bool full] w fun e w' => e = .returned (.bool true) ∧ Below w.heap.size w w' := by
  by_cases h600 : len ≤ 600
  · by_cases h100 : len2 ≤ 100
    · cases full
      · exact recordBlanks_plain a len cap bs a2 len2 cap2 cs w hin hin2 h600 h100
      · exact recordBlanks_full a len cap bs a2 len2 cap2 cs w hin hin2 h600 h100
    · have d1 : decide ((600 : Int) < (len : Int)) = false := decide_eq_false (by omega)
      have d2 : decide ((100 : Int) < (len2 : Int)) = true := decide_eq_true (by omega)
      have hm := Nat.le_trans hin2.2.1 hin2.2.2.1
      unfold maxLen at hm
      clear hin hin2
      go_enter Try.func12, Try.ntmps12
      go_wp2_with fail
      refine (sealed_any w).mono ?_
      rintro e w1 ⟨rfl, hb⟩
      go_wp2
      go_ret
      exact ⟨rfl, hb⟩
  · have d1 : decide ((600 : Int) < (len : Int)) = true := decide_eq_true (by omega)
    have hm := Nat.le_trans hin.2.1 hin.2.2.1
    unfold maxLen at hm
    clear hin hin2
    go_enter Try.func12, Try.ntmps12
    go_wp2_with fail
    refine (sealed_any w).mono ?_
    rintro e w1 ⟨rfl, hb⟩
    go_wp2
    go_ret
    exact ⟨rfl, hb⟩

end Go.Proofs.Ytjnjkoodeacpdaa
