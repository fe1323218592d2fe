/- gabionref17.Names. -/
import Derived.Test.YtdpkinppkhnjkaaDnOf
namespace Go.Proofs.Ytdpkinppkhnjkaa
open Go.RowKit

theorem ins_sorted {out : List ByteArray} {s : ByteArray} {k : Nat} (h : out.Pairwise leS) (hk : k ≤ out.length) (h1 : ∀ j, j < k → lessOf s (out.getD j ByteArray.empty) = false) (h2 : k = out.length ∨ lessOf s (out.getD k ByteArray.empty) = true) : (out.take k ++ [s] ++ out.drop k).Pairwise leS := by
  have hsplit : (out.take k ++ out.drop k).Pairwise leS := by rw [List.take_append_drop]; exact h
  rw [List.pairwise_append] at hsplit
  obtain ⟨p1, p2, p3⟩ := hsplit
  have lo : ∀ x ∈ out.take k, leS x s := fun x hx => by
    obtain ⟨j, hj, rfl⟩ := List.getElem_of_mem hx
    rw [List.length_take] at hj
    have := h1 j (by omega)
    rw [List.getElem_take]
    unfold leS
    simpa [List.getD, show j < out.length by omega] using this
  have hi : ∀ y ∈ out.drop k, leS s y := fun y hy => by
    rcases h2 with rfl | h2
    · rw [List.drop_length] at hy; cases hy
    · rcases Nat.lt_or_ge k out.length with c | c
      · rw [List.drop_eq_getElem_cons c] at hy p2
        have e : out.getD k ByteArray.empty = out[k] := by simp [List.getD, c]
        rw [e] at h2
        rcases List.mem_cons.1 hy with rfl | hy
        · exact lt_leS h2
        · exact leS_trans (lt_leS h2) ((List.pairwise_cons.1 p2).1 y hy)
      · rw [List.drop_of_length_le c] at hy; cases hy
  rw [List.append_assoc, List.pairwise_append]
  refine ⟨p1, ?_, fun x hx y hy => ?_⟩
  · rw [List.singleton_append, List.pairwise_cons]
    exact ⟨hi, p2⟩
  · rcases List.mem_append.1 hy with hy | hy
    · rw [List.mem_singleton] at hy; subst hy; exact lo x hx
    · exact p3 x hx y hy
theorem take_getD (l : List ByteArray) {q i : Nat} (h : i < q) : (l.take q).getD i ByteArray.empty = l.getD i ByteArray.empty := by
  simp [List.getD, h]
theorem drop_getD (l : List ByteArray) (q i : Nat) : (l.drop q).getD i ByteArray.empty = l.getD (q + i) ByteArray.empty := by
  simp [List.getD]
theorem ins_perm (out : List ByteArray) (s : ByteArray) (k : Nat) : (out.take k ++ [s] ++ out.drop k).Perm (out ++ [s]) := by
  rw [List.append_assoc]
  refine (List.perm_append_comm.append_left _).trans ?_
  rw [← List.append_assoc, List.take_append_drop]
set_option maxRecDepth 100000 in
set_option maxHeartbeats 4000000 in
theorem refNames_any (a : Option Addr) (n cap : Nat) (L : EntL) (w : World) (hr : RowRf w a n L) (hn : n ≤ 100000) (hz : ∀ x ∈ L, x.2.size ≤ 1000) :
    Calls Try.prog 7 #[.slice a n cap] w (NamesRet w (nmL L)) := by
  have HR := Lib.hid hr
  have HN := Lib.hid hn
  have HL : Hid (L.length = n) := Lib.hid hr.1
  have HZ := Lib.hid hz
  have HZN : Hid (∀ s ∈ nmL L, s.size ≤ 1000) := Lib.hid fun s hs => by
    obtain ⟨x, hx, rfl⟩ := nmL_mem hs
    exact hz x hx
  clear hr hn hz
  go_enter Try.func7, Try.ntmps7
  go_wp2_with fail
  go_loopw [3, 4, 5, 6] (fun v iv _ _ wr => ∃ (k : Nat) (out : List ByteArray), iv = .int .i64 (k : Int) ∧ k ≤ n ∧ StrsOwn w.heap.size wr v out ∧ out.Perm (nmL (L.take k)) ∧ out.Pairwise leS ∧ Below w.heap.size w wr) (fun _ iv _ _ _ => n - (intOf iv).toNat)
  case atStart => exact ⟨0, [], rfl, Nat.zero_le _, strs_nil _ _, .refl _, .nil, Below.refl _ _⟩
  case round =>
    obtain ⟨k, out, rfl, hk, ho, hp, hs, hb⟩ := hrel
    have HO := Lib.hid ho
    have HP := Lib.hid hp
    have HS := Lib.hid hs
    have HB := Lib.hid hb
    clear ho hp hs hb
    by_cases hlt : k < n
    · have t1 : decide ((k : Int) < (n : Int)) = true := by simp; omega
      have t1' : decide (k < n) = true := by simpa using hlt
      have hR := HR.out.below HB.out
      obtain ⟨b, off, nd, nm, rfl, hL, hnd, c1, c2⟩ := hR.at hlt
      have j0 : (0 : Int) ≤ (k : Int) := by omega
      have j1 : (k : Int) < (n : Int) := by omega
      obtain ⟨k1, hk1⟩ : ∃ x, k + 1 = x := ⟨_, rfl⟩
      have e1 : (k : Int) + 1 = (k1 : Int) := by omega
      have u1 : IntKind.i64.wrap (k1 : Int) = (k1 : Int) := by have := HN.out; rw [IntKind.wrap_i64]; omega
      have HT := Lib.hid (nmL_step L (k := k) (by rw [HL.out]; exact hlt))
      rw [hL, hk1] at HT
      simp only at HT
      have HNZ : Hid (nm.size ≤ 1000) := Lib.hid (by
        have e : L.getD k ent0 = L[k]'(by rw [HL.out]; exact hlt) := by simp [List.getD, HL.out, hlt]
        have := HZ.out (L[k]'(by rw [HL.out]; exact hlt)) (List.getElem_mem _)
        rw [← e, hL] at this
        exact this)
      have HK : Hid (k < n ∧ k1 = k + 1) := Lib.hid ⟨hlt, by omega⟩
      have HC2 := Lib.hid c2
      clear hR hL hlt hk hk1
      by_cases hz : nd = 0
      · subst hz
        rw [if_pos rfl, List.append_nil] at HT
        go_wp2_with fail
        clear e1 u1
        go_roundw
        case rel => exact ⟨k1, out, rfl, by have := HK.out; omega, HO.out, by rw [HT.out]; exact HP.out, HS.out, HB.out⟩
        case measure => have := HK.out; simp [intOf]; omega
      · have t2 : ((nd : Int) == 0) = false := by rw [beq_eq_false_iff_ne]; omega
        rw [if_neg hz] at HT
        have HNL : Hid (out.length ≤ 100000) := Lib.hid (by
          have h1 := HP.out.length_eq
          have h2 := nmL_le (L.take k)
          rw [List.length_take] at h2
          have := HN.out; have := HK.out
          omega)
        have HOZ : Hid (∀ s ∈ out, s.size ≤ 1000) := Lib.hid fun s hs => by
          obtain ⟨x, hx, e⟩ := nmL_mem (HP.out.mem_iff.1 hs)
          rw [← e]
          exact HZ.out x (List.mem_of_mem_take hx)
        obtain ⟨oa, oc, rfl, hrow⟩ := rowS_of_own HO.out
        have HRW := Lib.hid hrow
        clear hz hrow
        obtain ⟨M, hM⟩ : ∃ x, out.length = x := ⟨_, rfl⟩
        rw [hM] at HRW HNL ⊢
        have HM := Lib.hid hM
        obtain ⟨V, rfl⟩ : ∃ x, x = wr := ⟨wr, rfl⟩
        clear hM
        go_wp2_with fail
        have HE1 := Lib.hid (And.intro e1 u1)
        clear e1 u1 t2
        go_loopw [6] (fun qv wr2 => ∃ q : Nat, qv = .int .i64 (q : Int) ∧ q ≤ M ∧ (∀ j, j < q → lessOf nm (out.getD j ByteArray.empty) = false) ∧ Below V.heap.size V wr2) (fun qv _ => M - (intOf qv).toNat)
        case atStart => exact ⟨0, rfl, Nat.zero_le _, fun j h => absurd h (Nat.not_lt_zero _), Below.refl _ _⟩
        case round =>
          obtain ⟨q, rfl, hq, hall, hb⟩ := hrel
          have HA := Lib.hid hall
          have HB2 := Lib.hid hb
          clear hall hb
          obtain ⟨bb, hbb⟩ : ∃ t, decide (q < M ∧ lessOf nm (out.getD q ByteArray.empty) = false) = t := ⟨_, rfl⟩
          have HBB := Lib.hid hbb
          have HQ : Hid (q ≤ M) := Lib.hid hq
          clear hbb
          go_upto_region 8 with fail
          go_cut [35] (fun t wx => t = .bool bb ∧ Below wr.heap.size wr wx)
          case first =>
            by_cases c : q < M
            · have s1 : decide ((q : Int) < (M : Int)) = true := by simp; omega
              have s1' : decide (q < M) = true := by simpa using c
              obtain ⟨-, -, -, -, hcell⟩ := HRW.out
              obtain ⟨ob, oo, rfl, hc⟩ := hcell (by omega)
              have c3 := pt_stepS (hc q c) HB2.out
              have c4 := pt_stepS HC2.out HB2.out
              have q0 : (0 : Int) ≤ (q : Int) := by omega
              have q1 : (q : Int) < (M : Int) := by omega
              have hysz : (out.getD q ByteArray.empty).size ≤ 1000 := by
                have e : out.getD q ByteArray.empty = out[q]'(by rw [HM.out]; exact c) := by simp [List.getD, HM.out, c]
                rw [e]; exact HOZ.out _ (List.getElem_mem _)
              have HC := Lib.hid fun x : World => refLess_any nm (out.getD q ByteArray.empty) x HNZ.out hysz
              obtain ⟨tt, htt⟩ : ∃ t, lessOf nm (out.getD q ByteArray.empty) = t := ⟨_, rfl⟩
              have hv : bb = !tt := by
                rw [← HBB.out, ← htt]
                cases lessOf nm (out.getD q ByteArray.empty) <;> simp [c]
              subst hv
              rw [htt] at HC
              obtain ⟨y, hy⟩ : ∃ y, out.getD q ByteArray.empty = y := ⟨_, rfl⟩
              rw [hy] at HC c3
              obtain ⟨S, hS⟩ : ∃ S : World → Prop, S = fun y => Below wr.heap.size wr y := ⟨_, rfl⟩
              have hs0 : S wr.drew := by rw [hS]; exact (Below.refl _ _).drew
              have hS2 : ∀ u : World, S u → Below wr.heap.size wr u := fun u h => by rw [hS] at h; exact h
              have HSB : Hid (∀ y : Wd S, Below wr.heap.size wr y.w) := Lib.hid fun y => hS2 _ y.ok
              clear hS2
              have d3 : ∀ z : Wd S, z.w.cell? ⟨ob, oo + q, none⟩ = some (.string y) := fun z => pt_stepS c3 (HSB.out z)
              have d4 : ∀ z : Wd S, z.w.cell? ⟨b, off + k * 2 + 1, none⟩ = some (.string nm) := fun z => pt_stepS c4 (HSB.out z)
              have HCY : Hid (∀ z : Wd S, Calls Try.prog 11 #[.string nm, .string y] z.w fun e w'' => e = .returned (.bool tt) ∧ ∃ z : Wd S, w'' = z.w) := Lib.hid fun z => Calls.wd (fun u hu => by rw [hS]; exact bel_trans (HSB.out z) hu) (HC.out z.w)
              clear hS c3 c4 c1 c2 hc hcell hysz htt hy c hq
              haveI : Nonempty (Wd S) := ⟨⟨_, hs0⟩⟩
              refine wp_region_wd S (by kernel_rfl) (by kernel_rfl) hs0 ?_
              repeat (go_big_quiet_step (first | (go_at_call 11; with_reducible exact HCY.out _)))
              refine wpQuiet_nil ?_
              intro _ hw'
              obtain ⟨z, rfl⟩ := hw'
              go_wp2_with fail
              go_meet
              exact ⟨rfl, HSB.out z⟩
            · have s1 : decide ((q : Int) < (M : Int)) = false := by simp; omega
              have s1' : decide (q < M) = false := by simpa using c
              obtain rfl : bb = false := by rw [← HBB.out]; exact decide_eq_false fun h => c h.1
              clear c1 c2 hq c
              go_quiet (fail)
              all_goals
                go_wp2_with fail
                go_meet
                exact ⟨rfl, (Below.refl _ _).trans ⟨rfl, rfl, rfl, Nat.le_refl _, fun _ _ => rfl⟩⟩
          case rest =>
          obtain ⟨rfl, hb⟩ := hcut
          obtain ⟨W, rfl⟩ : ∃ x, x = wc := ⟨wc, rfl⟩
          have HB3 := Lib.hid (bel_trans HB2.out hb)
          clear hb hq c1 c2
          cases bb with
          | true =>
            obtain ⟨h1, h2⟩ : q < M ∧ lessOf nm (out.getD q ByteArray.empty) = false := of_decide_eq_true HBB.out
            obtain ⟨r, hr⟩ : ∃ x, q + 1 = x := ⟨_, rfl⟩
            have e3 : (q : Int) + 1 = (r : Int) := by omega
            have u3 : IntKind.i64.wrap (r : Int) = (r : Int) := by have := HNL.out; rw [IntKind.wrap_i64]; omega
            have HR2 : Hid (q < r ∧ r ≤ M) := Lib.hid (by omega)
            have HA2 : Hid (∀ j, j < r → lessOf nm (out.getD j ByteArray.empty) = false) := Lib.hid fun j hj => by
              rcases (show j < q ∨ j = q by omega) with h | rfl
              · exact HA.out j h
              · exact h2
            clear h1 h2 hr
            go_wp2_with fail
            clear e3 u3
            go_roundw
            case rel => exact ⟨r, rfl, HR2.out.2, HA2.out, HB3.out⟩
            case measure => have := HR2.out; simp [intOf]; omega
          | false =>
            have hfin := of_decide_eq_false HBB.out
            have h2 : q = out.length ∨ lessOf nm (out.getD q ByteArray.empty) = true := by
              rcases (show q < M ∨ q = M by have := HQ.out; omega) with h | h
              · refine .inr ?_
                cases hh : lessOf nm (out.getD q ByteArray.empty) with
                | true => rfl
                | false => exact absurd ⟨h, hh⟩ hfin
              · exact .inl (h.trans HM.out.symm)
            have HSO := Lib.hid (ins_sorted HS.out (by rw [HM.out]; exact HQ.out) HA.out h2)
            have HPE : Hid ((out.take q ++ [nm] ++ out.drop q).Perm (nmL (L.take k1))) := Lib.hid ((ins_perm out nm q).trans (by rw [HT.out]; exact HP.out.append_right [nm]))
            clear hfin h2
            obtain ⟨e1, u1⟩ := HE1.out
            have c4 : W.cell? ⟨b, off + k * 2 + 1, none⟩ = some (.string nm) := pt_stepS HC2.out HB3.out
            rcases HO.out.2 with ⟨h0, h1⟩ | ⟨g, cap, cur, h0, hgB, hgh, hnc, hcm, hcs, hct⟩
            · simp only [Value.slice.injEq] at h0
              obtain ⟨rfl, -, rfl⟩ := h0
              obtain rfl : M = 0 := by rw [← HM.out]; exact h1
              obtain rfl : q = 0 := by have := HQ.out; omega
              obtain rfl : out = [] := List.eq_nil_of_length_eq_zero h1
              clear h1
              go_upto_region 10 with fail
              go_wp2_with (at_builtin; refine wpList_appS rfl _ _ rfl W.heap.size _ [] rfl (strs_nil _ _) none 0 0 [] rfl rfl (fun h => absurd h (Nat.lt_irrefl _)) (fun _ => rfl) (Nat.le_refl _) (by simp) ?_)
              intro v1 W1 ho1 hb1
              have HO1 := Lib.hid ho1
              have HB4 := Lib.hid hb1
              have c5 := pt_stepS c4 hb1
              clear ho1 hb1 c4
              go_upto_region 11 with fail
              go_wp2_with (at_builtin; refine wpList_appS rfl _ _ rfl W.heap.size _ [] rfl (World.ownsRow.alloc HO1.out _) _ 1 1 [nm] rfl rfl ?c0 (fun h => by cases h) (Nat.le_trans HB4.out.size (by simp)) ?c1 ?_)
              case c0 => exact fun _ => ⟨_, 0, rfl, fun i hi => by
                obtain rfl : i = 0 := by omega
                exact cell_new1 _ _ _⟩
              case c1 => simp
              intro v2 W2 ho2 hb2
              have HO2 := Lib.hid ho2
              have HB5 := Lib.hid ((bel_alloc HB4.out _).trans hb2)
              clear ho2 hb2 c5
              go_upto_region 12 with fail
              go_wp2_with (at_builtin; refine wpList_appS rfl _ _ rfl W.heap.size _ [nm] rfl HO2.out none 0 0 [] rfl rfl (fun h => absurd h (Nat.lt_irrefl _)) (fun _ => rfl) HB5.out.size (by simp) ?_)
              intro v3 W3 ho3 hb3
              have HO3 := Lib.hid (strs_base ho3 (Nat.le_trans HB.out.size HB3.out.size))
              have HB6 : Hid (Below w.heap.size w W3) := Lib.hid (HB.out.trans ((HB3.out.trans ((HB5.out.trans hb3).mono HB3.out.size)).mono HB.out.size))
              clear ho3 hb3
              go_wp2_with fail
              clear e1 u1
              go_roundw
              case rel => exact ⟨k1, _, rfl, by have := HK.out; omega, HO3.out, by simpa using HPE.out, by simp, HB6.out⟩
              case measure => have := HK.out; simp [intOf]; omega
            · simp only [Value.slice.injEq] at h0
              obtain ⟨rfl, -, rfl⟩ := h0
              have hcell : ∀ i, i < M → W.cell? ⟨g, i, none⟩ = some (.string (out.getD i ByteArray.empty)) := fun i hi => by
                obtain ⟨-, -, -, -, h4⟩ := rowS_below HRW.out HB3.out
                obtain ⟨b', o', e, hc⟩ := h4 (by omega)
                cases e
                have := hc i hi
                rwa [Nat.zero_add] at this
              have q0 : (0 : Int) ≤ (q : Int) := by omega
              have q2 : (q : Int) ≤ (M : Int) := by have := HQ.out; omega
              have q3 : (M : Int) ≤ (oc : Int) := by rw [← HM.out]; omega
              have q1 : (q : Int) ≤ (oc : Int) := by omega
              have HCE := Lib.hid hcell
              clear hcell hgB hgh hnc hcm hcs hct
              go_upto_region 10 with fail
              go_wp2_with (at_builtin; refine wpList_appS rfl _ _ rfl W.heap.size _ [] rfl (strs_nil _ _) (some ⟨g, 0, none⟩) q oc (out.take q) rfl (by rw [List.length_take, HM.out]; have := HQ.out; omega) (fun _ => ⟨g, 0, rfl, fun i hi => by rw [Nat.zero_add, HCE.out i (by have := HQ.out; omega), take_getD _ hi]⟩) (fun h => by cases h) (Nat.le_refl _) (by have := HQ.out; have := HNL.out; simp; omega) ?_)
              intro v1 W1 ho1 hb1
              have HO1 := Lib.hid ho1
              have HB4 := Lib.hid hb1
              have c5 := pt_stepS c4 hb1
              clear ho1 hb1 c4
              go_upto_region 11 with fail
              go_wp2_with (at_builtin; refine wpList_appS rfl _ _ rfl W.heap.size _ (out.take q) rfl (World.ownsRow.alloc HO1.out _) _ 1 1 [nm] rfl rfl ?c0 (fun h => by cases h) (Nat.le_trans HB4.out.size (by simp)) ?c1 ?_)
              case c0 => exact fun _ => ⟨_, 0, rfl, fun i hi => by
                obtain rfl : i = 0 := by omega
                exact cell_new1 _ _ _⟩
              case c1 => have h1 := HQ.out; have h2 := HNL.out; have h3 := HM.out; rw [List.length_take]; omega
              intro v2 W2 ho2 hb2
              have HO2 := Lib.hid ho2
              have HB5 := Lib.hid ((bel_alloc HB4.out _).trans hb2)
              clear ho2 hb2 c5
              go_upto_region 12 with fail
              have HL3 : Hid ((out.take q ++ [nm]).length + (M - q) ≤ 1000000) := Lib.hid (by have h1 := HQ.out; have h2 := HNL.out; have h3 := HM.out; simp only [List.length_append, List.length_take, List.length_singleton]; omega)
              obtain ⟨l3, hl3⟩ : ∃ x, out.take q ++ [nm] = x := ⟨_, rfl⟩
              have HPE2 : Hid ((l3 ++ out.drop q).Perm (nmL (L.take k1))) := Lib.hid (by rw [← hl3]; exact HPE.out)
              have HSO2 : Hid ((l3 ++ out.drop q).Pairwise leS) := Lib.hid (by rw [← hl3]; exact HSO.out)
              rw [hl3] at HO2 HL3
              obtain ⟨l4, hl4⟩ : ∃ x, out.drop q = x := ⟨_, rfl⟩
              have HLD : Hid (l4.length = M - q ∧ ∀ i, i < M - q → W2.cell? ⟨g, q + i, none⟩ = some (.string (l4.getD i ByteArray.empty))) := Lib.hid ⟨by rw [← hl4, List.length_drop, HM.out], fun i hi => by rw [pt_stepS (HCE.out (q + i) (by omega)) HB5.out, ← hl4, drop_getD]⟩
              rw [hl4] at HPE2 HSO2
              clear hl3 hl4
              by_cases hqc : q = oc
              · subst hqc
                have hMq : M - q = 0 := by omega
                have hn0 : l4 = [] := List.eq_nil_of_length_eq_zero (by rw [HLD.out.1]; exact hMq)
                have z1 : (M : Int) - (q : Int) = 0 := by omega
                have hMq2 : M = q := by have := HQ.out; omega
                subst hn0
                go_wp2_with (at_builtin; refine wpList_appS rfl _ _ rfl W.heap.size _ l3 rfl HO2.out (some ⟨g, 0, none⟩) (M - q) (q - q) [] ?d0 (by rw [hMq]; rfl) (fun h => absurd h (by omega)) (fun h => by cases h) HB5.out.size HL3.out ?_)
                case d0 => first | rfl | (simp [Act.eval]; done) | (simp [Act.eval]; omega)
                intro v3 W3 ho3 hb3
                have HO3 := Lib.hid (strs_base ho3 (Nat.le_trans HB.out.size HB3.out.size))
                have HB6 : Hid (Below w.heap.size w W3) := Lib.hid (HB.out.trans ((HB3.out.trans ((HB5.out.trans hb3).mono HB3.out.size)).mono HB.out.size))
                clear ho3 hb3
                go_wp2_with fail
                clear e1 u1
                go_roundw
                case rel => exact ⟨k1, _, rfl, by have := HK.out; omega, HO3.out, by simpa using HPE2.out, by simpa using HSO2.out, HB6.out⟩
                case measure => have := HK.out; simp [intOf]; omega
              · have z1 : ¬ (oc - q = 0) := by omega
                have z2 : (oc - q == 0) = false := by rw [beq_eq_false_iff_ne]; omega
                go_wp2_with (at_builtin; refine wpList_appS rfl _ _ rfl W.heap.size _ l3 rfl HO2.out (some ⟨g, q, none⟩) (M - q) (oc - q) l4 ?d0 HLD.out.1 (fun _ => ⟨g, q, rfl, HLD.out.2⟩) (fun h => by cases h) HB5.out.size HL3.out ?_)
                case d0 => first | rfl | (simp [Act.eval]; done) | (simp [Act.eval]; omega)
                intro v3 W3 ho3 hb3
                have HO3 := Lib.hid (strs_base ho3 (Nat.le_trans HB.out.size HB3.out.size))
                have HB6 : Hid (Below w.heap.size w W3) := Lib.hid (HB.out.trans ((HB3.out.trans ((HB5.out.trans hb3).mono HB3.out.size)).mono HB.out.size))
                clear ho3 hb3
                go_wp2_with fail
                clear e1 u1
                go_roundw
                case rel => exact ⟨k1, _, rfl, by have := HK.out; omega, HO3.out, HPE2.out, HSO2.out, HB6.out⟩
                case measure => have := HK.out; simp [intOf]; omega
    · obtain rfl : k = n := by omega
      have t1 : decide ((k : Int) < (k : Int)) = false := by simp
      have t1' : decide (k < k) = false := by simp
      obtain ⟨sa, sc, rfl, hrow⟩ := rowS_of_own HO.out
      have HRW := Lib.hid hrow
      have hp := HP.out
      rw [← HL.out, nmL_all] at hp
      have HPP := Lib.hid hp
      clear hrow hlt hk HO hp
      go_wp2_with fail
      go_ret
      exact ⟨sa, sc, out, rfl, HRW.out, HPP.out, HS.out, HB.out⟩
end Go.Proofs.Ytdpkinppkhnjkaa
