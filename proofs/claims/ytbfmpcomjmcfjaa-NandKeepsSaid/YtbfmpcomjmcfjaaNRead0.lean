/- nand: Read of an erased page, where no Crash comes. -/
import Derived.Test.YtbfmpcomjmcfjaaNRow
namespace Go.Proofs.Ytbfmpcomjmcfjaa
open Go.RowKit Go.Deep

section
variable {B : Nat} {tag : Nat → Option Tag} {L : NL} {S : NS} {w : World}
set_option maxRecDepth 100000 in
set_option maxHeartbeats 3200000 in
theorem read_none (h : NA B tag L S w) (i j : Nat) (hi : i ≤ S.g0) (hj : j < S.g1) (hoff : S.off = false) (hops : S.ops < 1000000000000) (hd : S.tick.dead i = false) (hk : (S.ev (S.ops + 1)).ki ≠ 2)
    (p : Nat) (hp : p < S.tick.g2) (hbs : S.tick.page i j p = none) :
    Calls Try.prog 33 #[.pointer (some ⟨L.pa, 0, none⟩), .int .i64 (i : Int), .int .i64 (j : Int), .int .i64 (p : Int)] w (RRet B tag L S.tick w S.tick.g3 (rowOf [255] (S.tick.g3 + 64))) := by
  have hb := (begin_any h i j hi hj hoff hops)
  obtain ⟨x, hx⟩ : ∃ x, S.ev (S.ops + 1) = x := ⟨_, rfl⟩
  obtain ⟨la, ll, lc, hlv, _⟩ := h.left (S.ops + 1)
  rw [hx] at hk
  rw [hlv, hx] at hb
  unfold NE.val at hb
  obtain ⟨T, hT⟩ : ∃ T, S.tick = T := ⟨_, rfl⟩
  obtain ⟨g0, g1, g2, g3⟩ := tick_g S
  rw [hT] at hb hd g0 g1 g2 g3 hp hbs ⊢
  have hiT : i ≤ T.g0 := by rw [g0]; exact hi
  have hjT : j < T.g1 := by rw [g1]; exact hj
  have HS := Lib.hid h
  clear hT hoff hops hlv hx h hi hj
  have q2 : (x.ki == 2) = false := by simpa using hk
  go_enter Try.func33, Try.ntmps33
  go_wp2_with fail
  ((with_reducible refine hb.mono ?_))
  rintro e w1 hbe
  obtain ⟨rfl, h1, k1⟩ := hbe.1 hd
  clear hbe hb hk
  have KA : Kept (ownT tag) w (w1.alloc (.cells #[.int .i64 x.op, .int .i64 x.ki, .int .i64 x.ch, .slice la ll lc] 147)) := k1.trans (Kept.of_below (F := ownT tag) (bel_alloc (Below.refl _ w1) _)) (fun _ _ h => h)
  have HA := h1.below (bel_alloc (Below.refl _ w1) (.cells #[.int .i64 x.op, .int .i64 x.ki, .int .i64 x.ch, .slice la ll lc] 147))
  have bbl := (h1.range _ _ (h1.tbb i hiT)).2
  have pal := (h1.range _ _ h1.tpa).2
  have c3 := h1.c (.pages i j hiT hjT)
  have cg := h1.c .g3
  have p1 : decide ((p : Int) < 0) = false := by simp
  have p2 : decide (T.g2 ≤ p) = false := by simp; omega
  have hcell := h1.rows i j p hiT hjT hp
  rw [hbs] at hcell
  have hsh := h1.shape.b3
  have hcellA : (w1.alloc (.cells #[.int .i64 x.op, .int .i64 x.ki, .int .i64 x.ch, .slice la ll lc] 147)).cell? ⟨L.pb i j, p, none⟩ = some (.slice none 0 0) := (World.cell?_alloc_lt w1 _ _ (h1.range _ _ (h1.tpb i j hiT hjT)).2).trans hcell
  have hpl := (h1.range _ _ (h1.tpb i j hiT hjT)).2
  have HSZ := Lib.hid hsh
  have HA1 := Lib.hid HA
  have KA1 := Lib.hid KA
  have HSZ1 := Lib.hid k1.size
  have hnil := fun wx => Lib.run_eql_slice_nil (P := Try.prog) wx 57 5 none 0 0 0 0 Try.underlying57
  obtain ⟨V, hV⟩ : ∃ V, V = w1.alloc (.cells #[.int .i64 x.op, .int .i64 x.ki, .int .i64 x.ch, .slice la ll lc] 147) := ⟨_, rfl⟩
  have zV : V.heap.size = w1.heap.size + 1 := by rw [hV]; simp
  rw [← hV] at HA1 KA1
  have hrowc := row_any (HA1.out.below (bel_alloc (Below.refl _ V) (.cells #[.int .u8 255] 5))) (some ⟨V.heap.size, 0, none⟩) 1 1 [255] (row_one V 255 (by omega)) (Nat.le_refl _) (by unfold maxLen; omega)
  rw [zV] at hrowc
  have HRC := Lib.hid hrowc
  have HV := Lib.hid hV
  have ZV := Lib.hid zV
  clear h1 k1 HA KA hbs g0 g1 g2 g3 hd hiT hjT hrowc hV zV
  go_wp2_with fail
  rw [← HV.out]
  refine HRC.out.mono ?_
  intro e W2 h5
  obtain ⟨ra, cap, rfl, hr5, _, ho5, hb5⟩ := retOwn_len h5
  obtain ⟨bs, hbs⟩ : ∃ bs, bs = rowOf [255] (T.g3 + 64) := ⟨_, rfl⟩
  rw [← hbs] at hr5 ho5 ⊢
  have hlen : bs.length = T.g3 + 64 := by rw [hbs]; unfold rowOf; rw [if_pos (by simp), cyc_len]
  obtain ⟨g, rfl, hg0, hg1, hcap1, hcap2, _⟩ := own_block ho5 (by omega)
  rw [hlen] at hr5 hcap1 ⊢
  have hbV : Below V.heap.size V W2 := (bel_alloc (Below.refl _ V) _).trans (hb5.mono (by simp))
  have hrA := hr5
  have HBS := Lib.hid hbs
  have HA' := Lib.hid (HA1.out.below hbV)
  have KA' := Lib.hid (KA1.out.trans (Kept.of_below (F := ownT tag) hbV) (fun _ _ h => h))
  have hcgA : W2.cell? ⟨L.pa, 3, none⟩ = some (.int .i64 (T.g3 : Int)) := HA'.out.c .g3
  have HW2 : Hid (w1.heap.size ≤ W2.heap.size) := Lib.hid (by have := hbV.size; have := ZV.out; omega)
  have hcm : cap ≤ 9223372036854775807 := by unfold maxLen at hcap2; exact hcap2
  have HZZ : Hid (w.heap.size ≤ w1.heap.size) := HSZ1
  clear h5 ho5 hb5 hbV hr5 hlen hg0 hg1 hcap2 hbs HRC HV ZV HA1 KA1 hcell hcellA c3 cg bbl pal hpl q2 p1 p2 hnil
  have u1 : T.g3 ≤ cap := by omega
  have u2 : (T.g3 : Int) ≤ (cap : Int) := by omega
  have u3 : (T.g3 : Int) ≤ (T.g3 : Int) + 64 := by omega
  have u4 : (0 : Int) ≤ (T.g3 : Int) := by omega
  have u5 : ¬ cap = T.g3 := by omega
  have u6 : (T.g3 : Int) + 64 ≤ (cap : Int) := by omega
  go_upto_region 11 with fail
  have HPA := Lib.hid (HA'.out.range _ _ HA'.out.tpa).2
  have HPC := Lib.hid hcgA
  have HRA := Lib.hid hrA
  have HLT : Hid ((bs.take T.g3).length = T.g3) := Lib.hid (by rw [List.length_take, hrA.1]; omega)
  have HLD : Hid ((bs.drop T.g3).length = 64) := Lib.hid (by rw [List.length_drop, hrA.1]; omega)
  have HZ : Hid (w.heap.size ≤ W2.heap.size) := Lib.hid (Nat.le_trans HSZ1.out HW2.out)
  have hbd : Below W2.heap.size W2 W2.drew := (Below.refl _ W2).drew
  have e64 : T.g3 + 64 - T.g3 = 64 := by omega
  have HR1 : Hid (∀ w', Below W2.heap.size W2 w' → Row w' (some ⟨g, 0, none⟩) T.g3 (bs.take T.g3)) := Lib.hid fun w' hb => row_prefix (row_keep HRA.out hb (Nat.le_refl _)) T.g3 (by omega)
  have HR2 : Hid (∀ w', Below W2.heap.size W2 w' → Row w' (some ⟨g, T.g3, none⟩) 64 (bs.drop T.g3)) := Lib.hid fun w' hb => by
    have := row_behind (row_keep HRA.out hb (Nat.le_refl _)) T.g3 (by omega)
    rw [e64, Nat.zero_add] at this; exact this
  have HCL : Hid (∀ w', Below W2.heap.size W2 w' → w'.cell? ⟨L.pa, 3, none⟩ = some (.int .i64 (T.g3 : Int))) := Lib.hid fun w' hb => (hb.cell (p := ⟨L.pa, 3, none⟩) HPA.out).trans HPC.out
  clear hrA hcgA e64
  go_region_held3 (fun w' => w'.cell? ⟨L.pa, 3, none⟩ = some (.int .i64 (T.g3 : Int))) (first | exact HCL.out _ hbd | exact hS5 | exact hS6)
    (first
      | (go_simp; go_at_call 99; ((with_reducible refine (clone_any (some ⟨g, 0, none⟩) T.g3 cap (bs.take T.g3) _ ?_ ?_ ?_).mono ?_)); (exact HR1.out _ (by first | exact hbd | exact hb6)); (exact fun e => by cases e); (have := HSZ.out; omega); (intro e w5 h5; obtain ⟨a5, k5, rfl, _, _, ho5, hb5'⟩ := retOwn_len h5; have hb5 : Below W2.heap.size W2 w5 := bel_trans (by first | exact hbd | exact hb6) hb5'; have hS5 := HCL.out _ hb5; rw [HLT.out] at ho5 ⊢; clear h5))
      | (go_simp; go_at_call 99; ((with_reducible refine (clone_any (some ⟨g, T.g3, none⟩) 64 (cap - T.g3) (bs.drop T.g3) _ ?_ ?_ ?_).mono ?_)); (exact HR2.out _ (by first | exact hbd | exact hb5)); (exact fun e => by cases e); omega; (intro e w6 h6; obtain ⟨a6, k6, rfl, _, _, ho6, hb6'⟩ := retOwn_len h6; have hb6 : Below W2.heap.size W2 w6 := bel_trans (by first | exact hbd | exact hb5) hb6'; have hS6 := HCL.out _ hb6; rw [HLD.out] at ho6 ⊢; clear h6)))
  all_goals
    first
      | (have HE : Hid (Own w.heap.size w6 (.slice a5 T.g3 k5) (bs.take T.g3) ∧ Own w.heap.size w6 (.slice a6 64 k6) (bs.drop T.g3) ∧ NA B tag L T w6 ∧ Kept (ownT tag) w w6) := Lib.hid ⟨own_mono (own_up ho5 hb6') (Nat.le_trans HZ.out (hbd.size)), own_mono ho6 (Nat.le_trans HZ.out hb5.size), HA'.out.below hb6, KA'.out.trans (Kept.of_below (F := ownT tag) hb6) (fun _ _ h => h)⟩
         clear ho5 ho6 hb5 hb6 hb5' hb6' hS5 hS6 hbd
         go_wp2
         go_ret3
         rw [← HBS.out]
         exact ⟨a5, k5, a6, k6, rfl, HE.out⟩)
      | (have HE : Hid (Own w.heap.size w5 (.slice a5 T.g3 k5) (bs.take T.g3) ∧ Own w.heap.size w5 (.slice a6 64 k6) (bs.drop T.g3) ∧ NA B tag L T w5 ∧ Kept (ownT tag) w w5) := Lib.hid ⟨own_mono ho5 (Nat.le_trans HZ.out hb6.size), own_mono (own_up ho6 hb5') (Nat.le_trans HZ.out (hbd.size)), HA'.out.below hb5, KA'.out.trans (Kept.of_below (F := ownT tag) hb5) (fun _ _ h => h)⟩
         clear ho5 ho6 hb5 hb6 hb5' hb6' hS5 hS6 hbd
         go_wp2
         go_ret3
         rw [← HBS.out]
         exact ⟨a5, k5, a6, k6, rfl, HE.out⟩)
end

end Go.Proofs.Ytbfmpcomjmcfjaa
