/- nand: Read, where no Crash comes. -/
import Derived.Test.YtbfmpcomjmcfjaaNProg
import Derived.Test.YtbfmpcomjmcfjaaWriterCalls
namespace Go.Proofs.Ytbfmpcomjmcfjaa
open Go.RowKit

section
variable {B : Nat} {tag : Nat → Option Tag} {L : NL} {S : NS} {w : World}
/-- What Read ends with, where it answers a page. -/
def RRet (B : Nat) (tag : Nat → Option Tag) (L : NL) (S : NS) (w : World) (n : Nat) (bs : List Nat) (e : Ending) (w' : World) : Prop :=
  ∃ a1 c1 a2 c2, e = .returned (.tuple #[.slice a1 n c1, .slice a2 64 c2, .int .i64 0]) ∧ Own w.heap.size w' (.slice a1 n c1) (bs.take n) ∧ Own w.heap.size w' (.slice a2 64 c2) (bs.drop n) ∧ NA B tag L S w' ∧ Kept (ownT tag) w w'
/-- .. where it doesn't. -/
def RErr (B : Nat) (tag : Nat → Option Tag) (L : NL) (S : NS) (w : World) (n : Int) (e : Ending) (w' : World) : Prop :=
  e = .returned (.tuple #[.slice none 0 0, .slice none 0 0, .int .i64 n]) ∧ NA B tag L S w' ∧ Kept (ownT tag) w w'
theorem row_prefix {w : World} {b off n : Nat} {bs : List Nat} (h : Row w (some ⟨b, off, none⟩) n bs) (k : Nat) (hk : k ≤ n) : Row w (some ⟨b, off, none⟩) k (bs.take k) := by
  obtain ⟨h1, h2, h3⟩ := h
  refine ⟨by rw [List.length_take, h1]; omega, fun x hx => h2 x (List.mem_of_mem_take hx), fun h0 => ?_⟩
  obtain ⟨b', off', e, hc⟩ := h3 (by omega)
  cases e
  refine ⟨b, off, rfl, fun i hi => ?_⟩
  rw [hc i (by omega)]
  simp [List.getD_eq_getElem?_getD, hi]
theorem row_behind {w : World} {b off n : Nat} {bs : List Nat} (h : Row w (some ⟨b, off, none⟩) n bs) (k : Nat) (hk : k ≤ n) : Row w (some ⟨b, off + k, none⟩) (n - k) (bs.drop k) := by
  obtain ⟨h1, h2, h3⟩ := h
  refine ⟨by rw [List.length_drop, h1], fun x hx => h2 x (List.mem_of_mem_drop hx), fun h0 => ?_⟩
  obtain ⟨b', off', e, hc⟩ := h3 (by omega)
  cases e
  refine ⟨b, off + k, rfl, fun i hi => ?_⟩
  rw [Nat.add_assoc, hc (k + i) (by omega)]
  simp [List.getD_eq_getElem?_getD, List.getElem?_drop]

set_option maxRecDepth 100000 in
set_option maxHeartbeats 3200000 in
theorem read_neg (h : NA B tag L S w) (i j : Nat) (hi : i ≤ S.g0) (hj : j < S.g1) (hoff : S.off = false) (hops : S.ops < 1000000000000) (hd : S.tick.dead i = false) (hk : (S.ev (S.ops + 1)).ki ≠ 2)
    (p : Int) (hp : p < 0) :
    Calls Try.prog 33 #[.pointer (some ⟨L.pa, 0, none⟩), .int .i64 (i : Int), .int .i64 (j : Int), .int .i64 p] w (RErr B tag L S.tick w 34) := by
  have hb := (begin_any h i j hi hj hoff hops)
  obtain ⟨x, hx⟩ : ∃ x, S.ev (S.ops + 1) = x := ⟨_, rfl⟩
  obtain ⟨la, ll, lc, hlv, _⟩ := h.left (S.ops + 1)
  rw [hx] at hk
  rw [hlv, hx] at hb
  unfold NE.val at hb
  obtain ⟨T, hT⟩ : ∃ T, S.tick = T := ⟨_, rfl⟩
  obtain ⟨g0, g1, g2, g3⟩ := tick_g S
  rw [hT] at hb hd g0 g1 g2 g3 ⊢
  have hiT : i ≤ T.g0 := by rw [g0]; exact hi
  have hjT : j < T.g1 := by rw [g1]; exact hj
  have HS := Lib.hid h
  clear hT hoff hops hlv hx h hi hj
  have q2 : (x.ki == 2) = false := by simpa using hk
  go_enter Try.func33, Try.ntmps33
  go_wp2_with fail
  ((with_reducible refine hb.mono ?_))
  rintro e w1 hbe
  obtain ⟨rfl, h1, k1⟩ := hbe.1 hd
  clear hbe hb hk
  have KA : Kept (ownT tag) w (w1.alloc (.cells #[.int .i64 x.op, .int .i64 x.ki, .int .i64 x.ch, .slice la ll lc] 147)) := k1.trans (Kept.of_below (F := ownT tag) (bel_alloc (Below.refl _ w1) _)) (fun _ _ h => h)
  have HA := h1.below (bel_alloc (Below.refl _ w1) (.cells #[.int .i64 x.op, .int .i64 x.ki, .int .i64 x.ch, .slice la ll lc] 147))
  have bbl := (h1.range _ _ (h1.tbb i hiT)).2
  have pal := (h1.range _ _ h1.tpa).2
  have c3 := h1.c (.pages i j hiT hjT)
  have cg := h1.c .g3
  have p1 : decide (p < 0) = true := by simp; omega
  have RES := Lib.hid (And.intro HA KA)
  clear h1 k1 HA KA
  go_wp2
  go_ret3
  exact ⟨rfl, RES.out⟩

set_option maxRecDepth 100000 in
set_option maxHeartbeats 3200000 in
theorem read_far (h : NA B tag L S w) (i j : Nat) (hi : i ≤ S.g0) (hj : j < S.g1) (hoff : S.off = false) (hops : S.ops < 1000000000000) (hd : S.tick.dead i = false) (hk : (S.ev (S.ops + 1)).ki ≠ 2)
    (p : Int) (hp : (S.tick.g2 : Int) ≤ p) :
    Calls Try.prog 33 #[.pointer (some ⟨L.pa, 0, none⟩), .int .i64 (i : Int), .int .i64 (j : Int), .int .i64 p] w (RErr B tag L S.tick w 34) := by
  have hb := (begin_any h i j hi hj hoff hops)
  obtain ⟨x, hx⟩ : ∃ x, S.ev (S.ops + 1) = x := ⟨_, rfl⟩
  obtain ⟨la, ll, lc, hlv, _⟩ := h.left (S.ops + 1)
  rw [hx] at hk
  rw [hlv, hx] at hb
  unfold NE.val at hb
  obtain ⟨T, hT⟩ : ∃ T, S.tick = T := ⟨_, rfl⟩
  obtain ⟨g0, g1, g2, g3⟩ := tick_g S
  rw [hT] at hb hd g0 g1 g2 g3 hp ⊢
  have hiT : i ≤ T.g0 := by rw [g0]; exact hi
  have hjT : j < T.g1 := by rw [g1]; exact hj
  have HS := Lib.hid h
  clear hT hoff hops hlv hx h hi hj
  have q2 : (x.ki == 2) = false := by simpa using hk
  go_enter Try.func33, Try.ntmps33
  go_wp2_with fail
  ((with_reducible refine hb.mono ?_))
  rintro e w1 hbe
  obtain ⟨rfl, h1, k1⟩ := hbe.1 hd
  clear hbe hb hk
  have KA : Kept (ownT tag) w (w1.alloc (.cells #[.int .i64 x.op, .int .i64 x.ki, .int .i64 x.ch, .slice la ll lc] 147)) := k1.trans (Kept.of_below (F := ownT tag) (bel_alloc (Below.refl _ w1) _)) (fun _ _ h => h)
  have HA := h1.below (bel_alloc (Below.refl _ w1) (.cells #[.int .i64 x.op, .int .i64 x.ki, .int .i64 x.ch, .slice la ll lc] 147))
  have bbl := (h1.range _ _ (h1.tbb i hiT)).2
  have pal := (h1.range _ _ h1.tpa).2
  have c3 := h1.c (.pages i j hiT hjT)
  have cg := h1.c .g3
  have p1 : decide (p < 0) = false := by simp; omega
  have p2 : decide ((T.g2 : Int) ≤ p) = true := by simp; omega
  have RES := Lib.hid (And.intro HA KA)
  clear h1 k1 HA KA
  go_wp2
  go_ret3
  exact ⟨rfl, RES.out⟩

set_option maxRecDepth 100000 in
set_option maxHeartbeats 3200000 in
theorem read_some (h : NA B tag L S w) (i j : Nat) (hi : i ≤ S.g0) (hj : j < S.g1) (hoff : S.off = false) (hops : S.ops < 1000000000000) (hd : S.tick.dead i = false) (hk : (S.ev (S.ops + 1)).ki ≠ 2)
    (p : Nat) (hp : p < S.tick.g2) (bs : List Nat) (hbs : S.tick.page i j p = some bs) :
    Calls Try.prog 33 #[.pointer (some ⟨L.pa, 0, none⟩), .int .i64 (i : Int), .int .i64 (j : Int), .int .i64 (p : Int)] w (RRet B tag L S.tick w S.tick.g3 bs) := by
  have hb := (begin_any h i j hi hj hoff hops)
  obtain ⟨x, hx⟩ : ∃ x, S.ev (S.ops + 1) = x := ⟨_, rfl⟩
  obtain ⟨la, ll, lc, hlv, _⟩ := h.left (S.ops + 1)
  rw [hx] at hk
  rw [hlv, hx] at hb
  unfold NE.val at hb
  obtain ⟨T, hT⟩ : ∃ T, S.tick = T := ⟨_, rfl⟩
  obtain ⟨g0, g1, g2, g3⟩ := tick_g S
  rw [hT] at hb hd g0 g1 g2 g3 hp hbs ⊢
  have hiT : i ≤ T.g0 := by rw [g0]; exact hi
  have hjT : j < T.g1 := by rw [g1]; exact hj
  have HS := Lib.hid h
  clear hT hoff hops hlv hx h hi hj
  have q2 : (x.ki == 2) = false := by simpa using hk
  go_enter Try.func33, Try.ntmps33
  go_wp2_with fail
  ((with_reducible refine hb.mono ?_))
  rintro e w1 hbe
  obtain ⟨rfl, h1, k1⟩ := hbe.1 hd
  clear hbe hb hk
  have KA : Kept (ownT tag) w (w1.alloc (.cells #[.int .i64 x.op, .int .i64 x.ki, .int .i64 x.ch, .slice la ll lc] 147)) := k1.trans (Kept.of_below (F := ownT tag) (bel_alloc (Below.refl _ w1) _)) (fun _ _ h => h)
  have HA := h1.below (bel_alloc (Below.refl _ w1) (.cells #[.int .i64 x.op, .int .i64 x.ki, .int .i64 x.ch, .slice la ll lc] 147))
  have bbl := (h1.range _ _ (h1.tbb i hiT)).2
  have pal := (h1.range _ _ h1.tpa).2
  have c3 := h1.c (.pages i j hiT hjT)
  have cg := h1.c .g3
  have p1 : decide ((p : Int) < 0) = false := by simp
  have p2 : decide (T.g2 ≤ p) = false := by simp; omega
  have hrow := h1.rows i j p hiT hjT hp
  rw [hbs] at hrow
  obtain ⟨g, off, cap, hcell, htag, hrw, hcap1, hcap2⟩ := hrow
  have hsh := h1.shape.b3
  have hcellA : (w1.alloc (.cells #[.int .i64 x.op, .int .i64 x.ki, .int .i64 x.ch, .slice la ll lc] 147)).cell? ⟨L.pb i j, p, none⟩ = some (.slice (some ⟨g, off, none⟩) (T.g3 + 64) cap) := (World.cell?_alloc_lt w1 _ _ (h1.range _ _ (h1.tpb i j hiT hjT)).2).trans hcell
  have hcgA : (w1.alloc (.cells #[.int .i64 x.op, .int .i64 x.ki, .int .i64 x.ch, .slice la ll lc] 147)).cell? ⟨L.pa, 3, none⟩ = some (.int .i64 (T.g3 : Int)) := (World.cell?_alloc_lt w1 _ _ pal).trans cg
  have hrA := row_alloc hrw (.cells #[.int .i64 x.op, .int .i64 x.ki, .int .i64 x.ch, .slice la ll lc] 147)
  have hpl := (h1.range _ _ (h1.tpb i j hiT hjT)).2
  have HSZ := Lib.hid hsh
  have HA' := Lib.hid HA
  have KA' := Lib.hid KA
  have hcm : cap ≤ 9223372036854775807 := by unfold maxLen at hcap2; exact hcap2
  have HSZ1 := Lib.hid k1.size
  clear h1 k1 HA KA hbs g0 g1 g2 g3 hd htag hrw hiT hjT hcap2
  have hnil := fun wx => Lib.run_eql_slice_nil (P := Try.prog) wx 57 5 (some ⟨g, off, none⟩) (T.g3 + 64) cap 0 0 Try.underlying57
  go_upto_region 11 with fail
  clear hnil
  have u1 : T.g3 ≤ cap := by omega
  have u2 : (T.g3 : Int) ≤ (cap : Int) := by omega
  have u3 : (T.g3 : Int) ≤ (T.g3 : Int) + 64 := by omega
  have u4 : (0 : Int) ≤ (T.g3 : Int) := by omega
  have u5 : ¬ cap = T.g3 := by omega
  have u6 : (T.g3 : Int) + 64 ≤ (cap : Int) := by omega
  obtain ⟨W2, hW2⟩ : ∃ W2, W2 = w1.alloc (.cells #[.int .i64 x.op, .int .i64 x.ki, .int .i64 x.ch, .slice la ll lc] 147) := ⟨_, rfl⟩
  have HW2 : Hid (w1.heap.size ≤ W2.heap.size) := Lib.hid (by rw [hW2]; simp)
  rw [← hW2] at HA' KA' hrA hcgA ⊢
  clear hW2 hcell hcellA c3 cg bbl pal hpl q2 p1 p2
  have HPA := Lib.hid (HA'.out.range _ _ HA'.out.tpa).2
  have HPC := Lib.hid hcgA
  have HRA := Lib.hid hrA
  have HSZ2 : Hid ((T.g3 : Int) ≤ (T.g3 : Int) + 64) := Lib.hid (by omega)
  have HLT : Hid ((bs.take T.g3).length = T.g3) := Lib.hid (by rw [List.length_take, hrA.1]; omega)
  have HLD : Hid ((bs.drop T.g3).length = 64) := Lib.hid (by rw [List.length_drop, hrA.1]; omega)
  have HZ : Hid (w.heap.size ≤ W2.heap.size) := Lib.hid (Nat.le_trans HSZ1.out HW2.out)
  have hbd : Below W2.heap.size W2 W2.drew := (Below.refl _ W2).drew
  have e64 : T.g3 + 64 - T.g3 = 64 := by omega
  have HR1 : Hid (∀ w', Below W2.heap.size W2 w' → Row w' (some ⟨g, off, none⟩) T.g3 (bs.take T.g3)) := Lib.hid fun w' hb => row_prefix (row_keep HRA.out hb (Nat.le_refl _)) T.g3 (by omega)
  have HR2 : Hid (∀ w', Below W2.heap.size W2 w' → Row w' (some ⟨g, off + T.g3, none⟩) 64 (bs.drop T.g3)) := Lib.hid fun w' hb => by
    have := row_behind (row_keep HRA.out hb (Nat.le_refl _)) T.g3 (by omega)
    rw [e64] at this; exact this
  have HCL : Hid (∀ w', Below W2.heap.size W2 w' → w'.cell? ⟨L.pa, 3, none⟩ = some (.int .i64 (T.g3 : Int))) := Lib.hid fun w' hb => (hb.cell (p := ⟨L.pa, 3, none⟩) HPA.out).trans HPC.out
  clear hrA hcgA e64
  go_region_held3 (fun w' => w'.cell? ⟨L.pa, 3, none⟩ = some (.int .i64 (T.g3 : Int))) (first | exact HCL.out _ hbd | exact hS5 | exact hS6)
    (first
      | (go_simp; go_at_call 99; ((with_reducible refine (clone_any (some ⟨g, off, none⟩) T.g3 cap (bs.take T.g3) _ ?_ ?_ ?_).mono ?_)); (exact HR1.out _ (by first | exact hbd | exact hb6)); (exact fun e => by cases e); (have := HSZ.out; omega); (intro e w5 h5; obtain ⟨a5, k5, rfl, _, _, ho5, hb5'⟩ := retOwn_len h5; have hb5 : Below W2.heap.size W2 w5 := bel_trans (by first | exact hbd | exact hb6) hb5'; have hS5 := HCL.out _ hb5; rw [HLT.out] at ho5 ⊢; clear h5))
      | (go_simp; go_at_call 99; ((with_reducible refine (clone_any (some ⟨g, off + T.g3, none⟩) 64 (cap - T.g3) (bs.drop T.g3) _ ?_ ?_ ?_).mono ?_)); (exact HR2.out _ (by first | exact hbd | exact hb5)); (exact fun e => by cases e); omega; (intro e w6 h6; obtain ⟨a6, k6, rfl, _, _, ho6, hb6'⟩ := retOwn_len h6; have hb6 : Below W2.heap.size W2 w6 := bel_trans (by first | exact hbd | exact hb5) hb6'; have hS6 := HCL.out _ hb6; rw [HLD.out] at ho6 ⊢; clear h6)))
  all_goals
    first
      | (have HE : Hid (Own w.heap.size w6 (.slice a5 T.g3 k5) (bs.take T.g3) ∧ Own w.heap.size w6 (.slice a6 64 k6) (bs.drop T.g3) ∧ NA B tag L T w6 ∧ Kept (ownT tag) w w6) := Lib.hid ⟨own_mono (own_up ho5 hb6') (Nat.le_trans HZ.out (hbd.size)), own_mono ho6 (Nat.le_trans HZ.out hb5.size), HA'.out.below hb6, KA'.out.trans (Kept.of_below (F := ownT tag) hb6) (fun _ _ h => h)⟩
         clear ho5 ho6 hb5 hb6 hb5' hb6' hS5 hS6 hbd
         go_wp2
         go_ret3
         exact ⟨a5, k5, a6, k6, rfl, HE.out⟩)
      | (have HE : Hid (Own w.heap.size w5 (.slice a5 T.g3 k5) (bs.take T.g3) ∧ Own w.heap.size w5 (.slice a6 64 k6) (bs.drop T.g3) ∧ NA B tag L T w5 ∧ Kept (ownT tag) w w5) := Lib.hid ⟨own_mono ho5 (Nat.le_trans HZ.out hb6.size), own_mono (own_up ho6 hb5') (Nat.le_trans HZ.out (hbd.size)), HA'.out.below hb5, KA'.out.trans (Kept.of_below (F := ownT tag) hb5) (fun _ _ h => h)⟩
         clear ho5 ho6 hb5 hb6 hb5' hb6' hS5 hS6 hbd
         go_wp2
         go_ret3
         exact ⟨a5, k5, a6, k6, rfl, HE.out⟩)
end

end Go.Proofs.Ytbfmpcomjmcfjaa
