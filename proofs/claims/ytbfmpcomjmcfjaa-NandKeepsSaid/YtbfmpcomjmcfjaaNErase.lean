/- nand: Erase, where neither a Crash nor a Fail comes; the early ends of Read, Program, Erase. -/
import Derived.Test.YtbfmpcomjmcfjaaNRead
import Derived.Lib.SliceRun
namespace Go.Proofs.Ytbfmpcomjmcfjaa
open Go.RowKit

def NS.wipeTo (S : NS) (i j n : Nat) : NS := { S with page := fun i' j' p' => if i' = i ∧ j' = j ∧ p' < n then none else S.page i' j' p' }
theorem wipe_zero (S : NS) (i j : Nat) : S.wipeTo i j 0 = S := by
  unfold NS.wipeTo
  congr 1
  funext i' j' p'
  rw [if_neg (by omega)]
theorem wipe_step (S : NS) (i j n : Nat) : (S.wipeTo i j n).setPage i j n none = S.wipeTo i j (n + 1) := by
  unfold NS.wipeTo NS.setPage
  congr 1
  funext i' j' p'
  simp only
  by_cases e : i' = i ∧ j' = j ∧ p' = n
  · rw [if_pos e, if_pos ⟨e.1, e.2.1, by omega⟩]
  · rw [if_neg e]
    by_cases f : i' = i ∧ j' = j ∧ p' < n
    · rw [if_pos f, if_pos ⟨f.1, f.2.1, by omega⟩]
    · rw [if_neg f, if_neg (by omega)]
section
variable {B : Nat} {tag : Nat → Option Tag} {L : NL} {S : NS} {w : World}
theorem NA.wipe (i j : Nat) (hi : i ≤ S.g0) (hj : j < S.g1) : ∀ (n o : Nat) (w : World), o + n ≤ S.g2 → NA B tag L (S.wipeTo i j o) w → NA B tag L (S.wipeTo i j (o + n)) (w.setCells (L.pb i j) o (List.replicate n (.slice none 0 0))) ∧ Kept (ownT tag) w (w.setCells (L.pb i j) o (List.replicate n (.slice none 0 0)))
  | 0, o, w, _, h => ⟨h, Kept.refl _ _⟩
  | n + 1, o, w, ho, h => by
    have tp := h.tpb i j hi hj
    have hin : ∃ u, w.cell? ⟨L.pb i j, o, none⟩ = some u := by
      have := h.rows i j o hi hj (show o < S.g2 by omega)
      cases hpg : (S.wipeTo i j o).page i j o with
      | none => rw [hpg] at this; exact ⟨_, this⟩
      | some bs => rw [hpg] at this; obtain ⟨_, _, _, h1, _⟩ := this; exact ⟨_, h1⟩
    obtain ⟨u, hu⟩ := hin
    have h1 := h.setPage i j o hi hj (show o < S.g2 by omega) (.slice none 0 0) none (World.cell?_setCell_same w _ _ hu)
    rw [wipe_step] at h1
    have h2 := NA.wipe i j hi hj n (o + 1) _ (by omega) h1
    rw [List.replicate_succ]
    rw [show o + (n + 1) = o + 1 + n by omega]
    exact ⟨h2.1, (kept_set tp _).trans h2.2 (fun _ _ h => h)⟩

/-- begin answered an error. -/
def BadBegin (p : Value) (c d n : Int) (w : World) (Q : World → Prop) : Prop :=
  Calls Try.prog 97 #[p, .int .i64 c, .int .i64 d] w fun e w' => e = .returned (.tuple #[.pointer none, .agg #[.int .i64 0, .int .i64 0, .int .i64 0, .slice none 0 0], .int .i64 n]) ∧ Q w'
set_option maxHeartbeats 800000 in
theorem program_err (p : Value) (c d n pp : Int) (v1 v2 : Value) (Q : World → Prop) (hn : n ≠ 0) (hb : BadBegin p c d n w Q) :
    Calls Try.prog 36 #[p, .int .i64 c, .int .i64 d, .int .i64 pp, v1, v2] w fun e w' => e = .returned (.int .i64 n) ∧ ∃ w1, Q w1 ∧ Below w1.heap.size w1 w' := by
  have q : (n != 0) = true := by simpa using hn
  clear hn
  unfold BadBegin at hb
  go_enter Try.func36, Try.ntmps36
  go_wp2_with fail
  ((with_reducible refine hb.mono ?_))
  rintro e w1 ⟨rfl, hq⟩
  have HQ := Lib.hid hq
  clear hb hq
  go_wp2
  go_ret
  exact ⟨rfl, w1, HQ.out, bel_alloc (Below.refl _ w1) _⟩
set_option maxHeartbeats 800000 in
theorem erase_err (p : Value) (c d n : Int) (Q : World → Prop) (hn : n ≠ 0) (hb : BadBegin p c d n w Q) :
    Calls Try.prog 37 #[p, .int .i64 c, .int .i64 d] w fun e w' => e = .returned (.int .i64 n) ∧ ∃ w1, Q w1 ∧ Below w1.heap.size w1 w' := by
  have q : (n != 0) = true := by simpa using hn
  clear hn
  unfold BadBegin at hb
  go_enter Try.func37, Try.ntmps37
  go_wp2_with fail
  ((with_reducible refine hb.mono ?_))
  rintro e w1 ⟨rfl, hq⟩
  have HQ := Lib.hid hq
  clear hb hq
  go_wp2
  go_ret
  exact ⟨rfl, w1, HQ.out, bel_alloc (Below.refl _ w1) _⟩
set_option maxHeartbeats 800000 in
theorem read_err (p : Value) (c d n pp : Int) (Q : World → Prop) (hn : n ≠ 0) (hb : BadBegin p c d n w Q) :
    Calls Try.prog 33 #[p, .int .i64 c, .int .i64 d, .int .i64 pp] w fun e w' => e = .returned (.tuple #[.slice none 0 0, .slice none 0 0, .int .i64 n]) ∧ ∃ w1, Q w1 ∧ Below w1.heap.size w1 w' := by
  have q : (n != 0) = true := by simpa using hn
  clear hn
  unfold BadBegin at hb
  go_enter Try.func33, Try.ntmps33
  go_wp2_with fail
  ((with_reducible refine hb.mono ?_))
  rintro e w1 ⟨rfl, hq⟩
  have HQ := Lib.hid hq
  clear hb hq
  go_wp2
  go_ret3
  exact ⟨rfl, w1, HQ.out, bel_alloc (Below.refl _ w1) _⟩
theorem bad_nil (c d : Int) (w : World) : BadBegin (.pointer none) c d 60 w (fun w' => Below w.heap.size w w') := begin_nil c d w
theorem bad_off (h : NA B tag L S w) (hoff : S.off = true) (c d : Int) : BadBegin (.pointer (some ⟨L.pa, 0, none⟩)) c d 72 w (fun w' => NA B tag L S w' ∧ Kept (ownT tag) w w') :=
  (begin_off h hoff c d).mono fun _ _ q => ⟨q.1, h.below q.2, Kept.of_below q.2⟩
theorem bad_none (h : NA B tag L S w) (hoff : S.off = false) (c d : Int) (hc : NoAt S c d) : BadBegin (.pointer (some ⟨L.pa, 0, none⟩)) c d 34 w (fun w' => NA B tag L S w' ∧ Kept (ownT tag) w w') :=
  (begin_none h hoff c d hc).mono fun _ _ q => ⟨q.1, h.below q.2, Kept.of_below q.2⟩
theorem bad_dead (h : NA B tag L S w) (i j : Nat) (hi : i ≤ S.g0) (hj : j < S.g1) (hoff : S.off = false) (hops : S.ops < 1000000000000) (hd : S.tick.dead i = true) (ho : S.tick.off = false) :
    BadBegin (.pointer (some ⟨L.pa, 0, none⟩)) (i : Int) (j : Int) 71 w (fun w' => NA B tag L S.tick w' ∧ Kept (ownT tag) w w') :=
  (begin_any h i j hi hj hoff hops).mono fun _ _ q => q.2.2 hd ho
theorem bad_crash (h : NA B tag L S w) (i j : Nat) (hi : i ≤ S.g0) (hj : j < S.g1) (hoff : S.off = false) (hops : S.ops < 1000000000000) (hd : S.tick.dead i = true) (ho : S.tick.off = true) :
    BadBegin (.pointer (some ⟨L.pa, 0, none⟩)) (i : Int) (j : Int) 72 w (fun w' => NA B tag L S.tick w' ∧ Kept (ownT tag) w w') :=
  (begin_any h i j hi hj hoff hops).mono fun _ _ q => q.2.1 hd ho

set_option maxRecDepth 100000 in
set_option maxHeartbeats 3200000 in
theorem erase_ok (h : NA B tag L S w) (i j : Nat) (hi : i ≤ S.g0) (hj : j < S.g1) (hoff : S.off = false) (hops : S.ops < 1000000000000) (hd : S.tick.dead i = false) (hk : (S.ev (S.ops + 1)).ki ≠ 2)
    (hk1 : (S.ev (S.ops + 1)).ki ≠ 1) (hbad : S.tick.bad i j = false) (her : S.tick.er i j < 1000000000000) :
    Calls Try.prog 37 #[.pointer (some ⟨L.pa, 0, none⟩), .int .i64 (i : Int), .int .i64 (j : Int)] w (ORet B tag L (((S.tick.wipeTo i j S.tick.g2).setNext i j 0).setEr i j (S.tick.er i j + 1)) w 0) := by
  have hb := (begin_any h i j hi hj hoff hops)
  obtain ⟨x, hx⟩ : ∃ x, S.ev (S.ops + 1) = x := ⟨_, rfl⟩
  obtain ⟨la, ll, lc, hlv, _⟩ := h.left (S.ops + 1)
  rw [hx] at hk hk1
  rw [hlv, hx] at hb
  unfold NE.val at hb
  obtain ⟨T, hT⟩ : ∃ T, S.tick = T := ⟨_, rfl⟩
  obtain ⟨g0, g1, g2, g3⟩ := tick_g S
  rw [hT] at hb hd g0 g1 g2 g3 hbad her ⊢
  have hiT : i ≤ T.g0 := by rw [g0]; exact hi
  have hjT : j < T.g1 := by rw [g1]; exact hj
  have HS := Lib.hid h
  clear hT hoff hops hlv hx h hi hj
  have q2 : (x.ki == 2) = false := by simpa using hk
  go_enter Try.func37, Try.ntmps37
  go_wp2_with fail
  ((with_reducible refine hb.mono ?_))
  rintro e w1 hbe
  obtain ⟨rfl, h1, k1⟩ := hbe.1 hd
  clear hbe hb hk
  have KA : Kept (ownT tag) w (w1.alloc (.cells #[.int .i64 x.op, .int .i64 x.ki, .int .i64 x.ch, .slice la ll lc] 147)) := k1.trans (Kept.of_below (F := ownT tag) (bel_alloc (Below.refl _ w1) _)) (fun _ _ h => h)
  have HA := h1.below (bel_alloc (Below.refl _ w1) (.cells #[.int .i64 x.op, .int .i64 x.ki, .int .i64 x.ch, .slice la ll lc] 147))
  have bbl := (h1.range _ _ (h1.tbb i hiT)).2
  have pal := (h1.range _ _ h1.tpa).2
  have c3 := h1.c (.pages i j hiT hjT)
  have cg := h1.c .g3
  have q1 : (x.ki == 1) = false := by simpa using hk1
  obtain ⟨W2, hW2⟩ : ∃ W2, W2 = w1.alloc (.cells #[.int .i64 x.op, .int .i64 x.ki, .int .i64 x.ch, .slice la ll lc] 147) := ⟨_, rfl⟩
  rw [← hW2] at HA KA
  have cb := h1.c (.bad i j hiT hjT)
  rw [hbad] at cb
  have HA0 : NA B tag L (T.wipeTo i j 0) W2 := by rw [wipe_zero]; exact HA
  have HWI := NA.wipe i j hiT hjT T.g2 0 W2 (by omega) HA0
  rw [Nat.zero_add] at HWI
  have hcl : ∀ ty, (Builtin.clear_ #[52] ty #[.slice (some ⟨L.pb i j, 0, none⟩) T.g2 (L.pcap i j)]).run Try.prog W2 = .ok (.tuple #[]) (W2.setCells (L.pb i j) 0 (List.replicate T.g2 (.slice none 0 0))) := fun ty =>
    Lib.run_clear_slice W2 52 57 ty (.slice none 0 0) Try.underlying52 (fun _ => by kernel_rfl) rfl rfl (L.pb i j) 0 T.g2 (L.pcap i j) (by have := HA.shape.a2; omega)
      (fun p hp => by
        rw [Nat.zero_add]
        have := HA.rows i j p hiT hjT hp
        cases hpg : T.page i j p with
        | none => rw [hpg] at this; rw [this]; rfl
        | some bs => rw [hpg] at this; obtain ⟨_, _, _, h1, _⟩ := this; rw [h1]; rfl)
      (fun p _ => HA.free _ _ _ (HA.tpb i j hiT hjT) trivial)
  obtain ⟨W3, hW3⟩ : ∃ W3, W3 = W2.setCells (L.pb i j) 0 (List.replicate T.g2 (.slice none 0 0)) := ⟨_, rfl⟩
  rw [← hW3] at hcl HWI
  rw [hW2] at hcl
  obtain ⟨h3, k3⟩ := HWI
  have K3 : Kept (ownT tag) w W3 := KA.trans k3 (fun _ _ h => h)
  have cn3 := h3.c (.next i j hiT hjT)
  have fn3 := h3.f (.next i j hiT hjT)
  have ce3 := h3.c (.er i j hiT hjT)
  have fe3 := h3.f (.er i j hiT hjT)
  have H4 := h3.setNext i j hiT hjT 0 (Nat.zero_le _)
  have K4 := K3.set ⟨L.bb i, j * 4 + 1, none⟩ (.int .i64 ((0 : Nat) : Int)) (.inl (own_tag (h3.tbb i hiT)))
  have H5 := H4.setEr i j hiT hjT (T.er i j + 1)
  have K5 := K4.set ⟨L.bb i, j * 4 + 2, none⟩ (.int .i64 ((T.er i j + 1 : Nat) : Int)) (.inl (own_tag (h3.tbb i hiT)))
  rw [show ((T.er i j + 1 : Nat) : Int) = (T.er i j : Int) + 1 by omega] at H5 K5
  rw [show ((0 : Nat) : Int) = 0 from rfl] at H5 K5
  have ce3' : W3.cell? ⟨L.bb i, j * 4 + 2, none⟩ = some (.int .i64 (T.er i j : Int)) := ce3
  have RES := Lib.hid (And.intro H5 K5)
  clear g0 g1 g2 g3 h1 k1 HA KA h3 k3 K3 H4 K4 H5 K5 HA0 hW3 hW2 ce3 hk1 hbad
  go_wp2
  go_ret
  exact ⟨rfl, tag, RES.out.1, Grew.refl _ _, RES.out.2⟩

end

end Go.Proofs.Ytbfmpcomjmcfjaa
