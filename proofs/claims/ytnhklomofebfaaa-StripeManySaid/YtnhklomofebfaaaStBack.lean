/- A stripe that was written is read as it was, whichever one member is dead or has something else. -/
import Derived.Test.YtnhklomofebfaaaRead
import Derived.Test.YtnhklomofebfaaaReadDead
import Derived.Test.YtnhklomofebfaaaReadBad
import Derived.Test.YtnhklomofebfaaaRemade
import Derived.Test.YtnhklomofebfaaaStPages
import Derived.Test.YtnhklomofebfaaaRamNew
import Derived.Test.YtnhklomofebfaaaStSame
namespace Go.Proofs.Ytnhklomofebfaaa
open Go.RowKit Go.Deep

/-- Pages that may be written. -/
structure LOk (L : List SP) (sz : Nat) : Prop where
  len : ∀ q ∈ L, q.d.l.length = sz
  fit : ∀ q ∈ L, q.h.Fits ∧ 1 ≤ q.h.ki ∧ q.h.ki ≤ 6
theorem sp_mem (L : List SP) (k : Nat) (hk : k < L.length) : L.getD k SP.nil ∈ L := by simp [List.getD, hk]
section
variable {n p sz seg row : Nat} {L : List SP} {G : List PG} {P : PG}
theorem stripe_sealed (h : StripeB n p sz seg row L G P) (hL : LOk L sz) (hlen : L.length + 1 = n) : Sealed G sz := by
  have key : ∀ g ∈ G, ∃ j, j < L.length ∧ g.d.l = (L.getD j SP.nil).d.l ∧ g.o.l = sealB (L.getD j SP.nil).h (L.getD j SP.nil).d.l [] := fun g hg => by
    obtain ⟨j, hj, e⟩ := List.mem_iff_getElem.1 hg
    have h1 := h.made j hj
    have e2 : G.getD j PG.nil = g := by simp [List.getD, hj, e]
    rw [e2] at h1
    exact ⟨j, by have := h.len; omega, h1.1, h1.2.1⟩
  refine ⟨fun g hg => ?_, fun g hg => ?_⟩
  · obtain ⟨j, hj, e1, _⟩ := key g hg
    rw [e1]; exact hL.len _ (sp_mem L j hj)
  · obtain ⟨j, hj, e1, e2⟩ := key g hg
    exact ⟨_, (hL.fit _ (sp_mem L j hj)).1, (hL.fit _ (sp_mem L j hj)).2, by rw [e1]; exact e2⟩
theorem slot_mem (p k : Nat) : slotOf p (memOf p k) = k := by
  unfold slotOf memOf
  by_cases h : k < p
  · rw [if_pos h, if_pos h]
  · rw [if_neg h, if_neg (by omega)]; omega
theorem slot_lt {p m n : Nat} (hp : p < n) (hm : m < n) (h : m ≠ p) : slotOf p m + 1 < n := by
  unfold slotOf
  split <;> omega
/-- A data page of a stripe. -/
theorem data_at (h : StripeB n p sz seg row L G P) (hL : LOk L sz) (hlen : L.length + 1 = n) (hp : p < n) {m : Nat} (hm : m < n) (hmp : m ≠ p) :
    (onB p G P m).take sz = (L.getD (slotOf p m) SP.nil).d.l ∧ (onB p G P m).drop sz = sealB (L.getD (slotOf p m) SP.nil).h (L.getD (slotOf p m) SP.nil).d.l [] ∧
    (onAt p G P m).d.l = (L.getD (slotOf p m) SP.nil).d.l ∧ (onAt p G P m).o.l = sealB (L.getD (slotOf p m) SP.nil).h (L.getD (slotOf p m) SP.nil).d.l [] := by
  have h1 := slot_lt hp hm hmp
  obtain ⟨h2, h3, _⟩ := h.made (slotOf p m) (by have := h.len; omega)
  have e : onAt p G P m = G.getD (slotOf p m) PG.nil := by unfold onAt; rw [if_neg hmp]
  have hl : (L.getD (slotOf p m) SP.nil).d.l.length = sz := hL.len _ (sp_mem L _ (by omega))
  unfold onB
  rw [e, h2, h3]
  exact ⟨List.take_left' hl, List.drop_left' hl, rfl, rfl⟩
theorem par_len (h : StripeB n p sz seg row L G P) (hL : LOk L sz) (hlen : L.length + 1 = n) (hn : 3 ≤ n) : P.d.l.length = sz := by
  have hS := stripe_sealed h hL hlen
  have h0 : 0 < G.length := by have := h.len; omega
  rw [h.pd, xorL_len]
  have h1 := lgL_le (a := dsOf G) (m := sz) fun x hx => by rw [ds_len hS x hx]; exact Nat.le_refl _
  have h2 : (G.getD 0 PG.nil).d.l ∈ dsOf G := by unfold dsOf; rw [List.mem_map]; exact ⟨_, getD_mem' G 0 h0, rfl⟩
  have h3 := lgL_mem h2
  rw [ds_len hS _ h2] at h3
  omega
theorem hdrOf_fits (hL : LOk L sz) (hlen : L.length + 1 = n) (hn : 3 ≤ n) (hseg : seg ≤ 2000) (hrow : row ≤ 2000) : (hdrOf (L.getD 0 SP.nil).h row seg).Fits := by
  have f := (hL.fit _ (sp_mem L 0 (by omega))).1
  exact ⟨by show 5 < 256; omega, f.ep, f.ba, by show row < 65536; omega, by show seg < 65536; omega, by show 0 < 4294967296; omega, by show 0 < 4294967296; omega⟩
/-- The parity page. -/
theorem par_at (h : StripeB n p sz seg row L G P) (hL : LOk L sz) (hlen : L.length + 1 = n) (hn : 3 ≤ n) (hseg : seg ≤ 2000) (hrow : row ≤ 2000) :
    (onB p G P p).take sz = P.d.l ∧ (onB p G P p).drop sz = P.o.l ∧ OpenOk P.d.l P.o.l ∧ takeH P.o.l = hdrOf (L.getD 0 SP.nil).h row seg ∧ openH P.d.l P.o.l = hdrOf (L.getD 0 SP.nil).h row seg := by
  have hl := par_len h hL hlen hn
  have hf := hdrOf_fits hL hlen hn hseg hrow
  have e : onAt p G P p = P := by unfold onAt; rw [if_pos rfl]
  have hk : 1 ≤ (hdrOf (L.getD 0 SP.nil).h row seg).ki ∧ (hdrOf (L.getD 0 SP.nil).h row seg).ki ≤ 6 := ⟨by show 1 ≤ 5; omega, by show 5 ≤ 6; omega⟩
  unfold onB
  rw [e]
  refine ⟨List.take_left' hl, List.drop_left' hl, ?_, ?_, ?_⟩
  · rw [h.po, h.pd]; exact (openOk_seal hf _ _).2 hk
  · rw [h.po]; exact takeH_seal hf _ _
  · rw [h.po, h.pd]; exact openH_seal hf _ _ hk
theorem any_ok (h : StripeB n p sz seg row L G P) (hL : LOk L sz) (hlen : L.length + 1 = n) (hp : p < n) (hn : 3 ≤ n) (hseg : seg ≤ 2000) (hrow : row ≤ 2000) {m : Nat} (hm : m < n) : OpenOk ((onB p G P m).take sz) ((onB p G P m).drop sz) := by
  by_cases e : m = p
  · subst e
    obtain ⟨h1, h2, h3, _⟩ := par_at h hL hlen hn hseg hrow
    rw [h1, h2]; exact h3
  · obtain ⟨h1, h2, _⟩ := data_at h hL hlen hp hm e
    have f := hL.fit _ (sp_mem L (slotOf p m) (by have := slot_lt hp hm e; omega))
    rw [h1, h2]; exact (openOk_seal f.1 _ _).2 f.2
end
/-- All members but D are there, and have their pages of a stripe. -/
def Has (s : RS) (p seg row : Nat) (G : List PG) (P : PG) (D : Nat) : Prop := ∀ m, m < s.n → m ≠ D → s.gone m = 0 ∧ s.page (m, seg, row) = onB p G P m
section
variable {B : Nat} {s : RS} {w : World} {L : List SP} {G : List PG} {P : PG}
theorem stripe_read (h : Ram B s w) (hsz : s.sz ≤ 1000) (seg row slot p D : Nat) (hseg : seg + 5 < s.bl) (hrow : row < s.pg) (hslot : slot + 1 < s.n) (hp : ((p : Nat) : Int) = ParOf s.n s.pg seg row) (hpn : p < s.n)
    (hS : StripeB s.n p s.sz seg row L G P) (hL : LOk L s.sz) (hlen : L.length + 1 = s.n) (hH : Has s p seg row G P D)
    (hD : s.gone D ≠ 0 ∨ (s.gone D = 0 ∧ ¬ OpenOk ((s.page (D, seg, row)).take s.sz) ((s.page (D, seg, row)).drop s.sz)) ∨ s.n ≤ D) :
    Calls Try.prog 13 #[.iface 30 (.pointer (some ⟨s.rb, 0, none⟩)), .agg #[.int .i64 (seg : Int), .int .i64 (row : Int), .int .i64 (slot : Int)]] w (ReadPRet (L.getD slot SP.nil).h (L.getD slot SP.nil).d.l w) := by
  have hg := h.geo
  have hn3 : 3 ≤ s.n := by have := hg.1; omega
  have hbl : s.bl ≤ 64 := by have := hg.2.2.2.1; omega
  have hpg : s.pg ≤ 32 := by have := hg.2.2.2.2.2.1; omega
  have hmn : memOf p slot < s.n := by unfold memOf; split <;> omega
  have hmp : memOf p slot ≠ p := memOf_ne p slot
  obtain ⟨d1, d2, d3, d4⟩ := data_at hS hL hlen hpn hmn hmp
  rw [slot_mem] at d1 d2 d3 d4
  have f := hL.fit _ (sp_mem L slot (by omega))
  by_cases e : memOf p slot = D
  · have hlive : ∀ j, j < s.n → j ≠ memOf p slot → s.gone j = 0 ∧ OpenOk ((s.page (j, seg, row)).take s.sz) ((s.page (j, seg, row)).drop s.sz) := fun j hj hne => by
      obtain ⟨q1, q2⟩ := hH j hj (by rw [← e]; exact hne)
      rw [q2]
      exact ⟨q1, any_ok hS hL hlen hpn hn3 (by omega) (by omega) hj⟩
    obtain ⟨p1, p2, _, p4, _⟩ := par_at hS hL hlen hn3 (show seg ≤ 2000 by omega) (show row ≤ 2000 by omega)
    have hki : (takeH ((s.page (p, seg, row)).drop s.sz)).ki = 5 := by
      rw [(hH p hpn (by rw [← e]; exact fun q => hmp q.symm)).2, p2, p4]; rfl
    have hout : ∀ F : Nat → FD, (∀ j, j < s.n → j ≠ memOf p slot → (F j).d.l = (s.page (j, seg, row)).take s.sz ∧ (F j).o.l = (s.page (j, seg, row)).drop s.sz) → outD (F p).pg (restL F (memOf p slot) p s.n) = (L.getD slot SP.nil).d.l ∧ outO (F p).pg (restL F (memOf p slot) p s.n) = sealB (L.getD slot SP.nil).h (L.getD slot SP.nil).d.l [] ∧ OpenOk (outD (F p).pg (restL F (memOf p slot) p s.n)) (outO (F p).pg (restL F (memOf p slot) p s.n)) := fun F hF => by
      have hF' : ∀ m, m < s.n → m ≠ memOf p slot → (F m).d.l = (onAt p G P m).d.l ∧ (F m).o.l = (onAt p G P m).o.l := fun m hm hne => by
        obtain ⟨r1, r2⟩ := hF m hm hne
        rw [r1, r2, (hH m hm (by rw [← e]; exact hne)).2]
        by_cases c : m = p
        · subst c
          rw [p1, p2]
          unfold onAt
          rw [if_pos rfl]
          exact ⟨rfl, rfl⟩
        · obtain ⟨c1, c2, c3, c4⟩ := data_at hS hL hlen hpn hm c
          rw [c1, c2, c3, c4]
          exact ⟨rfl, rfl⟩
      have hr := remade (mi := memOf p slot) hS.len hpn hmn hmp hF' (stripe_sealed hS hL hlen) hS.pd hS.po
      rw [d3, d4] at hr
      exact hr
    have hrd : openH (L.getD slot SP.nil).d.l (sealB (L.getD slot SP.nil).h (L.getD slot SP.nil).d.l []) = (L.getD slot SP.nil).h := openH_seal f.1 _ _ f.2
    have hdl : (L.getD slot SP.nil).d.l.length ≤ 1000 := by rw [hL.len _ (sp_mem L slot (by omega))]; exact hsz
    rcases hD with hd | ⟨hd1, hd2⟩ | hd
    · have := read_dead h hsz seg row slot p hseg hrow hslot hp hpn (by rw [e]; exact hd) hlive hki _ _ hdl hout
      rw [hrd] at this
      exact this
    · have := read_bad h hsz seg row slot p hseg hrow hslot hp hpn (by rw [e]; exact hd1) (by rw [e]; exact hd2) hlive hki _ _ hdl hout
      rw [hrd] at this
      exact this
    · omega
  · obtain ⟨q1, q2⟩ := hH _ hmn e
    have := read_plain h hsz seg row slot p hseg hrow hslot hp q1 (by rw [q2]; exact any_ok hS hL hlen hpn hn3 (by omega) (by omega) hmn)
    rw [q2, d1, d2, openH_seal f.1 _ _ f.2] at this
    exact this
end
/-- Pages that were made are pages that may be written. -/
theorem gotP_sp {q : Nat → List Nat × RH} {B k sz : Nat} {sv : Value} {L : List SP} {w : World} (h : GotP sz q B k sv L w) (hq : ∀ j, j < k → (q j).1.length = sz ∧ (q j).2.Fits ∧ 1 ≤ (q j).2.ki ∧ (q j).2.ki ≤ 6) :
    ∃ a cap, sv = .slice a k cap ∧ PagesSP w a L ∧ (∀ x ∈ L, x.d.n = sz) ∧ LOk L sz ∧ L.length = k := by
  obtain ⟨a, cap, e, hc⟩ := cellsSP_own h.1
  have key : ∀ x ∈ L, ∃ j, j < k ∧ L.getD j SP.nil = x := fun x hx => by
    obtain ⟨j, hj, e⟩ := List.mem_iff_getElem.1 hx
    exact ⟨j, by rw [← h.2.1]; exact hj, by simp [List.getD, hj, e]⟩
  refine ⟨a, cap, by rw [← h.2.1]; exact e, ⟨hc, fun x hx => ?_⟩, fun x hx => ?_, ⟨fun x hx => ?_, fun x hx => ?_⟩, h.2.1⟩
  · obtain ⟨j, hj, rfl⟩ := key x hx
    obtain ⟨h1, h2, h3, _⟩ := h.2.2 j hj
    exact ⟨h3, by rw [h1]; exact (hq j hj).2.1⟩
  · obtain ⟨j, hj, rfl⟩ := key x hx
    exact (h.2.2 j hj).2.2.2.1
  · obtain ⟨j, hj, rfl⟩ := key x hx
    rw [(h.2.2 j hj).2.1]; exact (hq j hj).1
  · obtain ⟨j, hj, rfl⟩ := key x hx
    rw [(h.2.2 j hj).1]; exact (hq j hj).2
theorem pgAt_ok (HL : List RH) (FL : List Nat) (h : ∀ h ∈ HL, h.Fits) (j : Nat) (hj : j ≤ 1000) : (pgAt HL FL j).1.length = 256 ∧ (pgAt HL FL j).2.Fits ∧ 1 ≤ (pgAt HL FL j).2.ki ∧ (pgAt HL FL j).2.ki ≤ 6 := by
  refine ⟨datTo_len _ _ _, hdrAt_fits HL j h hj, ?_⟩
  show 1 ≤ (hdrAt HL j).ki ∧ (hdrAt HL j).ki ≤ 6
  unfold hdrAt
  split
  · show 1 ≤ 1 + _ % 6 ∧ 1 + _ % 6 ≤ 6; omega
  · exact ⟨by show 1 ≤ 4; omega, by show 4 ≤ 6; omega⟩
end Go.Proofs.Ytnhklomofebfaaa
