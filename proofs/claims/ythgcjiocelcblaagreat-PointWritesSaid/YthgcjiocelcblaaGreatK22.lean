/- A page is what is missing of the others and their parity: plain. -/
import Derived.Test.YthgcjiocelcblaaGreatK18
namespace Go.Proofs.YthgcjiocelcblaaGreat
open Go.RowKit

theorem xor_back {R S : List (List Nat)} {x : List Nat} {m : Nat} (hR : ∀ y ∈ R, y.length ≤ m) (hS : ∀ y ∈ S, y.length ≤ m) (hxS : x ∈ S) (hx : x.length = m) (h : ∀ j, xatL j S = xatL j R ^^^ x.getD j 0) : xorL (R ++ [xorL S]) = x := by
  apply list_ext_getD
  · rw [xorL_len, lgL_append, lgL, lgL, xorL_len, Nat.max_zero, hx]
    have h1 := lgL_le hR
    have h2 := lgL_le hS
    have h3 := lgL_mem hxS
    omega
  · intro j
    rw [xorL_getD, xatL_append, xatL, xatL, xorL_getD, h j, Nat.xor_zero, ← Nat.xor_assoc, Nat.xor_self, Nat.zero_xor]
theorem xat_reverse (j : Nat) (A : List (List Nat)) : xatL j A.reverse = xatL j A := xatL_reverse j A
/-- All but number k, the last first. -/
def restOf (G : List PG) (k : Nat) : List PG := (G.take k ++ G.drop (k + 1)).reverse
theorem split_at (G : List PG) (k : Nat) (hk : k < G.length) : G = G.take k ++ (G.getD k PG.nil :: G.drop (k + 1)) := by
  have h : G.getD k PG.nil = G[k] := by simp [List.getD, hk]
  rw [h, ← List.drop_eq_getElem_cons hk, List.take_append_drop]
theorem rest_mem {G : List PG} {k : Nat} {g : PG} (h : g ∈ restOf G k) : g ∈ G := by
  unfold restOf at h
  rw [List.mem_reverse, List.mem_append] at h
  rcases h with h | h
  · exact List.mem_of_mem_take h
  · exact List.mem_of_mem_drop h
theorem rest_len (G : List PG) (k : Nat) (hk : k < G.length) : (restOf G k).length = G.length - 1 := by
  unfold restOf
  simp; omega
theorem xat_rest (f : PG → List Nat) (G : List PG) (k j : Nat) (hk : k < G.length) : xatL j (G.map f) = xatL j ((restOf G k).map f) ^^^ (f (G.getD k PG.nil)).getD j 0 := by
  have e := split_at G k hk
  generalize G.getD k PG.nil = g at *
  unfold restOf
  rw [List.map_reverse, xat_reverse, List.map_append, xatL_append]
  conv => lhs; rw [e]
  rw [List.map_append, xatL_append, List.map_cons, xatL, Nat.xor_assoc]
  congr 1
  exact Nat.xor_comm _ _
/-- Pages that are sealed, with nothing more beside them, all of one size. -/
structure Sealed (G : List PG) (size : Nat) : Prop where
  len : ∀ g ∈ G, g.d.l.length = size
  sealed : ∀ g ∈ G, ∃ h : RH, h.Fits ∧ (1 ≤ h.ki ∧ h.ki ≤ 6) ∧ g.o.l = sealB h g.d.l []
theorem tailB_nil : tailB [] = List.replicate 32 0 := by decide
theorem seal_halves (h : RH) (d : List Nat) : (sealB h d []).take 32 ++ List.replicate 32 0 = sealB h d [] := by
  rw [← tailB_nil, ← drop_seal h d []]
  exact List.take_append_drop 32 _
theorem hs_len {G : List PG} {size : Nat} (hG : Sealed G size) : ∀ y ∈ hsOf G, y.length = 32 := by
  intro y hy
  unfold hsOf at hy
  rw [List.mem_map] at hy
  obtain ⟨g, hg, rfl⟩ := hy
  obtain ⟨h, _, _, e⟩ := hG.sealed g hg
  rw [e, List.length_take, sealB_len]; rfl
theorem ds_len {G : List PG} {size : Nat} (hG : Sealed G size) : ∀ y ∈ dsOf G, y.length = size := by
  intro y hy
  unfold dsOf at hy
  rw [List.mem_map] at hy
  obtain ⟨g, hg, rfl⟩ := hy
  exact hG.len g hg
theorem getD_mem' (G : List PG) (k : Nat) (hk : k < G.length) : G.getD k PG.nil ∈ G := by simp [List.getD, hk]
theorem sealed_rest {G : List PG} {size : Nat} (hG : Sealed G size) (k : Nat) : Sealed (restOf G k) size := ⟨fun g hg => hG.len g (rest_mem hg), fun g hg => hG.sealed g (rest_mem hg)⟩
theorem len_hs {G : List PG} {size : Nat} (hG : Sealed G size) (h0 : 0 < G.length) : (xorL (hsOf G)).length = 32 := by
  rw [xorL_len]
  have h1 := lgL_le (a := hsOf G) (m := 32) fun x hx => by rw [hs_len hG x hx]; exact Nat.le_refl _
  have h2 : (G.getD 0 PG.nil).o.l.take 32 ∈ hsOf G := by
    unfold hsOf; rw [List.mem_map]; exact ⟨_, getD_mem' G 0 h0, rfl⟩
  have h3 := lgL_mem h2
  rw [hs_len hG _ h2] at h3
  omega
section
variable {G : List PG} {size : Nat} (hG : Sealed G size) {W : RH} (hW : W.Fits) (h5 : W.ki = 5) {k : Nat} (hk : k < G.length) {w : PG} (hd : w.d.l = xorL (dsOf G)) (ho : w.o.l = sealB W (xorL (dsOf G)) (xorL (hsOf G)))
include hG hk hd
theorem back_d : outD w (restOf G k) = (G.getD k PG.nil).d.l := by
  unfold outD
  rw [hd]
  exact xor_back (m := size) (fun y hy => by rw [ds_len (sealed_rest hG k) y hy]; exact Nat.le_refl _) (fun y hy => by rw [ds_len hG y hy]; exact Nat.le_refl _)
    (by unfold dsOf; rw [List.mem_map]; exact ⟨_, getD_mem' G k hk, rfl⟩) (hG.len _ (getD_mem' G k hk)) (fun j => xat_rest (fun g => g.d.l) G k j hk)
omit hd
include ho
theorem back_o : outO w (restOf G k) = (G.getD k PG.nil).o.l := by
  obtain ⟨h, _, _, e⟩ := hG.sealed _ (getD_mem' G k hk)
  unfold outO
  have e1 : w.o.l.drop 32 = xorL (hsOf G) := by
    rw [ho, drop_seal, tailB_id (len_hs hG (by omega))]
  rw [e1]
  have e2 : xorL (hsOf (restOf G k) ++ [xorL (hsOf G)]) = (G.getD k PG.nil).o.l.take 32 :=
    xor_back (m := 32) (fun y hy => by rw [hs_len (sealed_rest hG k) y hy]; exact Nat.le_refl _) (fun y hy => by rw [hs_len hG y hy]; exact Nat.le_refl _)
      (by unfold hsOf; rw [List.mem_map]; exact ⟨_, getD_mem' G k hk, rfl⟩) (by rw [e, List.length_take, sealB_len]; rfl) (fun j => xat_rest (fun g => g.o.l.take 32) G k j hk)
  rw [e2, e]
  exact seal_halves h _
include hd
theorem back_ok : OpenOk (outD w (restOf G k)) (outO w (restOf G k)) := by
  rw [back_d hG hk hd, back_o hG hk ho]
  obtain ⟨h, hf, hki, e⟩ := hG.sealed _ (getD_mem' G k hk)
  rw [e]
  exact (openOk_seal hf _ _).2 hki
omit hG hk
include hW h5
theorem with_ok : OpenOk w.d.l w.o.l ∧ (takeH w.o.l).ki = 5 := by
  rw [hd, ho]
  exact ⟨(openOk_seal hW _ _).2 (by omega), by rw [takeH_seal hW]; exact h5⟩
end

end Go.Proofs.YthgcjiocelcblaaGreat
