/- gabionref12.Parse of any 256 bytes: it answers as member.Parse does. -/
import Derived.Test.YtdljihemnfpkaaaMemRefPA
import Derived.Test.YtdljihemnfpkaaaMemRefPB
import Derived.Test.YtdljihemnfpkaaaMemRefPC
namespace Go.Proofs.Ytdljihemnfpkaaa
open Go.RowKit Go.Deep

set_option maxRecDepth 100000 in
set_option maxHeartbeats 1000000 in
theorem refMemParse_any (n : Nat) (D O : List Nat) (a a2 : Option Addr) (cap c2 : Nat) (w : World) (hn16 : n ≤ 16) (hD : Row w a 256 D) (hcap : 256 ≤ cap ∧ cap ≤ maxLen) (hO : Row w a2 64 O) (hc2 : 64 ≤ c2) (hcm : c2 ≤ maxLen) :
    Calls Try.prog 16 #[.agg #[.int .i64 (n : Int), .int .i64 20, .int .i64 6, .int .i64 256], .slice a 256 cap, .slice a2 64 c2] w (RefParRet w (parSq n D O) (parL n D O) (parAt n D O 0) (parAt n D O 1) (parAt n D O 2) (parCode n D O)) := by
  obtain ⟨da, off, rfl, _⟩ := hD.2.2 (by omega)
  have hDb : ∀ x ∈ D, x < 256 := hD.2.1
  have hop : ∀ x : World, Below w.heap.size w x → Calls Try.prog 33 #[.slice (some ⟨da, off, none⟩) 256 cap, .slice a2 64 c2] x fun e w' => e = .returned (.tuple #[.agg (openH D O).wide, .bool (decide (OpenOk D O))]) ∧ Below x.heap.size x w' := fun x hx =>
    refOpen_any (some ⟨da, off, none⟩) 256 cap D a2 64 c2 O x (row_keep hD hx (Nat.le_refl _)) (by omega) (fun h => by cases h) (row_keep hO hx (Nat.le_refl _)) hc2 hcm
  obtain ⟨H, hH⟩ : ∃ H, H = openH D O := ⟨_, rfl⟩
  obtain ⟨ki, ep, ba, ix, ct, bl, mo⟩ := H
  rw [← hH] at hop
  by_cases ho : OpenOk D O
  case neg =>
    have hk : ¬ parKind D O := fun h => ho h.1
    have hno : ¬ parOk n D O := fun h => hk h.1
    obtain ⟨e1, e2, e3, e4, e5⟩ := par_no hno
    rw [e1, e2, e3, e4, e5, show parCode n D O = 63 by unfold parCode; rw [if_neg hk]]
    rw [decide_eq_false ho] at hop
    exact refPar_closed ki ep ba ix ct bl mo n _ a2 cap c2 w (Lib.hid hop)
  rw [decide_eq_true ho] at hop
  by_cases hki : ki = 2
  case neg =>
    have hk : ¬ parKind D O := fun h => hki (by have := h.2; rw [← hH] at this; exact this)
    have hno : ¬ parOk n D O := fun h => hk h.1
    obtain ⟨e1, e2, e3, e4, e5⟩ := par_no hno
    rw [e1, e2, e3, e4, e5, show parCode n D O = 63 by unfold parCode; rw [if_neg hk]]
    exact refPar_kind ki ep ba ix ct bl mo n _ a2 cap c2 w hki (Lib.hid hop)
  subst hki
  have hk : parKind D O := ⟨ho, by rw [← hH]⟩
  have hno : ¬ parOk n D O → RefParRet w (parSq n D O) (parL n D O) (parAt n D O 0) (parAt n D O 1) (parAt n D O 2) (parCode n D O) = RefParRet w 0 [] 0 0 0 62 := fun h => by
    obtain ⟨e1, e2, e3, e4, e5⟩ := par_no h
    rw [e1, e2, e3, e4, e5, show parCode n D O = 62 by unfold parCode; rw [if_pos hk, if_neg h]]
  by_cases hl : 14 + nP D ≤ 256
  case neg =>
    rw [hno fun h => hl h.2.1]
    exact refPar_out ep ba ix ct bl mo n a2 cap c2 w da off D hD (nP D) rfl (getD_lt hDb 4) (by omega) (Lib.hid hop)
  have hQ0 : ∀ e w', ¬ (okP D = true ∧ (twoP D 3 = 20 ∧ twoP D 5 = 6 ∧ twoP D 7 = 256) ∧ sqP D = ep ∧ setOk n 20 (intsN (chP D)) (atP D 0 : Int) (atP D 1 : Int) (atP D 2 : Int)) → RefParRet w 0 [] 0 0 0 62 e w' → RefParRet w (parSq n D O) (parL n D O) (parAt n D O 0) (parAt n D O 1) (parAt n D O 2) (parCode n D O) e w' := fun e w' h1 h2 => by
    rw [hno fun h => h1 ⟨h.2.2.1, h.2.2.2.1, by have := h.2.2.2.2.1; rw [← hH] at this; exact this, h.2.2.2.2.2⟩]
    exact h2
  have hQ1 : ∀ e w', (okP D = true ∧ (twoP D 3 = 20 ∧ twoP D 5 = 6 ∧ twoP D 7 = 256) ∧ sqP D = ep ∧ setOk n 20 (intsN (chP D)) (atP D 0 : Int) (atP D 1 : Int) (atP D 2 : Int)) → RefParRet w (sqP D) (chP D) (atP D 0) (atP D 1) (atP D 2) 0 e w' → RefParRet w (parSq n D O) (parL n D O) (parAt n D O 0) (parAt n D O 1) (parAt n D O 2) (parCode n D O) e w' := fun e w' h1 h2 => by
    have hok : parOk n D O := ⟨hk, hl, h1.1, h1.2.1, by rw [← hH]; exact h1.2.2.1, h1.2.2.2⟩
    obtain ⟨e1, e2, e3, e4, e5⟩ := par_yes hok
    rw [e1, e2, e3, e4, e5, show parCode n D O = 0 by unfold parCode; rw [if_pos hk, if_pos hok]]
    exact h2
  by_cases hy : twoP D 3 = 20 ∧ twoP D 5 = 6 ∧ twoP D 7 = 256
  · by_cases hcc : cap = 14 + nP D
    · exact refPar_bodyB ep ba ix ct bl mo n a2 cap c2 w hn16 da off D hD hcap (nP D) rfl hl ⟨hy, hcc⟩ (Lib.hid hop) _ (Lib.hid hQ0) (Lib.hid hQ1)
    · exact refPar_bodyC ep ba ix ct bl mo n a2 cap c2 w hn16 da off D hD hcap (nP D) rfl hl ⟨hy, hcc⟩ (Lib.hid hop) _ (Lib.hid hQ0) (Lib.hid hQ1)
  · exact refPar_bodyA ep ba ix ct bl mo n a2 cap c2 w hn16 da off D hD hcap (nP D) rfl hl hy (Lib.hid hop) _ (Lib.hid hQ0) (Lib.hid hQ1)
end Go.Proofs.Ytdljihemnfpkaaa
