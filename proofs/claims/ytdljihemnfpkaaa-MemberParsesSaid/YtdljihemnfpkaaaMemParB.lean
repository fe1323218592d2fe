/- member.Parse of any 256 bytes. -/
import Derived.Test.YtdljihemnfpkaaaMemParA
namespace Go.Proofs.Ytdljihemnfpkaaa
open Go.RowKit Go.Deep

def parKind (D O : List Nat) : Prop := OpenOk D O ∧ (openH D O).ki = 2
instance (D O : List Nat) : Decidable (parKind D O) := by unfold parKind; infer_instance
def parOk (n : Nat) (D O : List Nat) : Prop :=
  parKind D O ∧ 14 + nP D ≤ 256 ∧ okP D = true ∧ (twoP D 3 = 20 ∧ twoP D 5 = 6 ∧ twoP D 7 = 256) ∧ sqP D = (openH D O).ep ∧ setOk n 20 (intsN (chP D)) (atP D 0 : Int) (atP D 1 : Int) (atP D 2 : Int)
instance (n : Nat) (D O : List Nat) : Decidable (parOk n D O) := by unfold parOk; infer_instance
def parCode (n : Nat) (D O : List Nat) : Int := if parKind D O then (if parOk n D O then 0 else 62) else 63
def parSq (n : Nat) (D O : List Nat) : Nat := if parOk n D O then sqP D else 0
def parL (n : Nat) (D O : List Nat) : List Nat := if parOk n D O then chP D else []
def parAt (n : Nat) (D O : List Nat) (j : Nat) : Nat := if parOk n D O then atP D j else 0
theorem chP_len {D : List Nat} (h : 14 + nP D ≤ D.length) : (chP D).length = nP D := by
  unfold chP; rw [List.length_take, List.length_drop]; omega
theorem chP_lt {D : List Nat} (h : ∀ x ∈ D, x < 256) : ∀ x ∈ chP D, x < 256 := fun x hx => h x (List.mem_of_mem_drop (List.mem_of_mem_take hx))
theorem par_no {n : Nat} {D O : List Nat} (h : ¬ parOk n D O) : parSq n D O = 0 ∧ parL n D O = [] ∧ parAt n D O 0 = 0 ∧ parAt n D O 1 = 0 ∧ parAt n D O 2 = 0 := by
  unfold parSq parL parAt
  simp only [if_neg h, and_self]
theorem par_yes {n : Nat} {D O : List Nat} (h : parOk n D O) : parSq n D O = sqP D ∧ parL n D O = chP D ∧ parAt n D O 0 = atP D 0 ∧ parAt n D O 1 = atP D 1 ∧ parAt n D O 2 = atP D 2 := by
  unfold parSq parL parAt
  simp only [if_pos h, and_self]
set_option maxRecDepth 100000 in
set_option maxHeartbeats 1000000 in
theorem memParse_any (n : Nat) (D O : List Nat) (a a2 : Option Addr) (cap c2 : Nat) (w : World) (hn3 : 3 ≤ n) (hn16 : n ≤ 16) (hD : Row w a 256 D) (hna : a = none → cap = 0) (hO : Row w a2 64 O) (hc2 : 64 ≤ c2) (hcm : c2 ≤ maxLen) :
    Calls Try.prog 9 #[.agg #[.int .i64 (n : Int), .int .i64 20, .int .i64 6, .int .i64 256], .slice a 256 cap, .slice a2 64 c2] w (MemParRet w (parSq n D O) (parL n D O) (parAt n D O 0) (parAt n D O 1) (parAt n D O 2) (parCode n D O)) := by
  have hgood : GoodG (n : Int) 20 6 256 := by unfold GoodG; omega
  have hDl : D.length = 256 := hD.1
  have hDb : ∀ x ∈ D, x < 256 := hD.2.1
  have hop : ∀ x : World, Below w.heap.size w x → Calls Try.prog 24 #[.slice a 256 cap, .slice a2 64 c2] x fun e w' => e = .returned (.tuple #[.agg (openH D O).cells, .bool (decide (OpenOk D O))]) ∧ Below x.heap.size x w' := fun x hx =>
    open_any a 256 cap D a2 64 c2 O x (row_keep hD hx (Nat.le_refl _)) (by omega) (row_keep hO hx (Nat.le_refl _)) hc2 hcm
  obtain ⟨H, hH⟩ : ∃ H, H = openH D O := ⟨_, rfl⟩
  obtain ⟨ki, ep, ba, ix, ct, bl, mo⟩ := H
  rw [← hH] at hop
  by_cases ho : OpenOk D O
  case neg =>
    have hk : ¬ parKind D O := fun h => ho h.1
    have hno : ¬ parOk n D O := fun h => hk h.1
    obtain ⟨e1, e2, e3, e4, e5⟩ := par_no hno
    rw [e1, e2, e3, e4, e5, show parCode n D O = 63 by unfold parCode; rw [if_neg hk]]
    rw [decide_eq_false ho] at hop
    exact memPar_closed ki ep ba ix ct bl mo n a a2 cap c2 w (Lib.hid hop)
  rw [decide_eq_true ho] at hop
  by_cases hki : ki = 2
  case neg =>
    have hk : ¬ parKind D O := fun h => hki (by have := h.2; rw [← hH] at this; exact this)
    have hno : ¬ parOk n D O := fun h => hk h.1
    obtain ⟨e1, e2, e3, e4, e5⟩ := par_no hno
    rw [e1, e2, e3, e4, e5, show parCode n D O = 63 by unfold parCode; rw [if_neg hk]]
    exact memPar_kind ki ep ba ix ct bl mo n a a2 cap c2 w hki (Lib.hid hop)
  subst hki
  have hk : parKind D O := ⟨ho, by rw [← hH]⟩
  have hno : ¬ parOk n D O → MemParRet w (parSq n D O) (parL n D O) (parAt n D O 0) (parAt n D O 1) (parAt n D O 2) (parCode n D O) = MemParRet w 0 [] 0 0 0 62 := fun h => by
    obtain ⟨e1, e2, e3, e4, e5⟩ := par_no h
    rw [e1, e2, e3, e4, e5, show parCode n D O = 62 by unfold parCode; rw [if_pos hk, if_neg h]]
  by_cases hl : 14 + nP D ≤ 256
  case neg =>
    rw [hno fun h => hl h.2.1]
    refine memPar_take ep ba ix ct bl mo n a a2 cap c2 w (Lib.hid hop) (Lib.hid fun x hx => ?_)
    exact memTake_out a 256 cap D x (row_keep hD hx (Nat.le_refl _)) hna (by omega) (by omega) (by omega)
  have htk := fun (x : World) (hx : Below w.heap.size w x) => memTake_any a 256 cap D x (row_keep hD hx (Nat.le_refl _)) hna (by omega) (by omega)
  have hch := chP_len (D := D) (by omega)
  have hcl := chP_lt hDb
  by_cases hz : okP D = true
  case neg =>
    rw [hno fun h => hz h.2.2.1]
    refine memPar_take ep ba ix ct bl mo n a a2 cap c2 w (Lib.hid hop) (Lib.hid fun x hx => (htk x hx).mono ?_)
    rintro e w' ⟨cv, h1, h2, h3⟩
    rw [show okP D = false by simpa using hz] at h1
    obtain ⟨va, vn, vc, rfl⟩ := ownI_slice h2
    exact ⟨_, _, _, _, _, _, _, _, _, _, _, h1, h3⟩
  have htk2 : ∀ x : World, Below w.heap.size w x → Calls Try.prog 25 #[.slice a 256 cap] x fun e w' => ∃ cv, e = .returned (.tuple #[.agg #[.int .u32 (sqP D : Int), cv, .int .i64 (atP D 0 : Int), .int .i64 (atP D 1 : Int), .int .i64 (atP D 2 : Int)], .agg #[.int .i64 (nP D : Int), .int .i64 (twoP D 3 : Int), .int .i64 (twoP D 5 : Int), .int .i64 (twoP D 7 : Int)], .bool true]) ∧ OwnI x.heap.size w' cv (intsN (chP D)) ∧ Below x.heap.size x w' := fun x hx => by
    refine (htk x hx).mono fun e w' h => ?_
    obtain ⟨cv, h1, h2, h3⟩ := h
    rw [hz] at h1
    exact ⟨cv, h1, h2, h3⟩
  clear htk
  by_cases hn : nP D = n
  case neg =>
    rw [hno fun h => hn (by have := h.2.2.2.2.2.1; rw [show (intsN (chP D)).length = nP D by unfold intsN; rw [List.length_map, hch]] at this; exact this)]
    exact memPar_geo0 ep ba ix ct bl mo n a a2 cap c2 w (chP D) _ _ _ _ hcl _ _ _ _ hch hn (Lib.hid hop) (Lib.hid htk2)
  rw [hn] at hch htk2
  by_cases h3 : twoP D 3 = 20
  case neg =>
    rw [hno fun h => h3 h.2.2.2.1.1]
    exact memPar_geo1 ep ba ix ct bl mo n a a2 cap c2 w (chP D) _ _ _ _ hcl _ _ _ hch h3 (Lib.hid hop) (Lib.hid htk2)
  rw [h3] at htk2
  by_cases h5 : twoP D 5 = 6
  case neg =>
    rw [hno fun h => h5 h.2.2.2.1.2.1]
    exact memPar_geo2 ep ba ix ct bl mo n a a2 cap c2 w (chP D) _ _ _ _ hcl _ _ hch h5 (Lib.hid hop) (Lib.hid htk2)
  rw [h5] at htk2
  by_cases h7 : twoP D 7 = 256
  case neg =>
    rw [hno fun h => h7 h.2.2.2.1.2.2]
    exact memPar_geo3 ep ba ix ct bl mo n a a2 cap c2 w (chP D) _ _ _ _ hcl _ hch h7 (Lib.hid hop) (Lib.hid htk2)
  rw [h7] at htk2
  by_cases hs : sqP D = ep
  case neg =>
    rw [hno fun h => hs (by have := h.2.2.2.2.1; rw [← hH] at this; exact this)]
    exact memPar_seq ep ba ix ct bl mo n a a2 cap c2 w (chP D) _ _ _ _ hcl hch hs (Lib.hid hop) (Lib.hid htk2)
  have hck : ∀ (r : Int), (r = if setOk n 20 (intsN (chP D)) (atP D 0 : Int) (atP D 1 : Int) (atP D 2 : Int) then 0 else 62) → ∀ (x : World) (va : Option Addr) (vc : Nat), RowI x va n vc (intsN (chP D)) → Calls Try.prog 12 #[.agg #[.int .u32 (sqP D : Int), .slice va n vc, .int .i64 (atP D 0 : Int), .int .i64 (atP D 1 : Int), .int .i64 (atP D 2 : Int)], .agg #[.int .i64 (n : Int), .int .i64 20, .int .i64 6, .int .i64 256]] x fun e w' => e = .returned (.int .i64 r) ∧ Below x.heap.size x w' := fun r hr x va vc hrow =>
    setCheck_any (sqP D) va n vc _ _ _ n 20 6 256 (intsN (chP D)) x hrow hgood (by have : atP D 0 < 256 := getD_lt hDb _; unfold In64; omega) r hr
  rw [← hs] at hop
  by_cases hset : setOk n 20 (intsN (chP D)) (atP D 0 : Int) (atP D 1 : Int) (atP D 2 : Int)
  case neg =>
    rw [hno fun h => hset h.2.2.2.2.2]
    exact memPar_form ba ix ct bl mo n a a2 cap c2 w (chP D) (sqP D) _ _ _ hcl hch (Lib.hid hop) (Lib.hid htk2) (Lib.hid (hck 62 (by rw [if_neg hset])))
  have hok : parOk n D O := ⟨hk, hl, hz, ⟨h3, h5, h7⟩, by rw [← hH]; exact hs, hset⟩
  obtain ⟨e1, e2, e3, e4, e5⟩ := par_yes hok
  rw [e1, e2, e3, e4, e5, show parCode n D O = 0 by unfold parCode; rw [if_pos hk, if_pos hok]]
  exact memPar_ok ba ix ct bl mo n a a2 cap c2 w (chP D) (sqP D) _ _ _ hcl hch (Lib.hid hop) (Lib.hid htk2) (Lib.hid (hck 0 (by rw [if_pos hset])))
end Go.Proofs.Ytdljihemnfpkaaa
