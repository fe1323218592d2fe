/- wear.Dead; a list of segments of the call's own. -/
import Derived.Test.YtjimgbeockfpmaaWearC
import Derived.Maps.AppendAt
import Derived.Laws.AppendOwnNone
import Derived.Deep.RegionHeld
namespace Go.Proofs.Ytjimgbeockfpmaa
open Go.RowKit

/-- A slice of ints of the call's own. -/
def valZ (l : List Int) : List Value := l.map (Value.int .i64)
def OwnZ (B : Nat) (w : World) (v : Value) (l : List Int) : Prop := w.ownsRow B 3 1 v l.length (valZ l)
theorem info_partsW {t : TypeId} {z : Value} {s b : Nat} (h : (Try.prog.info? t).map (fun i => (i.zero, i.size, i.bytes)) = some (some z, s, b)) : ∃ i, Try.prog.info? t = some i ∧ i.zero = some z ∧ i.size = s ∧ i.bytes = b := by
  cases hi : Try.prog.info? t with
  | none => rw [hi] at h; cases h
  | some i =>
    rw [hi] at h
    simp only [Option.map_some, Option.some.injEq, Prod.mk.injEq] at h
    exact ⟨i, rfl, h.1, h.2.1, h.2.2⟩
theorem info_intW : (Try.prog.info? 3).map (fun i => (i.zero, i.size, i.bytes)) = some (some (.int .i64 0), 1, 8) := by kernel_rfl
theorem wpList_appZ {w : World} {ops : Array Oper} {rest : List Oper} {o : Oper} {a : Act} {Q : Exit → Act → World → Prop} (hgd : o.guard = none) (s x : Operand)
    (ho : o.op = .call { callee := .builtin .append, args := #[s, x], argTypes := #[29, 29] })
    (B : Nat) (sv : Value) (xs : List Int) (hs : a.eval s = sv) (hown : OwnZ B w sv xs) (ad : Addr) (y : Int) (c : Nat) (hx : a.eval x = .slice (some ad) 1 c)
    (hc : w.cell? ad = some (.int .i64 y)) (hB : B ≤ w.heap.size) (hlen : xs.length ≤ 1000000)
    (h : ∀ v' w', OwnZ B w' v' (xs ++ [y]) → Below B w w' → wpList Try.prog ops Q rest (a.put o.dst v') w') : wpList Try.prog ops Q (o :: rest) a w := by
  obtain ⟨i0, hi, hz0, hz1, hz2⟩ := info_partsW info_intW
  refine wpList_append_own_at w hgd s x 29 ho B 3 i0 (.int .i64 0) 1 8 Try.underlying29 hi hz0 hz1 hz2 rfl (by decide) sv _ _ hs hown ad 1 c (valZ [y]) hx (by simp [valZ]) ?_ ?_ (by unfold maxLen; omega) (by omega) hB ?_
  · intro j u hj
    have hj0 : j = 0 := by
      rcases Nat.eq_zero_or_pos j with h | h
      · exact h
      · rw [List.getElem?_eq_none (by simp [valZ]; omega)] at hj; cases hj
    subst hj0
    simp [valZ] at hj
    subst hj
    simpa [Addr.add] using hc
  · intro u hu
    simp [valZ] at hu
    subst hu; rfl
  · intro v' w' h2 h3 _ _
    refine h v' w' ?_ ((Below.refl B w).grown h3 hB (fun k hk => (hown.lt k hk).1))
    unfold OwnZ
    have e : valZ (xs ++ [y]) = valZ xs ++ valZ [y] := by simp [valZ]
    rw [e, List.length_append]
    exact h2
theorem ownZ_nil (B : Nat) (w : World) : OwnZ B w (.slice none 0 0) [] := World.ownsRow_nil w B _ 1
theorem ownZ_below {B : Nat} {w w' : World} {sv : Value} {L : List Int} (h : OwnZ B w sv L) (hb : Below w.heap.size w w') : OwnZ B w' sv L :=
  h.kept (row := none) ⟨hb.os, hb.tape, hb.output, hb.size, fun b hb' _ => hb.block b hb'⟩ (by cases hv : sv.ownBlock <;> simp)
/-- What a slice of the call's own reads as. -/
theorem ownZ_row {B : Nat} {w : World} {sv : Value} {L : List Int} (h : OwnZ B w sv L) :
    ∃ a c, sv = .slice a L.length c ∧ L.length ≤ c ∧ c ≤ maxLen ∧ (0 < L.length → ∃ g, a = some ⟨g, 0, none⟩ ∧ ∀ i, i < L.length → w.cell? ⟨g, i, none⟩ = some (.int .i64 (L.getD i 0))) := by
  have h' := h
  rcases h.2 with ⟨e, h0⟩ | ⟨g, c, cur, e, hg, hbk, hkc, hcm, hcs, hct⟩
  · exact ⟨none, 0, by rw [e, h0], by omega, by unfold maxLen; omega, fun h1 => by omega⟩
  · refine ⟨_, c, e, hkc, hcm, fun h1 => ⟨g, rfl, fun i hi => ?_⟩⟩
    subst e
    rw [h'.cellAt i (by omega)]
    simp [valZ, List.getD, hi]
/-- The closed ones of the first k in which no page counts. -/
def deadL (G : List SegV) : Nat → List Int
  | 0 => []
  | k + 1 => if (G.getD k SegV.nil).k = 2 ∧ (G.getD k SegV.nil).l = 0 then deadL G k ++ [(k : Int)] else deadL G k
theorem deadL_len (G : List SegV) : ∀ k, (deadL G k).length ≤ k
  | 0 => Nat.le_refl _
  | k + 1 => by
    have := deadL_len G k
    unfold deadL
    split
    · simp; omega
    · omega
set_option maxHeartbeats 1000000 in
theorem dead_any (a : Option Addr) (len cap : Nat) (G : List SegV) (w : World) (hr : RowG w a len G) (hlc : len ≤ cap) (_hcm : cap ≤ maxLen) (hl : len ≤ 1000) :
    Calls Try.prog 12 #[.slice a len cap] w fun e w' => ∃ v, e = .returned v ∧ OwnZ w.heap.size w' v (deadL G len) ∧ Below w.heap.size w w' := by
  have HR := Lib.hid hr
  clear hr
  go_enter Try.func12, Try.ntmps12
  go_wp2_with fail
  go_loopw [8, 3] (fun i t wr => ∃ (k : Nat), k ≤ len ∧ i = .int .i64 (k : Int) ∧ OwnZ w.heap.size wr t (deadL G k) ∧ Below w.heap.size w wr) (fun i _ _ => len - (intOf i).toNat)
  case atStart => exact ⟨0, Nat.zero_le _, rfl, ownZ_nil _ _, Below.refl _ _⟩
  case round =>
    obtain ⟨k, hk, rfl, hO, hB⟩ := hrel
    have HO := Lib.hid hO
    have HB := Lib.hid hB
    clear hO hB
    by_cases hlt : k < len
    · have t1 : decide (k < len) = true := by simpa using hlt
      have hr1 := HR.out.step HB.out
      obtain ⟨b, off, rfl, hbs, hc⟩ := rowG_at hr1 hlt
      obtain ⟨c0, c1, c2⟩ := hc k hlt
      clear hr1 hc
      obtain ⟨g, hg⟩ : ∃ g, g = G.getD k SegV.nil := ⟨_, rfl⟩
      rw [← hg] at c0 c1 c2
      have HG := Lib.hid hg
      clear hg
      have hk0 : (0 : Int) ≤ (k : Int) := by omega
      by_cases hK : g.k = 2
      · have t2 : (g.k == 2) = true := by simpa using hK
        by_cases hL : g.l = 0
        · have t3 : (g.l == 0) = true := by simpa using hL
          have e1 : deadL G (k + 1) = deadL G k ++ [(k : Int)] := by
            show (if _ then _ else _) = _
            rw [← HG.out, if_pos ⟨hK, hL⟩]
          have HE := Lib.hid e1
          clear hK hL e1
          have hlen := deadL_len G k
          go_wp2_with (at_builtin; refine wpList_appZ rfl _ _ rfl w.heap.size _ (deadL G k) rfl (ownZ_below HO.out (wbel_alloc (wbel_alloc (Below.refl _ _) _) _)) ⟨wr.heap.size + 1, 0, none⟩ (k : Int) 1 rfl (cell_new1_at (by simp)) (by have := HB.out.size; simp; omega) (by omega) ?_)
          intro v' w2 own hb2
          rw [← HE.out] at own
          have hbw : Below w.heap.size w w2 := (wbel_alloc (wbel_alloc HB.out (.cells #[.int .i64 g.k, .int .i64 g.l, .int .u32 (g.e : Int)] 33)) (.cells #[.int .i64 (k : Int)] 3)).trans hb2
          have HN := Lib.hid (And.intro own hbw)
          clear own hb2 hbw c0 c1 c2
          go_wp2_with fail
          go_roundw
          case rel => exact ⟨k + 1, by omega, by go_num, HN.out.1, HN.out.2⟩
          case measure => simp [intOf]; omega
        · have t3 : (g.l == 0) = false := by simpa using hL
          have e1 : deadL G (k + 1) = deadL G k := by
            show (if _ then _ else _) = _
            rw [← HG.out, if_neg (fun q => hL q.2)]
          have HE := Lib.hid e1
          clear hK hL e1
          go_wp2_with fail
          go_roundw
          case rel => exact ⟨k + 1, by omega, by go_num, by rw [HE.out]; exact ownZ_below HO.out (wbel_alloc (Below.refl _ _) _), wbel_alloc HB.out _⟩
          case measure => simp [intOf]; omega
      · have t2 : (g.k == 2) = false := by simpa using hK
        have e1 : deadL G (k + 1) = deadL G k := by
          show (if _ then _ else _) = _
          rw [← HG.out, if_neg (fun q => hK q.1)]
        have HE := Lib.hid e1
        clear hK e1
        go_wp2_with fail
        go_roundw
        case rel => exact ⟨k + 1, by omega, by go_num, by rw [HE.out]; exact ownZ_below HO.out (wbel_alloc (Below.refl _ _) _), wbel_alloc HB.out _⟩
        case measure => simp [intOf]; omega
    · obtain rfl : k = len := by omega
      have t1 : decide (k < k) = false := by simp
      go_wp2
      go_ret
      exact ⟨_, rfl, HO.out, HB.out⟩
end Go.Proofs.Ytjimgbeockfpmaa
