/- gabionref03.Letters. -/
import Derived.Test.YtdpkinppkhnjkaaDoorNLetters
namespace Go.Proofs.YtdpkinppkhnjkaaDoor
open Go.RowKit

theorem decodeN_fits (n b0 b1 b2 b3 : Nat) (hn : 1 ≤ n) : (Lib.decodeN n b0 b1 b2 b3).2 ≤ n := by
  unfold Lib.decodeN
  repeat' split
  all_goals (simp only; omega)
theorem decode_fits (s : ByteArray) (p : Nat) (hp : p < s.size) : p + (Utf8.decode s p).2 ≤ s.size := by
  have h := decodeN_fits (s.size - p) (s.get! p).toNat (s.get! (p + 1)).toNat (s.get! (p + 2)).toNat (s.get! (p + 3)).toNat (by omega)
  rw [← Lib.decode_at] at h
  omega
/-- Two rows don't share a block. -/
def NoShare (u v : Value) : Prop := ∀ k, u.ownBlock = some k → v.ownBlock ≠ some k
theorem noShare_symm {u v : Value} (h : NoShare u v) : NoShare v u := fun k h1 h2 => h k h2 h1
theorem noShare_ne {u v : Value} (h : NoShare u v) : u.ownBlock = none ∨ u.ownBlock ≠ v.ownBlock := by
  cases hu : u.ownBlock with
  | none => exact .inl rfl
  | some k => exact .inr fun e => h k hu e.symm
theorem noShare_grown {u v v' : Value} {w : World} (h : NoShare u v) (hu : ∀ k, u.ownBlock = some k → k < w.heap.size) (hw : v'.ownBlock = v.ownBlock ∨ v'.ownBlock = some w.heap.size) : NoShare u v' := by
  intro k hk
  rcases hw with e | e
  · rw [e]; exact h k hk
  · rw [e]; intro h2; cases h2; exact Nat.lt_irrefl _ (hu _ hk)
theorem ints_lt {B : Nat} {w : World} {sv : Value} {l : List Nat} (h : IntsOwn B w sv l) : ∀ k, sv.ownBlock = some k → k < w.heap.size := fun k hk => (World.ownsRow.lt h k hk).2
/-- What an append of one number leaves. -/
structure IntApd (B : Nat) (w : World) (sv : Value) (l : List Nat) (sv' : Value) (w' : World) : Prop where
  own : IntsOwn B w' sv' l
  grown : w.grownBy w' sv.ownBlock
  where_ : sv'.ownBlock = sv.ownBlock ∨ sv'.ownBlock = some w.heap.size
  below : Below B w w'
/-- append(l, x): the one number is laid in a block of its own first. -/
theorem wpList_int {w : World} {ops : Array Oper} {rest : List Oper} {o : Oper} {a : Act} {Q : Exit → Act → World → Prop} (hgd : o.guard = none) (s x : Operand)
    (ho : o.op = .call { callee := .builtin .append, args := #[s, x], argTypes := #[63, 63] })
    (B : Nat) (sv : Value) (l : List Nat) (y : Nat) (hs : a.eval s = sv) (hown : IntsOwn B w sv l) (hx : a.eval x = .slice (some ⟨w.heap.size, 0, none⟩) 1 1) (hB : B ≤ w.heap.size) (hlen : l.length ≤ 100000)
    (h : ∀ v' w', IntApd B (w.alloc (.cells #[intV y] 3)) sv (l ++ [y]) v' w' → wpList Tryd.prog ops Q rest (a.put o.dst v') w') : wpList Tryd.prog ops Q (o :: rest) a (w.alloc (.cells #[intV y] 3)) := by
  obtain ⟨i0, hi, hz0, hz1, hz2⟩ := info_parts info_int
  refine wpList_append_own_at _ hgd s x 63 ho B 3 i0 (.int .i64 0) 1 8 Tryd.underlying63 hi hz0 hz1 hz2 rfl (by decide) sv _ _ hs (World.ownsRow.alloc hown _) ⟨w.heap.size, 0, none⟩ 1 1 [intV y] hx rfl (news_one w _ _) (fun u hu => by simp at hu; subst hu; rfl) (by unfold maxLen; omega) (by omega) (by simp; omega) ?_
  intro v' w' h2 h3 _ h5
  refine h v' w' ⟨?_, h3, h5, (Below.refl B _).grown h3 (by simp; omega) (fun k hk => (World.ownsRow.lt hown k hk).1)⟩
  unfold IntsOwn
  rw [List.map_append, List.length_append]
  exact h2

theorem owns_alloc {B : Nat} {w : World} {sv : Value} {l : List Nat} (h : IntsOwn B w sv l) (o : Obj) : IntsOwn B (w.alloc o) sv l := World.ownsRow.alloc h o
theorem ints_grown {B : Nat} {w w' : World} {sv : Value} {l : List Nat} {row : Option Nat} (h : IntsOwn B w sv l) (hg : w.grownBy w' row) (hne : sv.ownBlock = none ∨ sv.ownBlock ≠ row) : IntsOwn B w' sv l := owns_grown h hg hne
theorem ints_below {B : Nat} {w w' : World} {sv : Value} {l : List Nat} (h : IntsOwn B w sv l) (hb : Below w.heap.size w w') : IntsOwn B w' sv l := owns_below h hb
/-- What gabionref03.Letters answers. -/
def RefLettersRet (w : World) (s : ByteArray) (e : Ending) (w' : World) : Prop := ∃ lv av, e = .returned (.tuple #[lv, av, .bool (allOk s)]) ∧ IntsOwn w.heap.size w' lv (runesOf s) ∧ IntsOwn w.heap.size w' av (placesOf s) ∧ Below w.heap.size w w'
set_option maxRecDepth 100000 in
set_option maxHeartbeats 1000000 in
theorem refLetters_any (s : ByteArray) (w : World) (hs : s.size ≤ 1000) :
    Calls Tryd.prog 27 #[.string s] w (RefLettersRet w s) := by
  obtain ⟨ans, hans⟩ : ∃ ans, lets s = ans := ⟨_, rfl⟩
  have HANS := Lib.hid hans
  unfold lets at hans
  have HA0 := Lib.hid hans
  have hs2 : (s.size : Int) ≤ 1000 := by omega
  have HSTEP := Lib.hid (fun p w hp => step_any s p w hp (by omega))
  clear hans
  go_enter Tryd.func27, Tryd.ntmps27
  go_wp2_with fail
  go_loopw [5, 6, 7, 8] (fun lv av bv i wr => ∃ (pos f : Nat) (acc : List (Nat × Nat × Nat)), i = .int .i64 (pos : Int) ∧ bv = .bool (acc.all okLetter) ∧ IntsOwn w.heap.size wr lv (acc.map (·.2.1)) ∧ IntsOwn w.heap.size wr av (acc.map (·.1)) ∧ NoShare lv av ∧ Below w.heap.size w wr ∧ Hid (acc ++ scan s f pos = ans) ∧ s.size ≤ pos + f ∧ acc.length ≤ pos ∧ pos ≤ s.size) (fun _ _ _ i _ => s.size - (intOf i).toNat)
  case atStart => exact ⟨0, s.size, [], rfl, rfl, ints_nil _ _, ints_nil _ _, (fun k h => by cases h), Below.refl _ _, Lib.hid HA0.out, by omega, by simp, by omega⟩
  case round =>
    obtain ⟨pos, f, acc, rfl, rfl, hown, howa, hns, hbw, HS, hb, hlen, hp4⟩ := hrel
    obtain ⟨la, lc, hlv⟩ := owns_shape hown
    subst hlv
    obtain ⟨aa, ac, hav⟩ := owns_shape howa
    subst hav
    simp only [List.length_map] at hown howa hns ⊢
    by_cases hp : pos < s.size
    · have hwd := Lib.decode_width_pos s pos hp
      have hw4 := decode_fits s pos hp
      obtain ⟨f, rfl⟩ : ∃ f', f = f' + 1 := ⟨f - 1, by omega⟩
      have hst := HS.out
      rw [scan_cons hp] at hst
      have H1 := HSTEP.out pos wr hp
      unfold stepOf at H1
      generalize Utf8.decode s pos = dc at *
      obtain ⟨c, k⟩ := dc
      simp only at hst hwd hw4 H1
      have hpi : (pos : Int) < (s.size : Int) := by omega
      have H := Lib.hid H1
      have HST := Lib.hid hst
      have HBW := Lib.hid hbw
      have HOWN := Lib.hid hown
      have HOWA := Lib.hid howa
      have HNS := Lib.hid hns
      obtain ⟨ok, hok⟩ : ∃ ok, decide (¬ (c = 65533 ∧ k = 1)) = ok := ⟨_, rfl⟩
      obtain ⟨al, hal⟩ : ∃ al, acc.all okLetter = al := ⟨_, rfl⟩
      have HOK := Lib.hid hok
      have HAL := Lib.hid hal
      rw [hok] at H1
      rw [hal]
      have H := Lib.hid H1
      clear hst hbw hown howa hns H1 hok hal
      go_wp2_with fail
      refine H.out.mono ?_
      rintro e w1 ⟨rfl, hb1⟩
      have hown1 := ints_below HOWN.out hb1
      have howa1 := ints_below HOWA.out hb1
      have hB1 := nbel_trans HBW.out hb1
      have HB1 := Lib.hid hB1
      clear hb1
      have hsz := hB1.size
      clear hB1
      go_wp2_with (at_builtin; refine wpList_int rfl _ _ rfl w.heap.size (.slice la acc.length lc) (acc.map (·.2.1)) c rfl hown1 rfl hsz (by simp; omega) ?_)
      intro v' w2 hA
      have howa2 := ints_grown (owns_alloc howa1 (.cells #[intV c] 3)) hA.grown (noShare_ne (noShare_symm HNS.out))
      have hns2 := noShare_symm (noShare_grown (noShare_symm HNS.out) (fun k hk => Nat.lt_trans (ints_lt howa1 k hk) (by simp)) hA.where_)
      have HA := Lib.hid hA
      have hb2 : Below w.heap.size w w2 := (HB1.out.alloc hsz _).trans hA.below
      have hsz2 := hb2.size
      have HB2 := Lib.hid hb2
      clear hb2 hA hown1 howa1
      go_wp2_with (at_builtin; refine wpList_int rfl _ _ rfl w.heap.size (.slice aa acc.length ac) (acc.map (·.1)) pos rfl howa2 rfl hsz2 (by simp; omega) ?_)
      intro u' w3 hC
      have hown3 := ints_grown (owns_alloc HA.out.own (.cells #[intV pos] 3)) hC.grown (noShare_ne hns2)
      have hns3 := noShare_grown hns2 (fun k hk => Nat.lt_trans (ints_lt HA.out.own k hk) (by simp)) hC.where_
      have hb3 : Below w.heap.size w w3 := (HB2.out.alloc hsz2 _).trans hC.below
      have HC := Lib.hid hC
      have HB3 := Lib.hid hb3
      have HOWN3 := Lib.hid hown3
      have HNS3 := Lib.hid hns3
      clear hC hb3 hown3 hns3 hns2 howa2
      have hall : (acc ++ [(pos, c, k)]).all okLetter = (al && ok) := by
        rw [List.all_append, HAL.out, List.all_cons, List.all_nil, Bool.and_true]
        congr 1
      have HALL := Lib.hid hall
      clear hall
      cases al
      all_goals
        go_wp2_with fail
        refine ⟨⟨pos + k, f, acc ++ [(pos, c, k)], by go_num, by rw [HALL.out]; simp, by simpa using HOWN3.out, by simpa using HC.out.own, HNS3.out, HB3.out, by have := HST.out; rw [← this, List.append_assoc]; exact Lib.hid rfl, by omega, by simp; omega, by omega⟩, by simp [intOf]; omega⟩
    · have hst := HS.out
      rw [scan_end s f pos hp, List.append_nil] at hst
      have HST := Lib.hid (hst.trans HANS.out.symm)
      have HOWN := Lib.hid hown
      have HOWA := Lib.hid howa
      have HBW := Lib.hid hbw
      obtain ⟨al, hal⟩ : ∃ al, acc.all okLetter = al := ⟨_, rfl⟩
      have HAL := Lib.hid hal
      rw [hal]
      have hpi : ¬ (pos : Int) < (s.size : Int) := by omega
      clear hst hown howa hbw hns hal
      go_wp2_with fail
      go_ret3
      exact ⟨_, _, by unfold allOk; rw [← HST.out, HAL.out]; rfl, by unfold runesOf; rw [← HST.out]; exact HOWN.out, by unfold placesOf; rw [← HST.out]; exact HOWA.out, HBW.out⟩
end Go.Proofs.YtdpkinppkhnjkaaDoor
