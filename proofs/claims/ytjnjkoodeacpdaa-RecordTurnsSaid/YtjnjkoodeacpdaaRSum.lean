/- What is sealed, with a byte, or bits in a row, that are others. -/
import Derived.Test.YtjnjkoodeacpdaaRHdr
import Derived.Test.YtjnjkoodeacpdaaTurn
namespace Go.Proofs.Ytjnjkoodeacpdaa
open Go.RowKit

theorem of_set {l : List Nat} (h : ∀ x ∈ l, x < 256) (i c : Nat) (hi : i < l.length) (hc : c < 256) (hne : c ≠ l.getD i 0) : Crc.of (l.set i c) ≠ Crc.of l := by
  have hx := getD_lt h i
  have hy : l.getD i 0 ^^^ c < 256 := Nat.xor_lt_two_pow (n := 8) hx hc
  have e : l.getD i 0 ^^^ (l.getD i 0 ^^^ c) = c := by rw [← Nat.xor_assoc, Nat.xor_self, Nat.zero_xor]
  have h0 : l.getD i 0 ^^^ c ≠ 0 := fun h0 => hne (by rw [h0, Nat.xor_zero] at e; exact e.symm)
  have hv := Crc.val_set l i _ hi h hy
  rw [e] at hv
  exact Crc.turns l (l.set i c) (by simp) h (Crc.set_lt l i c h hc) (8 * i) _ hv (by omega) h0 (by omega)
theorem val_append_xor (A B : List Nat) (hA : ∀ x ∈ A, x < 256) : Crc.val (A ++ B) = Crc.val A ^^^ (2 ^ (8 * A.length) * Crc.val B) := by
  induction A with
  | nil => simp [Crc.val]
  | cons x A ih =>
    have hx := hA x (by simp)
    have h2 : 2 ^ (8 * (x :: A).length) = 256 * 2 ^ (8 * A.length) := by
      rw [List.length_cons, Nat.mul_add, Nat.pow_add]; omega
    rw [List.cons_append, Crc.val_cons_xor x _ hx, ih (fun y hy => hA y (by simp [hy])), Crc.val_cons_xor x A hx, h2, Nat.xor_assoc]
    congr 1
    have := Crc.mul_xor 8 (Crc.val A) (2 ^ (8 * A.length) * Crc.val B)
    rw [show (2 : Nat) ^ 8 = 256 from rfl] at this
    rw [this, Nat.mul_assoc]
theorem of_mid {A d d' t : List Nat} (hl : d.length = d'.length) (hA : ∀ x ∈ A, x < 256) (hd : ∀ x ∈ d, x < 256) (hd' : ∀ x ∈ d', x < 256) (ht : ∀ x ∈ t, x < 256) (from_ bits : Nat) (hv : Crc.val d' = Crc.val d ^^^ (2 ^ from_ * bits)) (hb : bits < 4294967296) (h0 : bits ≠ 0) (hf : from_ ≤ 8 * d.length) :
    Crc.of (A ++ d' ++ t) ≠ Crc.of (A ++ d ++ t) := by
  have hall : ∀ {e : List Nat}, (∀ x ∈ e, x < 256) → ∀ x ∈ A ++ e ++ t, x < 256 := fun he x hx => by
    simp only [List.mem_append] at hx
    rcases hx with (hx | hx) | hx
    · exact hA x hx
    · exact he x hx
    · exact ht x hx
  refine Crc.turns (A ++ d ++ t) (A ++ d' ++ t) (by simp; omega) (hall hd) (hall hd') (8 * A.length + from_) bits ?_ hb h0 (by simp; omega)
  rw [List.append_assoc, List.append_assoc, val_append_xor A _ hA, val_append_xor A _ hA, val_append_xor d' t hd', val_append_xor d t hd, hv, ← hl]
  have e : ∀ a b c : Nat, (a ^^^ b) ^^^ c = (a ^^^ c) ^^^ b := fun a b c => by rw [Nat.xor_assoc, Nat.xor_comm b c, ← Nat.xor_assoc]
  rw [e (Crc.val d), Crc.mul_xor, ← Nat.xor_assoc, Nat.pow_add, Nat.mul_assoc]
/-- The sum that stands beside a page. -/
def sumAt (o : List Nat) : Nat := leVal ((o.drop 24).take 4)
theorem seal_split (h : RH) (d b : List Nat) : sealB h d b = headB h ++ (Crc.les 4 (sumB h d b) ++ (Crc.les 4 0 ++ tailB b)) := by
  unfold sealB
  simp [List.append_assoc]
theorem sumAt_seal (h : RH) (d b : List Nat) : sumAt (sealB h d b) = sumB h d b := by
  unfold sumAt
  rw [seal_split, List.drop_append_of_le_length (by rw [headB_len]; omega), List.drop_of_length_le (by rw [headB_len]; omega), List.nil_append, List.take_append_of_le_length (by rw [Crc.les_len]; omega), List.take_of_length_le (by rw [Crc.les_len]; omega)]
  have := Crc.of_lt (headB h ++ d ++ tailB b)
  exact leVal_les4 this
theorem take_seal (h : RH) (d b : List Nat) : (sealB h d b).take 24 = headB h := by
  rw [seal_split, List.take_append_of_le_length (by rw [headB_len]; omega), List.take_of_length_le (by rw [headB_len]; omega)]
theorem takeH_take (o : List Nat) : takeH (o.take 24) = takeH o := by
  unfold takeH
  simp [List.drop_take, List.take_take]
theorem takeH_set {o : List Nat} {k c : Nat} (hk : 24 ≤ k) : takeH (o.set k c) = takeH o := by
  rw [← takeH_take (o.set k c), ← takeH_take o, List.take_set_of_le hk]
theorem sumAt_set {o : List Nat} {k c : Nat} (hk : k < 24 ∨ 28 ≤ k) : sumAt (o.set k c) = sumAt o := by
  unfold sumAt
  congr 1
  rcases hk with hk | hk
  · rw [List.drop_set_of_lt hk]
  · rw [List.drop_set, if_neg (by omega), List.take_set_of_le (by omega)]
/-- With another byte beside it nothing is sealed. -/
theorem not_open_set {h : RH} (hf : h.Fits) {d b : List Nat} (hd : ∀ x ∈ d, x < 256) (hb : ∀ x ∈ b, x < 256) (k c : Nat) (hk : k < 64) (hc : c < 256) (hne : c ≠ (sealB h d b).getD k 0) : ¬ OpenOk d ((sealB h d b).set k c) := by
  rintro ⟨_, _, _, he⟩
  have hlen := sealB_len h d b
  have hbytes : ∀ x ∈ headB h ++ d ++ tailB b, x < 256 := fun x hx => by
    simp only [List.mem_append] at hx
    rcases hx with (hx | hx) | hx
    · exact headB_lt hf x hx
    · exact hd x hx
    · exact tailB_lt hb x hx
  by_cases h32 : 32 ≤ k
  · have ht : ((sealB h d b).set k c).drop 32 = (tailB b).set (k - 32) c := by rw [List.drop_set, if_neg (by omega), drop_seal]
    have htl : ((tailB b).set (k - 32) c).length = 32 := by rw [List.length_set, tailB_len]
    rw [takeH_set (by omega), takeH_seal hf, ht] at he
    have h1 := congrArg sumAt he
    rw [sumAt_set (by omega), sumAt_seal, sumAt_seal] at h1
    unfold sumB at h1
    rw [tailB_id htl] at h1
    have hi : (headB h ++ d).length + (k - 32) < (headB h ++ d ++ tailB b).length := by simp only [List.length_append, tailB_len]; omega
    have hset : (headB h ++ d ++ tailB b).set ((headB h ++ d).length + (k - 32)) c = headB h ++ d ++ (tailB b).set (k - 32) c := by
      rw [List.set_append_right _ _ (by omega)]; congr 2; omega
    have hg : (headB h ++ d ++ tailB b).getD ((headB h ++ d).length + (k - 32)) 0 = (sealB h d b).getD k 0 := by
      have e1 : (tailB b).getD (k - 32) 0 = (sealB h d b).getD k 0 := by
        rw [← drop_seal h d b]
        simp only [List.getD_eq_getElem?_getD, List.getElem?_drop]
        congr 2; omega
      rw [← e1]
      simp only [List.getD_eq_getElem?_getD]
      rw [List.getElem?_append_right (by omega), Nat.add_sub_cancel_left]
    have h2 := of_set hbytes _ c hi hc (by rw [hg]; exact hne)
    rw [hset] at h2
    exact h2 h1.symm
  · have ht : ((sealB h d b).set k c).drop 32 = tailB b := by rw [List.drop_set_of_lt (by omega), drop_seal]
    rw [ht, seal_tail] at he
    by_cases h24 : 24 ≤ k
    · rw [takeH_set h24, takeH_seal hf] at he
      have h1 := congrArg (fun l => l.getD k 0) he
      simp only [List.getD_eq_getElem?_getD, List.getElem?_set_self (by omega : k < (sealB h d b).length)] at h1
      apply hne
      rw [List.getD_eq_getElem?_getD, ← h1]
      rfl
    · have h1 := congrArg sumAt he
      rw [sumAt_set (by omega), sumAt_seal, sumAt_seal] at h1
      have h3 := congrArg (List.take 24) he
      rw [take_seal, List.take_set, take_seal] at h3
      unfold sumB at h1
      rw [← h3] at h1
      have hset : (headB h ++ d ++ tailB b).set k c = (headB h).set k c ++ d ++ tailB b := by
        rw [List.append_assoc, List.set_append_left _ _ (by rw [headB_len]; omega), List.append_assoc]
      have hg : (headB h ++ d ++ tailB b).getD k 0 = (sealB h d b).getD k 0 := by
        have e1 : (headB h).getD k 0 = (sealB h d b).getD k 0 := by
          rw [← take_seal h d b]
          simp only [List.getD_eq_getElem?_getD, List.getElem?_take_of_lt (by omega : k < 24)]
        rw [← e1, List.append_assoc]
        simp [List.getD_eq_getElem?_getD, List.getElem?_append_left (by rw [headB_len]; omega : k < (headB h).length)]
      have h2 := of_set hbytes k c (by rw [List.append_assoc, List.length_append, headB_len]; omega) hc (by rw [hg]; exact hne)
      rw [hset] at h2
      exact h2 h1.symm
/-- With bits turned in a row the page isn't sealed. -/
theorem not_open_turned {h : RH} (hf : h.Fits) {d d' b : List Nat} (hl : d.length = d'.length) (hd : ∀ x ∈ d, x < 256) (hd' : ∀ x ∈ d', x < 256) (hb : ∀ x ∈ b, x < 256) (from_ bits : Nat) (hv : Crc.val d' = Crc.val d ^^^ (2 ^ from_ * bits)) (hbits : bits < 4294967296) (h0 : bits ≠ 0) (hfl : from_ ≤ 8 * d.length) :
    ¬ OpenOk d' (sealB h d b) := by
  rintro ⟨_, _, _, he⟩
  rw [takeH_seal hf, drop_seal, seal_tail] at he
  have h1 := congrArg sumAt he
  rw [sumAt_seal, sumAt_seal] at h1
  exact of_mid hl (headB_lt hf) hd hd' (tailB_lt hb) from_ bits hv hbits h0 hfl h1.symm

end Go.Proofs.Ytjnjkoodeacpdaa
