/- Merging in place: plain facts. -/
import Derived.Test.YtdpkinppkhnjkaaDoorSrtP
namespace Go.Proofs.YtdpkinppkhnjkaaDoor
open Go.RowKit

theorem Srt.le {f : Seq'} {a b i j : Nat} (h : Srt f a b) (h1 : a ≤ i) (h2 : i ≤ j) (h3 : j < b) : leS (f i) (f j) := by
  rcases Nat.lt_or_ge i j with c | c
  · exact h i j h1 c h3
  · obtain rfl : i = j := by omega
    exact leS_refl _
theorem rot_none (f : Seq') (l j : Nat) : rot f l 0 j = f := by
  funext k; unfold rot
  split
  · rfl
  · rw [if_neg (by omega)]
theorem rot_prm : ∀ (n : Nat) (f : Seq') (lo hi l i j : Nat), i + j ≤ n → lo ≤ l → l + i + j ≤ hi → Prm lo hi f (rot f l i j) := by
  intro n
  induction n with
  | zero =>
    intro f lo hi l i j h _ _
    obtain rfl : j = 0 := by omega
    rw [rot_zero]; exact .refl
  | succ n ih =>
    intro f lo hi l i j h h1 h2
    rcases Nat.eq_zero_or_pos i with rfl | hi0
    · rw [rot_none]; exact .refl
    rcases Nat.eq_zero_or_pos j with rfl | hj0
    · rw [rot_zero]; exact .refl
    rcases Nat.lt_trichotomy i j with c | rfl | c
    · rw [← rot_right f l i j c]
      exact (swr_prm f l (l + j) lo hi i (by omega) h1 (by omega)).trans (ih _ lo hi l i (j - i) (by omega) h1 (by omega))
    · rw [← rot_same]
      exact swr_prm f l (l + i) lo hi i (by omega) h1 (by omega)
    · rw [← rot_left f l i j c]
      exact (swr_prm f l (l + i) lo hi j (by omega) h1 (by omega)).trans (ih _ lo hi (l + j) (i - j) j (by omega) (by omega) (by omega))
/-- Where two parts that are in order are cut, so that what lies left is no greater than what lies right. -/
structure CutAt (f : Seq') (a m b mid s e : Nat) : Prop where
  lo : a ≤ s
  sm : s ≤ m
  me : m ≤ e
  eb : e ≤ b
  sum : e + s = mid + m
  low : ∀ x y, a ≤ x → x < s → e ≤ y → y < b → leS (f x) (f y)
  up : ∀ x y, m ≤ x → x < e → s ≤ y → y < m → leS (f x) (f y)
section
variable {f : Seq'} {a m b mid s e : Nat}
theorem CutAt.at0 (c : CutAt f a m b mid s e) {k : Nat} (h : k < s) : rot f s (m - s) (e - m) k = f k := by
  have := c.sm; have := c.me; have := c.sum
  unfold rot; rw [if_neg (by omega), if_neg (by omega)]
theorem CutAt.at1 (c : CutAt f a m b mid s e) {k : Nat} (h : s ≤ k) (h2 : k < mid) : rot f s (m - s) (e - m) k = f (k + (m - s)) := by
  have := c.sm; have := c.me; have := c.sum
  unfold rot; rw [if_pos (by omega)]
theorem CutAt.at2 (c : CutAt f a m b mid s e) {k : Nat} (h : mid ≤ k) (h2 : k < e) : rot f s (m - s) (e - m) k = f (k - (e - m)) := by
  have := c.sm; have := c.me; have := c.sum
  unfold rot; rw [if_neg (by omega), if_pos (by omega)]
theorem CutAt.at3 (c : CutAt f a m b mid s e) {k : Nat} (h : e ≤ k) : rot f s (m - s) (e - m) k = f k := by
  have := c.sm; have := c.me; have := c.sum
  unfold rot; rw [if_neg (by omega), if_neg (by omega)]
theorem CutAt.srt0 (c : CutAt f a m b mid s e) (h1 : Srt f a m) : Srt (rot f s (m - s) (e - m)) a s := fun x y hx hy hz => by
  rw [c.at0 (by omega), c.at0 hz]; exact h1 x y hx hy (by have := c.sm; omega)
theorem CutAt.srt1 (c : CutAt f a m b mid s e) (h2 : Srt f m b) : Srt (rot f s (m - s) (e - m)) s mid := fun x y hx hy hz => by
  have := c.sm; have := c.me; have := c.sum; have := c.eb
  rw [c.at1 hx (by omega), c.at1 (by omega) hz]; exact h2 _ _ (by omega) (by omega) (by omega)
theorem CutAt.srt2 (c : CutAt f a m b mid s e) (h1 : Srt f a m) : Srt (rot f s (m - s) (e - m)) mid e := fun x y hx hy hz => by
  have := c.sm; have := c.me; have := c.sum; have := c.lo
  rw [c.at2 hx (by omega), c.at2 (by omega) hz]; exact h1 _ _ (by omega) (by omega) (by omega)
theorem CutAt.srt3 (c : CutAt f a m b mid s e) (h2 : Srt f m b) : Srt (rot f s (m - s) (e - m)) e b := fun x y hx hy hz => by
  have := c.me
  rw [c.at3 hx, c.at3 (by omega)]; exact h2 _ _ (by omega) (by omega) (by omega)
theorem CutAt.across (c : CutAt f a m b mid s e) (h1 : Srt f a m) (h2 : Srt f m b) (x y : Nat) (hx : a ≤ x) (hm : x < mid) (hy : mid ≤ y) (hb : y < b) : leS (rot f s (m - s) (e - m) x) (rot f s (m - s) (e - m) y) := by
  have := c.sm; have := c.me; have := c.sum; have := c.lo; have := c.eb
  by_cases k1 : x < s
  · rw [c.at0 k1]
    by_cases k2 : y < e
    · rw [c.at2 hy k2]; exact h1 _ _ (by omega) (by omega) (by omega)
    · rw [c.at3 (by omega)]; exact c.low _ _ (by omega) (by omega) (by omega) (by omega)
  · rw [c.at1 (by omega) hm]
    by_cases k2 : y < e
    · rw [c.at2 hy k2]; exact c.up _ _ (by omega) (by omega) (by omega) (by omega)
    · rw [c.at3 (by omega)]; exact h2 _ _ (by omega) (by omega) (by omega)
theorem CutAt.prm (c : CutAt f a m b mid s e) : Prm a b f (rot f s (m - s) (e - m)) :=
  rot_prm _ f a b s (m - s) (e - m) (Nat.le_refl _) c.lo (by have := c.sm; have := c.me; have := c.eb; omega)
theorem srt_join {g g1 g2 : Seq'} (hp1 : Prm a mid g g1) (hs1 : Srt g1 a mid) (hp2 : Prm mid b g1 g2) (hs2 : Srt g2 mid b) (hx : ∀ x y, a ≤ x → x < mid → mid ≤ y → y < b → leS (g x) (g y)) : Srt g2 a b := fun i j h1 h2 h3 => by
  by_cases c1 : j < mid
  · rw [hp2.out i (by omega), hp2.out j (by omega)]; exact hs1 i j h1 h2 c1
  · by_cases c2 : mid ≤ i
    · exact hs2 i j c2 h2 h3
    · rw [hp2.out i (by omega)]
      have q1 := hp1.all (fun v => ∀ y, mid ≤ y → y < b → leS v (g y)) (fun k k1 k2 y k3 k4 => hx k y k1 k2 k3 k4) i h1 (by omega)
      exact hp2.all (fun v => leS (g1 i) v) (fun k k1 k2 => by rw [hp1.out k (by omega)]; exact q1 k k1 k2) j (by omega) h3
/-- What the search finds is such a cut. -/
theorem cut_of (h1 : Srt f a m) (h2 : Srt f m b) (ham : a < m) (hmb : m < b) {lo hi n : Nat} (hmid : a ≤ mid ∧ mid ≤ b ∧ mid - a ≤ b - mid ∧ b - mid ≤ mid - a + 1) (hn : n = mid + m)
    (hl : (mid < m ∧ lo = n - b ∧ hi = mid) ∨ (m ≤ mid ∧ lo = a ∧ hi = m)) (hs : lo ≤ s ∧ s ≤ hi) (k1 : s = lo ∨ leS (f (s - 1)) (f (n - s))) (k2 : s = hi ∨ lessOf (f (n - 1 - s)) (f s) = true) : CutAt f a m b mid s (n - s) := by
  refine ⟨by omega, by omega, by omega, by omega, by omega, fun x y q1 q2 q3 q4 => ?_, fun x y q1 q2 q3 q4 => ?_⟩
  · rcases k1 with k | k
    · omega
    · exact leS_trans (h1.le q1 (by omega) (by omega)) (leS_trans k (h2.le (by omega) q3 q4))
  · rcases k2 with k | k
    · omega
    · exact leS_trans (h2.le q1 (show x ≤ n - 1 - s by omega) (by omega)) (leS_trans (lt_leS k) (h1.le (by omega) q3 q4))
end
/-- The first goes up by so many. -/
theorem rotUp_step (f : Seq') (a d : Nat) : swp (rot f a 1 d) (a + d) (a + d + 1) = rot f a 1 (d + 1) := by
  funext k
  unfold swp rot
  by_cases c1 : k = a + d
  · subst c1; rw [if_pos rfl, if_neg (by omega), if_neg (by omega), if_pos (by omega)]
  rw [if_neg c1]
  by_cases c2 : k = a + d + 1
  · subst c2; rw [if_pos rfl, if_neg (by omega), if_pos (by omega), if_neg (by omega), if_pos (by omega)]; congr 1; omega
  rw [if_neg c2]
  by_cases c3 : a ≤ k ∧ k < a + d
  · rw [if_pos c3, if_pos (by omega)]
  have c3' : ¬ (a ≤ k ∧ k < a + (d + 1)) := by omega
  rw [if_neg c3, if_neg c3', if_neg (by omega), if_neg (by omega)]
/-- The one at m goes down to k. -/
theorem rotDn_step (f : Seq') (k n : Nat) : swp (rot f (k + 1) n 1) (k + 1) k = rot f k (n + 1) 1 := by
  funext x
  unfold swp rot
  by_cases c1 : x = k + 1
  · subst c1; rw [if_pos rfl, if_neg (by omega), if_neg (by omega), if_neg (by omega), if_pos (by omega)]; rfl
  rw [if_neg c1]
  by_cases c2 : x = k
  · subst c2; rw [if_pos rfl, if_pos (by omega), if_pos (by omega)]; congr 1; omega
  rw [if_neg c2]
  by_cases c3 : k + 1 + 1 ≤ x ∧ x < k + 1 + n + 1
  · rw [if_neg (by omega), if_pos c3, if_neg (by omega), if_pos (by omega)]
  rw [if_neg (by omega), if_neg c3, if_neg (by omega), if_neg (by omega)]
theorem srt_up {f : Seq'} {a b i : Nat} (h : Srt f (a + 1) b) (hi : a + 1 ≤ i) (hb : i ≤ b) (k1 : i = a + 1 ∨ lessOf (f (i - 1)) (f a) = true) (k2 : i = b ∨ leS (f a) (f i)) : Srt (rot f a 1 (i - 1 - a)) a b := by
  have v0 : ∀ k, a ≤ k → k < i - 1 → rot f a 1 (i - 1 - a) k = f (k + 1) := fun k q1 q2 => by unfold rot; rw [if_pos (by omega)]
  have v1 : rot f a 1 (i - 1 - a) (i - 1) = f a := by
    unfold rot; rw [if_neg (by omega), if_pos (by omega)]; congr 1; omega
  have v2 : ∀ k, i ≤ k → rot f a 1 (i - 1 - a) k = f k := fun k q1 => by unfold rot; rw [if_neg (by omega), if_neg (by omega)]
  have lo : ∀ k, a + 1 ≤ k → k < i → leS (f k) (f a) := fun k q1 q2 => by
    rcases k1 with e | e
    · omega
    · exact leS_trans (h.le q1 (by omega) (by omega)) (lt_leS e)
  have up : ∀ k, i ≤ k → k < b → leS (f a) (f k) := fun k q1 q2 => by
    rcases k2 with e | e
    · omega
    · exact leS_trans e (h.le (by omega) q1 q2)
  intro x y q1 q2 q3
  by_cases c1 : y < i - 1
  · rw [v0 x q1 (by omega), v0 y (by omega) c1]; exact h _ _ (by omega) (by omega) (by omega)
  by_cases c2 : y = i - 1
  · subst c2; rw [v0 x q1 q2, v1]; exact lo _ (by omega) (by omega)
  rw [v2 y (by omega)]
  by_cases c3 : x < i - 1
  · rw [v0 x q1 c3]; exact h _ _ (by omega) (by omega) (by omega)
  by_cases c4 : x = i - 1
  · subst c4; rw [v1]; exact up _ (by omega) q3
  rw [v2 x (by omega)]; exact h _ _ (by omega) q2 q3
theorem srt_dn {f : Seq'} {a m i : Nat} (h : Srt f a m) (hi : a ≤ i) (hm : i ≤ m) (k1 : i = a ∨ leS (f (i - 1)) (f m)) (k2 : i = m ∨ lessOf (f m) (f i) = true) : Srt (rot f i (m - i) 1) a (m + 1) := by
  have v0 : ∀ k, k < i → rot f i (m - i) 1 k = f k := fun k q1 => by unfold rot; rw [if_neg (by omega), if_neg (by omega)]
  have v1 : rot f i (m - i) 1 i = f m := by
    unfold rot; rw [if_pos (by omega)]; congr 1; omega
  have v2 : ∀ k, i < k → k ≤ m → rot f i (m - i) 1 k = f (k - 1) := fun k q1 q2 => by unfold rot; rw [if_neg (by omega), if_pos (by omega)]
  have lo : ∀ k, a ≤ k → k < i → leS (f k) (f m) := fun k q1 q2 => by
    rcases k1 with e | e
    · omega
    · exact leS_trans (h.le q1 (by omega) (by omega)) e
  have up : ∀ k, i ≤ k → k < m → leS (f m) (f k) := fun k q1 q2 => by
    rcases k2 with e | e
    · omega
    · exact leS_trans (lt_leS e) (h.le (by omega) q1 q2)
  intro x y q1 q2 q3
  by_cases c1 : y < i
  · rw [v0 x (by omega), v0 y c1]; exact h _ _ q1 q2 (by omega)
  by_cases c2 : y = i
  · subst c2; rw [v0 x q2, v1]; exact lo _ q1 q2
  rw [v2 y (by omega) (by omega)]
  by_cases c3 : x < i
  · rw [v0 x c3]; exact h _ _ q1 (by omega) (by omega)
  by_cases c4 : x = i
  · subst c4; rw [v1]; exact up _ (by omega) (by omega)
  rw [v2 x (by omega) (by omega)]; exact h _ _ (by omega) (by omega) (by omega)
/-- Blocks of so many from a on are each in order, up to n. -/
def Bl (f : Seq') (s n a : Nat) : Prop := ∀ k i j, a + k * s ≤ i → i < j → j < a + k * s + s → j < n → leS (f i) (f j)
/-- Whole blocks from nought up to a are each in order. -/
def Bd (f : Seq') (t a : Nat) : Prop := ∀ k i j, k * t + t ≤ a → k * t ≤ i → i < j → j < k * t + t → leS (f i) (f j)
theorem Bd.zero (f : Seq') {t : Nat} (ht : 0 < t) : Bd f t 0 := fun k i j h => by omega
theorem mul_step {t q k : Nat} (h : k < q) : k * t + t ≤ q * t := by
  have := Nat.mul_le_mul_right t (show k + 1 ≤ q by omega)
  rwa [Nat.succ_mul] at this
theorem Bd.step {f g : Seq'} {t q : Nat} (h : Bd f t (q * t)) (hp : Prm (q * t) (q * t + t) f g) (hs : Srt g (q * t) (q * t + t)) : Bd g t (q * t + t) := fun k i j h1 h2 h3 h4 => by
  rcases Nat.lt_trichotomy k q with c | rfl | c
  · have := mul_step (t := t) c
    rw [hp.out i (by omega), hp.out j (by omega)]
    exact h k i j this h2 h3 h4
  · exact hs i j h2 h3 h4
  · have := mul_step (t := t) c
    omega
theorem Bd.all {f g : Seq'} {t q n : Nat} (h : Bd f t (q * t)) (hp : Prm (q * t) n f g) (hs : Srt g (q * t) n) (hn : n < q * t + t) : Bl g t n 0 := fun k i j h1 h2 h3 h4 => by
  rw [Nat.zero_add] at h1 h3
  rcases Nat.lt_trichotomy k q with c | rfl | c
  · have := mul_step (t := t) c
    rw [hp.out i (by omega), hp.out j (by omega)]
    exact h k i j this h1 h2 h3
  · exact hs i j h1 h2 h4
  · have := mul_step (t := t) c
    omega
theorem Bl.first {f : Seq'} {s n a b : Nat} (h : Bl f s n a) (hb : b ≤ a + s) (hn : b ≤ n) : Srt f a b := fun i j h1 h2 h3 => h 0 i j (by omega) h2 (by omega) (by omega)
theorem Bl.second {f : Seq'} {s n a b : Nat} (h : Bl f s n a) (hb : b ≤ a + s + s) (hn : b ≤ n) : Srt f (a + s) b := fun i j h1 h2 h3 => h 1 i j (by omega) h2 (by omega) (by omega)
theorem Bl.next {f g : Seq'} {s n a : Nat} (h : Bl f s n a) (hp : Prm a (a + 2 * s) f g) : Bl g s n (a + 2 * s) := fun k i j h1 h2 h3 h4 => by
  have e : (k + 2) * s = k * s + 2 * s := Nat.add_mul _ _ _
  rw [hp.out i (by omega), hp.out j (by omega)]
  exact h (k + 2) i j (by omega) h2 (by omega) h4
theorem Bl.whole {f : Seq'} {s n : Nat} (h : Bl f s n 0) (hn : n ≤ s) : Srt f 0 n := fun i j h1 h2 h3 => h 0 i j (by omega) h2 (by omega) h3
end Go.Proofs.YtdpkinppkhnjkaaDoor
