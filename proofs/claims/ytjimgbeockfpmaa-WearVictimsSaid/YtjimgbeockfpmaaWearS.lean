/- wear: spread. -/
import Derived.Test.YtjimgbeockfpmaaWearF
import Derived.RegionTactic
namespace Go.Proofs.Ytjimgbeockfpmaa
open Go.RowKit

/-- The least and the greatest count of the first k, and the first one's. -/
def leE (G : List SegV) : Nat → Nat
  | 0 => (G.getD 0 SegV.nil).e
  | k + 1 => min (leE G k) (G.getD k SegV.nil).e
def moE (G : List SegV) : Nat → Nat
  | 0 => (G.getD 0 SegV.nil).e
  | k + 1 => max (moE G k) (G.getD k SegV.nil).e
theorem getD_e {G : List SegV} (h : ∀ s ∈ G, s.e < 4294967296) (j : Nat) : (G.getD j SegV.nil).e < 4294967296 := by
  rcases Nat.lt_or_ge j G.length with q | q
  · have : G.getD j SegV.nil ∈ G := by simp [List.getD, q]
    exact h _ this
  · simp [List.getD, List.getElem?_eq_none q, SegV.nil]
theorem leE_le_moE (G : List SegV) : ∀ k, leE G k ≤ moE G k
  | 0 => Nat.le_refl _
  | k + 1 => by
    have := leE_le_moE G k
    unfold leE moE
    omega
theorem leE_lt {G : List SegV} (h : ∀ s ∈ G, s.e < 4294967296) : ∀ k, leE G k < 4294967296
  | 0 => getD_e h 0
  | k + 1 => by
    have := leE_lt h k
    unfold leE
    omega
theorem moE_lt {G : List SegV} (h : ∀ s ∈ G, s.e < 4294967296) : ∀ k, moE G k < 4294967296
  | 0 => getD_e h 0
  | k + 1 => by
    have := moE_lt h k
    have := getD_e h k
    unfold moE
    omega
theorem min_lit (a b : Nat) : (if (b : Int) < (a : Int) then Value.int IntKind.u32 (b : Int) else Value.int IntKind.u32 (a : Int)) = .int .u32 ((min a b : Nat) : Int) := by
  split
  · rw [Nat.min_eq_right (by omega)]
  · rw [Nat.min_eq_left (by omega)]
theorem wrap_u32n (e : Nat) (h : e < 4294967296) : IntKind.u32.wrap (e : Int) = (e : Int) := by
  simp [IntKind.wrap, IntKind.bits, IntKind.signed]; omega
def spreadE (G : List SegV) : Nat := if G.length = 0 then 0 else moE G G.length - leE G G.length
set_option maxHeartbeats 1000000 in
theorem spread_any (a : Option Addr) (len cap : Nat) (G : List SegV) (w : World) (hr : RowG w a len G) (hlc : len ≤ cap) (hcm : cap ≤ maxLen) :
    Calls Try.prog 16 #[.slice a len cap] w fun e w' => e = .returned (.int .u32 (spreadE G : Int)) ∧ Below w.heap.size w w' := by
  have HR := Lib.hid hr
  have hlen := hr.1
  clear hr
  unfold maxLen at hcm
  unfold spreadE
  by_cases h0 : len = 0
  · subst h0
    rw [if_pos hlen]
    go_enter Try.func16, Try.ntmps16
    go_wp2_with fail
    go_ret
    exact ⟨rfl, Below.refl _ _⟩
  · rw [if_neg (by omega), hlen]
    have h00 : ((len : Int) == 0) = false := by simp; omega
    have hp : (0 : Int) < (len : Int) := by omega
    obtain ⟨b, off, rfl, hbs, hc⟩ := rowG_at HR.out (show 0 < len by omega)
    have c2 := (hc 0 (by omega)).2.2
    rw [Nat.zero_mul, Nat.add_zero] at c2
    clear hc
    go_enter Try.func16, Try.ntmps16
    go_upto_region 3 with fail
    go_region
    go_wp2_with fail
    go_loopw [20, 3, 4] (fun i t u wr => ∃ (k : Nat), k ≤ len ∧ i = .int .i64 (k : Int) ∧ t = .int .u32 (leE G k : Int) ∧ u = .int .u32 (moE G k : Int) ∧ Below w.heap.size w wr) (fun i _ _ _ => len - (intOf i).toNat)
    case atStart => exact ⟨0, Nat.zero_le _, rfl, rfl, rfl, (Below.refl _ _).drew⟩
    case round =>
      obtain ⟨k, hk, rfl, rfl, rfl, hB⟩ := hrel
      have HB := Lib.hid hB
      clear hB c2
      by_cases hlt : k < len
      · have t1 : decide (k < len) = true := by simpa using hlt
        have hr1 := HR.out.step HB.out
        obtain ⟨b', off', hbb, hbs', hc⟩ := rowG_at hr1 hlt
        cases hbb
        obtain ⟨c0, c1, c2⟩ := hc k hlt
        clear hr1 hc
        obtain ⟨g, hg⟩ : ∃ g, g = G.getD k SegV.nil := ⟨_, rfl⟩
        rw [← hg] at c0 c1 c2
        have HG := Lib.hid hg
        clear hg
        have hk0 : (0 : Int) ≤ (k : Int) := by omega
        go_upto_region 7 with fail
        go_region
        have HBn : Hid (Below w.heap.size w (wr.alloc (.cells #[.int .i64 g.k, .int .i64 g.l, .int .u32 (g.e : Int)] 33)).drew) := Lib.hid (wbel_alloc HB.out _).drew
        have z1 : (if g.e < leE G k then (g.e : Int) else (leE G k : Int)) = (leE G (k + 1) : Int) := by
          rw [HG.out]; show _ = ((min (leE G k) (G.getD k SegV.nil).e : Nat) : Int)
          split <;> omega
        have z2 : (if moE G k < g.e then (g.e : Int) else (moE G k : Int)) = (moE G (k + 1) : Int) := by
          rw [HG.out]; show _ = ((max (moE G k) (G.getD k SegV.nil).e : Nat) : Int)
          split <;> omega
        rw [z1, z2]
        clear z1 z2 c0 c1 c2
        go_wp2_with fail
        go_roundw
        case rel => exact ⟨k + 1, by omega, by go_num, rfl, rfl, HBn.out⟩
        case measure => simp [intOf]; omega
      · obtain rfl : k = len := by omega
        have t1 : decide (k < k) = false := by simp
        have hw : IntKind.u32.wrap ((moE G k : Int) - (leE G k : Int)) = ((moE G k - leE G k : Nat) : Int) := by
          have h1 := leE_le_moE G k
          have h2 := moE_lt HR.out.2.1 k
          rw [show (moE G k : Int) - (leE G k : Int) = ((moE G k - leE G k : Nat) : Int) by omega]
          exact wrap_u32n _ (by omega)
        go_wp2
        go_ret
        exact ⟨by rw [← hw]; rfl, HB.out⟩
end Go.Proofs.Ytjimgbeockfpmaa
