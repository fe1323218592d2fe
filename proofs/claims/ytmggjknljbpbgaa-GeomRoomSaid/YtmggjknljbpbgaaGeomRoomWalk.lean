/- GeomRoom: the walk. -/
import Derived.Test.YtmggjknljbpbgaaGeoC
namespace Go.Proofs.Ytmggjknljbpbgaa
open Go.RowKit

theorem room_facts (a b c d : Int) (hg : GoodG a b c d) : 4 ≤ CapOf a b c d ∧ CapOf a b c d ≤ 100000 ∧ 16 + 4 * (CapOf a b c d + (b - 11)) ≤ c * (a - 1) * d ∧ 2 * CapOf a b c d ≤ (b - 11 - 4) * (c * (a - 1)) := by
  obtain ⟨P, H, R, M, F⟩ := capF a b c d hg
  rw [← F.p]
  have q1 := F.q1'
  have q2 := F.q2'
  have n1 := F.n1
  have n2 := F.n2
  have h1 := F.hb
  have h2 := F.rb
  have m := F.m
  have k := F.k
  have g3 := hg.2.2.1
  have g4 := hg.2.2.2.1
  have n3 : 1 * 8 ≤ (b - 11 - 4) * P := Int.mul_le_mul (by omega) F.pb.1 (by omega) (by omega)
  generalize CapOf a b c d = K at *
  generalize (b - 11 - 4) * P = X at *
  generalize P * d = Y at *
  split at m <;> split at k <;> (subst m; subst k; omega)

set_option maxRecDepth 100000 in
set_option maxHeartbeats 1600000 in
theorem geomRoom_walk (a b c d : Int) (w : World) (_ : In64x4 a b c d) :
    Calls Try.prog 9 #[.agg #[.int .i64 a, .int .i64 b, .int .i64 c, .int .i64 d]] w fun e w' => e = .returned (.bool true) ∧ Below w.heap.size w w' := by
  have HS := Lib.hid (gs_new w a b c d)
  by_cases hg : GoodG a b c d
  · have HC := Lib.hid fun x : World => check_good a b c d x hg
    have HPl := Lib.hid placed_any
    obtain ⟨g1, g2, g3, g4, g5, g6, g7, g8, g9⟩ := id hg
    have HSeg := Lib.hid fun x : World => segments_any a b c d x (by omega) (by omega)
    have HPg := Lib.hid fun x : World => pages_any a b c d x (by omega) (by omega) (by omega) (by omega)
    have HCa := Lib.hid fun x : World => capacity_good a b c d x hg
    obtain ⟨r1, r2, r3⟩ := room_facts a b c d hg
    have hm := mul_bd (show 0 ≤ c by omega) (show c ≤ 32 by omega) (show (0 : Int) ≤ a - 1 by omega) (show a - 1 ≤ 16 by omega)
    have hm2 := mul_bd hm.1 hm.2 (show 0 ≤ d by omega) (show d ≤ 1024 by omega)
    have hm3 := mul_bd (show 0 ≤ b - 11 - 4 by omega) (show b - 11 - 4 ≤ 64 by omega) hm.1 hm.2
    obtain ⟨P, hP⟩ : ∃ P, P = c * (a - 1) := ⟨_, rfl⟩
    obtain ⟨K, hK⟩ : ∃ K, K = CapOf a b c d := ⟨_, rfl⟩
    rw [← hP] at HPg r3 hm2 hm3
    rw [← hK] at HCa r1 r2 r3
    have u1 : IntKind.i64.wrap (K + (b - 11)) = K + (b - 11) := wrap_of (by omega) (by omega)
    have u2 : IntKind.i64.wrap (4 * (K + (b - 11))) = 4 * (K + (b - 11)) := wrap_of (by omega) (by omega)
    have u3 : IntKind.i64.wrap (16 + 4 * (K + (b - 11))) = 16 + 4 * (K + (b - 11)) := wrap_of (by omega) (by omega)
    have u4 : IntKind.i64.wrap (P * d) = P * d := wrap_of (by omega) (by omega)
    have u5 : IntKind.i64.wrap (2 * K) = 2 * K := wrap_of (by omega) (by omega)
    have u6 : IntKind.i64.wrap (b - 11 - 4) = b - 11 - 4 := wrap_of (by omega) (by omega)
    have u7 : IntKind.i64.wrap ((b - 11 - 4) * P) = (b - 11 - 4) * P := wrap_of (by omega) (by omega)
    have t0 : decide ((0 : Int) ≤ K) = true := by simp; omega
    have t1 : (K == 0) = false := by simp; omega
    have t2 : decide (16 + 4 * (K + (b - 11)) ≤ P * d) = true := by simp; exact r3.1
    have t3 : decide (2 * K ≤ (b - 11 - 4) * P) = true := by simp; exact r3.2
    clear r3 hm hm2 hm3 hP hK g1 g2 g3 g4 g5 g6 g7 g8 g9 hg
    go_enter Try.func9, Try.ntmps9
    obtain ⟨c0, c1, c2, c3, _⟩ := HS.out
    go_wp2_with fail
    ((with_reducible refine (HC.out _).mono ?_))
    rintro e w0 ⟨rfl, hb⟩
    have HS0 := Lib.hid (HS.out.step hb)
    clear hb c0 c1 c2 c3
    obtain ⟨c0, c1, c2, c3, _⟩ := HS0.out
    go_wp2_with fail
    ((with_reducible refine (HCa.out _).mono ?_))
    rintro e w1 ⟨rfl, hb⟩
    have hS1 := (HS0.out.step hb).drew
    clear hb c0 c1 c2 c3
    go_wp2_with fail
    go_region_held3 (fun x => x.cell? ⟨w.heap.size, 0, none⟩ = some (.int .i64 a) ∧ x.cell? ⟨w.heap.size, 1, none⟩ = some (.int .i64 b) ∧ x.cell? ⟨w.heap.size, 2, none⟩ = some (.int .i64 c) ∧ x.cell? ⟨w.heap.size, 3, none⟩ = some (.int .i64 d) ∧ Below w.heap.size w x)
      (first | exact hS6 | exact hS5 | exact hS4 | exact hS3 | exact hS2 | exact hS1)
      (first
        | (go_simp; go_at_call 17; ((with_reducible refine (HPl.out _).mono ?_)); (rintro e w2 ⟨rfl, hb⟩; have hS2 := hS1.step hb; clear hb))
        | (go_simp; go_at_call 29; ((with_reducible refine (HSeg.out _).mono ?_)); (rintro e w3 ⟨rfl, hb⟩; have hS3 := hS2.step hb; clear hb))
        | (go_simp; go_at_call 30; ((with_reducible refine (HPg.out _).mono ?_)); (rintro e w4 ⟨rfl, hb⟩; have hS4 := hS3.step hb; clear hb))
        | (go_simp; go_at_call 29; ((with_reducible refine (HSeg.out _).mono ?_)); (rintro e w5 ⟨rfl, hb⟩; have hS5 := hS4.step hb; clear hb))
        | (go_simp; go_at_call 30; ((with_reducible refine (HPg.out _).mono ?_)); (rintro e w6 ⟨rfl, hb⟩; have hS6 := hS5.step hb; clear hb)))
    all_goals
      go_wp2
      go_ret
      exact ⟨rfl, hS6.2.2.2.2⟩
  · have HC := Lib.hid fun x : World => check_bad a b c d x hg
    have HPl := Lib.hid placed_any
    clear hg
    go_enter Try.func9, Try.ntmps9
    obtain ⟨c0, c1, c2, c3, _⟩ := HS.out
    go_wp2_with fail
    ((with_reducible refine (HC.out _).mono ?_))
    rintro e w0 ⟨rfl, hb⟩
    have HS0 := Lib.hid (HS.out.step hb)
    clear hb c0 c1 c2 c3
    go_wp2_with fail
    ((with_reducible refine (HPl.out _).mono ?_))
    rintro e w1 ⟨rfl, hb⟩
    have HS1 := Lib.hid (HS0.out.step hb)
    clear hb
    go_wp2
    go_ret
    exact ⟨rfl, HS1.out.2.2.2.2⟩

end Go.Proofs.Ytmggjknljbpbgaa
