/- GeomSizes: the walk. -/
import Derived.Test.YtmggjknljbpbgaaGeoC
namespace Go.Proofs.Ytmggjknljbpbgaa
open Go.RowKit

set_option maxRecDepth 100000 in
set_option maxHeartbeats 1600000 in
theorem geomSizes_walk (a b c d : Int) (w : World) (_ : In64x4 a b c d) :
    Calls Try.prog 6 #[.agg #[.int .i64 a, .int .i64 b, .int .i64 c, .int .i64 d]] w fun e w' => e = .returned (.bool true) ∧ Below w.heap.size w w' := by
  have HS := Lib.hid (gs_new w a b c d)
  by_cases hg : GoodG a b c d
  · have HC := Lib.hid fun x : World => check_good a b c d x hg
    have HPl := Lib.hid placed_any
    obtain ⟨g1, g2, g3, g4, g5, g6, g7, g8, g9⟩ := id hg
    have HSeg := Lib.hid fun x : World => segments_any a b c d x (by omega) (by omega)
    have HPg := Lib.hid fun x : World => pages_any a b c d x (by omega) (by omega) (by omega) (by omega)
    have HPr := Lib.hid fun x : World => pairs_any a b c d x (by omega) (by omega)
    have HCa := Lib.hid fun x : World => capacity_good a b c d x hg
    have HRc := Lib.hid fun x : World => refCap_good a b c d x hg
    have hm := mul_bd (show 0 ≤ c by omega) (show c ≤ 32 by omega) (show (0 : Int) ≤ a - 1 by omega) (show a - 1 ≤ 16 by omega)
    have u1 : IntKind.i64.wrap (b - 11) = b - 11 := wrap_of (by omega) (by omega)
    have u2 : IntKind.i64.wrap (a - 1) = a - 1 := wrap_of (by omega) (by omega)
    have u3 : IntKind.i64.wrap (c * (a - 1)) = c * (a - 1) := wrap_of (by omega) (by omega)
    have u4 : a.tdiv 2 = a / 2 := Int.tdiv_eq_ediv_of_nonneg (by omega)
    have u5 : IntKind.i64.wrap (a / 2) = a / 2 := wrap_of (by omega) (by omega)
    clear hm g1 g2 g3 g4 g5 g6 g7 g8 g9 hg
    go_enter Try.func6, Try.ntmps6
    obtain ⟨c0, c1, c2, c3, _⟩ := HS.out
    go_wp2_with fail
    ((with_reducible refine (HC.out _).mono ?_))
    rintro e w0 ⟨rfl, hb⟩
    have hS0 := (HS.out.step hb).drew
    clear hb c0 c1 c2 c3
    go_wp2_with fail
    go_region_held3 (fun x => x.cell? ⟨w.heap.size, 0, none⟩ = some (.int .i64 a) ∧ x.cell? ⟨w.heap.size, 1, none⟩ = some (.int .i64 b) ∧ x.cell? ⟨w.heap.size, 2, none⟩ = some (.int .i64 c) ∧ x.cell? ⟨w.heap.size, 3, none⟩ = some (.int .i64 d) ∧ Below w.heap.size w x)
      (first | exact hS6 | exact hS5 | exact hS4 | exact hS3 | exact hS2 | exact hS1 | exact hS0)
      (first
        | (go_simp; go_at_call 17; ((with_reducible refine (HPl.out _).mono ?_)); (rintro e w1 ⟨rfl, hb⟩; have hS1 := hS0.step hb; clear hb))
        | (go_simp; go_at_call 29; ((with_reducible refine (HSeg.out _).mono ?_)); (rintro e w2 ⟨rfl, hb⟩; have hS2 := hS1.step hb; clear hb))
        | (go_simp; go_at_call 30; ((with_reducible refine (HPg.out _).mono ?_)); (rintro e w3 ⟨rfl, hb⟩; have hS3 := hS2.step hb; clear hb))
        | (go_simp; go_at_call 31; ((with_reducible refine (HPr.out _).mono ?_)); (rintro e w4 ⟨rfl, hb⟩; have hS4 := hS3.step hb; clear hb))
        | (go_simp; go_at_call 28; ((with_reducible refine (HCa.out _).mono ?_)); (rintro e w5 ⟨rfl, hb⟩; have hS5 := hS4.step hb; clear hb))
        | (go_simp; go_at_call 32; ((with_reducible refine (HRc.out _).mono ?_)); (rintro e w6 ⟨rfl, hb⟩; have hS6 := hS5.step hb; clear hb)))
    all_goals
      go_wp2
      go_ret
      exact ⟨rfl, hS6.2.2.2.2⟩
  · have HC := Lib.hid fun x : World => check_bad a b c d x hg
    have HPl := Lib.hid placed_any
    have HCa := Lib.hid fun x : World => capacity_bad a b c d x hg
    clear hg
    go_enter Try.func6, Try.ntmps6
    obtain ⟨c0, c1, c2, c3, _⟩ := HS.out
    go_wp2_with fail
    ((with_reducible refine (HC.out _).mono ?_))
    rintro e w0 ⟨rfl, hb⟩
    have HS0 := Lib.hid (HS.out.step hb)
    clear hb c0 c1 c2 c3
    go_wp2_with fail
    ((with_reducible refine (HPl.out _).mono ?_))
    rintro e w1 ⟨rfl, hb⟩
    have HS1 := Lib.hid (HS0.out.step hb)
    clear hb
    obtain ⟨c0, c1, c2, c3, _⟩ := HS1.out
    go_wp2_with fail
    ((with_reducible refine (HCa.out _).mono ?_))
    rintro e w2 ⟨rfl, hb⟩
    have HS2 := Lib.hid (HS1.out.step hb)
    clear hb c0 c1 c2 c3
    go_wp2
    go_ret
    exact ⟨rfl, HS2.out.2.2.2.2⟩

end Go.Proofs.Ytmggjknljbpbgaa
