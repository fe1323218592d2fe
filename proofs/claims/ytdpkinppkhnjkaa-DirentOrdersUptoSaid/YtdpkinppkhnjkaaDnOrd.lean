/- gabionlaw18.ordered. -/
import Derived.Test.YtdpkinppkhnjkaaDnNames
namespace Go.Proofs.Ytdpkinppkhnjkaa
open Go.RowKit

def ordEx : EntL := [(3, ⟨#[98]⟩), (0, ⟨#[]⟩), (2, ⟨#[97]⟩)]
theorem ordEx_names : nmL ordEx = [⟨#[98]⟩, ⟨#[97]⟩] := rfl
theorem ordEx_lt : lessOf ⟨#[97]⟩ ⟨#[98]⟩ = true := by kernel_rfl
theorem ordEx_sorted {S : List ByteArray} (h : S.Perm (nmL ordEx)) (h2 : S.Pairwise leS) : S = [⟨#[97]⟩, ⟨#[98]⟩] := by
  rw [ordEx_names] at h
  refine srt_one (h.trans (.swap _ _ _)) h2 ?_
  refine .cons (fun x hx => ?_) (.cons (fun x hx => by cases hx) .nil)
  simp only [List.mem_cons, List.not_mem_nil, or_false] at hx
  subst hx
  exact lt_leS ordEx_lt
theorem ordEx_at (Z : World) (g : Nat) (hh : Z.heap[g]? = some (.cells #[.int .u32 3, .string ⟨#[98]⟩, .int .u32 0, .string ⟨#[]⟩, .int .u32 2, .string ⟨#[97]⟩] 26 (0, 0))) : RowD Z (some ⟨g, 0, none⟩) 3 ordEx := by
  refine ⟨rfl, fun x hx => ?_, fun _ => ⟨_, 0, rfl, fun i hi => ?_⟩⟩
  · simp only [ordEx, List.mem_cons, List.not_mem_nil, or_false] at hx
    rcases hx with rfl | rfl | rfl <;> decide
  · rcases (show i = 0 ∨ i = 1 ∨ i = 2 by omega) with rfl | rfl | rfl <;> exact ⟨by simp [World.cell?, hh, ordEx, List.getD], by simp [World.cell?, hh, ordEx, List.getD]⟩
theorem ordEx_row (w : World) : RowD (w.alloc (.cells #[.int .u32 3, .string ⟨#[98]⟩, .int .u32 0, .string ⟨#[]⟩, .int .u32 2, .string ⟨#[97]⟩] 26)) (some ⟨w.heap.size, 0, none⟩) 3 ordEx :=
  ordEx_at _ _ (heap_alloc_new w _)
set_option maxRecDepth 100000 in
set_option maxHeartbeats 1000000 in
theorem ordered_any (w : World) :
    Calls Try.prog 5 #[] w fun e w' => e = .returned (.bool true) ∧ Below w.heap.size w w' := by
  have HC := Lib.hid (names_any _ 3 3 ordEx _ (ordEx_row w) (by omega) (fun x hx => by
    simp only [ordEx, List.mem_cons, List.not_mem_nil, or_false] at hx
    rcases hx with rfl | rfl | rfl <;> decide))
  have HB := Lib.hid (bel_alloc (Below.refl _ w) (.cells #[.int .u32 3, .string ⟨#[98]⟩, .int .u32 0, .string ⟨#[]⟩, .int .u32 2, .string ⟨#[97]⟩] 26))
  go_enter Try.func5, Try.ntmps5
  go_wp2_with fail
  ((with_reducible refine HC.out.mono ?_))
  rintro e w2 ⟨sa, sc, S, rfl, hrs, hp, ho, hb2⟩
  obtain rfl := ordEx_sorted hp ho
  obtain ⟨-, -, -, -, hcell⟩ := hrs
  obtain ⟨b, off, rfl, hc⟩ := hcell (by decide)
  have c0 := hc 0 (by decide)
  have c1 := hc 1 (by decide)
  have HB2 := Lib.hid (bel_trans HB.out hb2)
  clear hc hcell hp ho hb2
  simp only [List.getD, List.getElem?_cons_zero, List.getElem?_cons_succ, Option.getD_some, Nat.add_zero] at c0 c1
  go_wp2_with fail
  go_ret
  exact ⟨rfl, HB2.out⟩
end Go.Proofs.Ytdpkinppkhnjkaa
