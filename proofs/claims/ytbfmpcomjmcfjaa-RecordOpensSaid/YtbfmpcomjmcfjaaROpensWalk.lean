/- RecordOpens: the walk. -/
import Derived.Test.YtbfmpcomjmcfjaaRSealed
import Derived.Test.YtbfmpcomjmcfjaaREqW
import Derived.Test.YtbfmpcomjmcfjaaRFrameB
import Derived.StillTailTactics
namespace Go.Proofs.Ytbfmpcomjmcfjaa
open Go.RowKit

theorem at64' (x : Int) : ∃ r : Nat, wrap64 ((IntKind.u64.wrap x).tmod 64) = (r : Int) ∧ r < 64 := by
  have h0 := wrap_u64_nonneg x
  have e : (IntKind.u64.wrap x).tmod 64 = (IntKind.u64.wrap x) % 64 := Int.tmod_eq_emod_of_nonneg h0
  rw [e]
  generalize IntKind.u64.wrap x = m at *
  refine ⟨(m % 64).toNat, ?_, by omega⟩
  rw [IntWalk.wrap64_in (m % 64) ⟨by omega, by omega⟩]
  omega
theorem row_same {w w' : World} {a : Option Addr} {len : Nat} {bs : List Nat} (h : Row w a len bs) (hk : ∀ x, a = some x → w'.heap[x.block]? = w.heap[x.block]?) : Row w' a len bs := by
  obtain ⟨h1, h2, h3⟩ := h
  refine ⟨h1, h2, fun h0 => ?_⟩
  obtain ⟨b, off, h4, h5⟩ := h3 h0
  have e : w'.heap[b]? = w.heap[b]? := hk _ h4
  refine ⟨b, off, h4, fun i hi => ?_⟩
  have q := h5 i hi
  unfold World.cell? at q ⊢
  rw [e]
  exact q
theorem openH_fits {ds os : List Nat} (ho : ∀ x ∈ os, x < 256) : (openH ds os).Fits := by
  unfold openH
  split
  · rename_i hk
    exact takeH_fits ho (by have := hk.1; omega)
  · exact ⟨by decide, by decide, by decide, by decide, by decide, by decide, by decide⟩
set_option maxRecDepth 100000 in
set_option maxHeartbeats 3200000 in
theorem recordOpens_let (a : Option Addr) (len cap : Nat) (a2 : Option Addr) (len2 cap2 : Nat) (h : RH) (az : Option Addr) (lz cz : Nat) (ac : Option Addr) (lc cc : Nat) (w : World) (hm : len ≤ 9223372036854775807 ∧ len2 ≤ 9223372036854775807 ∧ lz ≤ 9223372036854775807 ∧ lc ≤ 9223372036854775807) (hc : 600 < len ∨ 100 < len2 ∨ 10 < lz ∨ lc < lz) :
    Calls Try.prog 9 #[.agg (#[.slice a len cap, .slice a2 len2 cap2] ++ h.cells ++ #[.slice az lz cz, .slice ac lc cc])] w fun e w' => e = .returned (.bool true) ∧ Below w.heap.size w w' := by
  obtain ⟨m1, m2, m3, m4⟩ := hm
  have e0 : #[.slice a len cap, .slice a2 len2 cap2] ++ h.cells ++ #[.slice az lz cz, .slice ac lc cc] = #[.slice a len cap, .slice a2 len2 cap2, .int .u8 (h.ki : Int), .int .u32 (h.ep : Int), .int .u32 (h.ba : Int), .int .u16 (h.ix : Int), .int .u16 (h.ct : Int), .int .u32 (h.bl : Int), .int .u32 (h.mo : Int), .slice az lz cz, .slice ac lc cc] := rfl
  rw [e0]
  clear e0
  go_enter Try.func9, Try.ntmps9
  go_wp2_with fail
  obtain ⟨W1, hW1⟩ : ∃ W1, W1 = w.alloc (.cells #[.slice a len cap, .slice a2 len2 cap2, .int .u8 (h.ki : Int), .int .u32 (h.ep : Int), .int .u32 (h.ba : Int), .int .u16 (h.ix : Int), .int .u16 (h.ct : Int), .int .u32 (h.bl : Int), .int .u32 (h.mo : Int), .slice az lz cz, .slice ac lc cc] 88) := ⟨_, rfl⟩
  have c0 : W1.cell? ⟨w.heap.size, 0, none⟩ = some (.slice a len cap) := by rw [hW1, World.cell?_alloc_mark w #[.slice a len cap, .slice a2 len2 cap2, .int .u8 (h.ki : Int), .int .u32 (h.ep : Int), .int .u32 (h.ba : Int), .int .u16 (h.ix : Int), .int .u16 (h.ct : Int), .int .u32 (h.bl : Int), .int .u32 (h.mo : Int), .slice az lz cz, .slice ac lc cc] 88 (0, 0)]; rfl
  have c1 : W1.cell? ⟨w.heap.size, 1, none⟩ = some (.slice a2 len2 cap2) := by rw [hW1, World.cell?_alloc_mark w #[.slice a len cap, .slice a2 len2 cap2, .int .u8 (h.ki : Int), .int .u32 (h.ep : Int), .int .u32 (h.ba : Int), .int .u16 (h.ix : Int), .int .u16 (h.ct : Int), .int .u32 (h.bl : Int), .int .u32 (h.mo : Int), .slice az lz cz, .slice ac lc cc] 88 (0, 0)]; rfl
  have c2 : W1.cell? ⟨w.heap.size, 2, none⟩ = some (.int .u8 (h.ki : Int)) := by rw [hW1, World.cell?_alloc_mark w #[.slice a len cap, .slice a2 len2 cap2, .int .u8 (h.ki : Int), .int .u32 (h.ep : Int), .int .u32 (h.ba : Int), .int .u16 (h.ix : Int), .int .u16 (h.ct : Int), .int .u32 (h.bl : Int), .int .u32 (h.mo : Int), .slice az lz cz, .slice ac lc cc] 88 (0, 0)]; rfl
  have c3 : W1.cell? ⟨w.heap.size, 3, none⟩ = some (.int .u32 (h.ep : Int)) := by rw [hW1, World.cell?_alloc_mark w #[.slice a len cap, .slice a2 len2 cap2, .int .u8 (h.ki : Int), .int .u32 (h.ep : Int), .int .u32 (h.ba : Int), .int .u16 (h.ix : Int), .int .u16 (h.ct : Int), .int .u32 (h.bl : Int), .int .u32 (h.mo : Int), .slice az lz cz, .slice ac lc cc] 88 (0, 0)]; rfl
  have c4 : W1.cell? ⟨w.heap.size, 4, none⟩ = some (.int .u32 (h.ba : Int)) := by rw [hW1, World.cell?_alloc_mark w #[.slice a len cap, .slice a2 len2 cap2, .int .u8 (h.ki : Int), .int .u32 (h.ep : Int), .int .u32 (h.ba : Int), .int .u16 (h.ix : Int), .int .u16 (h.ct : Int), .int .u32 (h.bl : Int), .int .u32 (h.mo : Int), .slice az lz cz, .slice ac lc cc] 88 (0, 0)]; rfl
  have c5 : W1.cell? ⟨w.heap.size, 5, none⟩ = some (.int .u16 (h.ix : Int)) := by rw [hW1, World.cell?_alloc_mark w #[.slice a len cap, .slice a2 len2 cap2, .int .u8 (h.ki : Int), .int .u32 (h.ep : Int), .int .u32 (h.ba : Int), .int .u16 (h.ix : Int), .int .u16 (h.ct : Int), .int .u32 (h.bl : Int), .int .u32 (h.mo : Int), .slice az lz cz, .slice ac lc cc] 88 (0, 0)]; rfl
  have c6 : W1.cell? ⟨w.heap.size, 6, none⟩ = some (.int .u16 (h.ct : Int)) := by rw [hW1, World.cell?_alloc_mark w #[.slice a len cap, .slice a2 len2 cap2, .int .u8 (h.ki : Int), .int .u32 (h.ep : Int), .int .u32 (h.ba : Int), .int .u16 (h.ix : Int), .int .u16 (h.ct : Int), .int .u32 (h.bl : Int), .int .u32 (h.mo : Int), .slice az lz cz, .slice ac lc cc] 88 (0, 0)]; rfl
  have c7 : W1.cell? ⟨w.heap.size, 7, none⟩ = some (.int .u32 (h.bl : Int)) := by rw [hW1, World.cell?_alloc_mark w #[.slice a len cap, .slice a2 len2 cap2, .int .u8 (h.ki : Int), .int .u32 (h.ep : Int), .int .u32 (h.ba : Int), .int .u16 (h.ix : Int), .int .u16 (h.ct : Int), .int .u32 (h.bl : Int), .int .u32 (h.mo : Int), .slice az lz cz, .slice ac lc cc] 88 (0, 0)]; rfl
  have c8 : W1.cell? ⟨w.heap.size, 8, none⟩ = some (.int .u32 (h.mo : Int)) := by rw [hW1, World.cell?_alloc_mark w #[.slice a len cap, .slice a2 len2 cap2, .int .u8 (h.ki : Int), .int .u32 (h.ep : Int), .int .u32 (h.ba : Int), .int .u16 (h.ix : Int), .int .u16 (h.ct : Int), .int .u32 (h.bl : Int), .int .u32 (h.mo : Int), .slice az lz cz, .slice ac lc cc] 88 (0, 0)]; rfl
  have c9 : W1.cell? ⟨w.heap.size, 9, none⟩ = some (.slice az lz cz) := by rw [hW1, World.cell?_alloc_mark w #[.slice a len cap, .slice a2 len2 cap2, .int .u8 (h.ki : Int), .int .u32 (h.ep : Int), .int .u32 (h.ba : Int), .int .u16 (h.ix : Int), .int .u16 (h.ct : Int), .int .u32 (h.bl : Int), .int .u32 (h.mo : Int), .slice az lz cz, .slice ac lc cc] 88 (0, 0)]; rfl
  have c10 : W1.cell? ⟨w.heap.size, 10, none⟩ = some (.slice ac lc cc) := by rw [hW1, World.cell?_alloc_mark w #[.slice a len cap, .slice a2 len2 cap2, .int .u8 (h.ki : Int), .int .u32 (h.ep : Int), .int .u32 (h.ba : Int), .int .u16 (h.ix : Int), .int .u16 (h.ct : Int), .int .u32 (h.bl : Int), .int .u32 (h.mo : Int), .slice az lz cz, .slice ac lc cc] 88 (0, 0)]; rfl
  have hb1 : Below w.heap.size w W1 := by rw [hW1]; exact bel_alloc (Below.refl _ w) _
  have hz1 : W1.heap.size = w.heap.size + 1 := by rw [hW1]; simp
  rw [← hW1]
  clear hW1
  have HZ1 := Lib.hid hz1
  have n1 : W1.heap.size ≠ w.heap.size := by omega
  clear hz1
  go_region_held3 (fun w' => w'.cell? ⟨w.heap.size, 0, none⟩ = some (.slice a len cap) ∧ w'.cell? ⟨w.heap.size, 1, none⟩ = some (.slice a2 len2 cap2) ∧ w'.cell? ⟨w.heap.size, 2, none⟩ = some (.int .u8 (h.ki : Int)) ∧ w'.cell? ⟨w.heap.size, 3, none⟩ = some (.int .u32 (h.ep : Int)) ∧ w'.cell? ⟨w.heap.size, 4, none⟩ = some (.int .u32 (h.ba : Int)) ∧ w'.cell? ⟨w.heap.size, 5, none⟩ = some (.int .u16 (h.ix : Int)) ∧ w'.cell? ⟨w.heap.size, 6, none⟩ = some (.int .u16 (h.ct : Int)) ∧ w'.cell? ⟨w.heap.size, 7, none⟩ = some (.int .u32 (h.bl : Int)) ∧ w'.cell? ⟨w.heap.size, 8, none⟩ = some (.int .u32 (h.mo : Int)) ∧ w'.cell? ⟨w.heap.size, 9, none⟩ = some (.slice az lz cz) ∧ w'.cell? ⟨w.heap.size, 10, none⟩ = some (.slice ac lc cc)) (go_keep) (fail)
  obtain ⟨p, hp⟩ : ∃ p, p = W1.heap.size := ⟨_, rfl⟩
  obtain ⟨W2, hW2⟩ : ∃ W2, W2 = (W1.alloc (.cells #[.int .u8 (h.ki : Int), .int .u32 (h.ep : Int), .int .u32 (h.ba : Int), .int .u16 (h.ix : Int), .int .u16 (h.ct : Int), .int .u32 (h.bl : Int), .int .u32 (h.mo : Int)] 86)).drew := ⟨_, rfl⟩
  have hb12 : Below W1.heap.size W1 W2 := by rw [hW2]; exact (bel_alloc (Below.refl _ W1) _).drew
  have hh2 : HdrAt h p W2 := by rw [hW2, hp]; exact hdr_new h W1
  have hz2 : W2.heap.size = p + 1 := by rw [hW2, hp]; show (W1.alloc _).heap.size = _; simp
  have hb2 := bel_trans hb1 hb12
  have hwp : w.heap.size < p := by have := HZ1.out; omega
  rw [← hW2, ← hp]
  clear hW2 hp hb12 hb1 HZ1 n1 c0 c1 c2 c3 c4 c5 c6 c7 c8 c9 c10

  clear hh2 hz2 hwp
  rcases (by omega : 600 < len ∨ (¬ 600 < len ∧ 100 < len2) ∨ (¬ 600 < len ∧ ¬ 100 < len2 ∧ 10 < lz) ∨ (¬ 600 < len ∧ ¬ 100 < len2 ∧ ¬ 10 < lz ∧ lc < lz)) with q1 | ⟨q1, q2⟩ | ⟨q1, q2, q3⟩ | ⟨q1, q2, q3, q4⟩
  · have d1 : decide ((600 : Int) < (len : Int)) = true := decide_eq_true (by omega)
    clear hc q1
    go_wp2_with fail
    refine (sealed_any W2).mono ?_
    rintro e w3 ⟨rfl, hb3⟩
    have hb03 := bel_trans hb2 hb3
    go_wp2
    go_ret
    exact ⟨rfl, hb03⟩
  · have d1 : decide ((600 : Int) < (len : Int)) = false := decide_eq_false (by omega)
    have d2 : decide ((100 : Int) < (len2 : Int)) = true := decide_eq_true (by omega)
    clear hc q1 q2
    go_wp2_with fail
    refine (sealed_any W2).mono ?_
    rintro e w3 ⟨rfl, hb3⟩
    have hb03 := bel_trans hb2 hb3
    go_wp2
    go_ret
    exact ⟨rfl, hb03⟩
  · have d1 : decide ((600 : Int) < (len : Int)) = false := decide_eq_false (by omega)
    have d2 : decide ((100 : Int) < (len2 : Int)) = false := decide_eq_false (by omega)
    have d3 : decide ((10 : Int) < (lz : Int)) = true := decide_eq_true (by omega)
    clear hc q1 q2 q3
    go_wp2_with fail
    refine (sealed_any W2).mono ?_
    rintro e w3 ⟨rfl, hb3⟩
    have hb03 := bel_trans hb2 hb3
    go_wp2
    go_ret
    exact ⟨rfl, hb03⟩
  · have d1 : decide ((600 : Int) < (len : Int)) = false := decide_eq_false (by omega)
    have d2 : decide ((100 : Int) < (len2 : Int)) = false := decide_eq_false (by omega)
    have d3 : decide ((10 : Int) < (lz : Int)) = false := decide_eq_false (by omega)
    have d4 : decide (lc < lz) = true := decide_eq_true (by omega)
    clear hc q1 q2 q3 q4
    go_wp2_with fail
    refine (sealed_any W2).mono ?_
    rintro e w3 ⟨rfl, hb3⟩
    have hb03 := bel_trans hb2 hb3
    go_wp2
    go_ret
    exact ⟨rfl, hb03⟩
set_option maxRecDepth 100000 in
set_option maxHeartbeats 6400000 in
theorem recordOpens_main (a : Option Addr) (len cap : Nat) (ds : List Nat) (a2 : Option Addr) (len2 cap2 : Nat) (os : List Nat) (h : RH) (az : Option Addr) (lz cz : Nat) (zs : List Int) (ac : Option Addr) (lc cc : Nat) (cs : List Nat) (w : World) (hin : InB w a len cap ds) (hin2 : InB w a2 len2 cap2 os) (hf : h.Fits) (hz : RowZ w az lz cz zs) (hinc : InB w ac lc cc cs) (q1 : len ≤ 600) (q2 : len2 ≤ 100) (q3 : lz ≤ 10) (q4 : lz ≤ lc) :
    Calls Try.prog 9 #[.agg (#[.slice a len cap, .slice a2 len2 cap2] ++ h.cells ++ #[.slice az lz cz, .slice ac lc cc])] w fun e w' => e = .returned (.bool true) ∧ Below w.heap.size w w' := by
  obtain ⟨hr, hlc, hcm, hn⟩ := hin
  obtain ⟨hr2, hlc2, hcm2, hn2⟩ := hin2
  obtain ⟨hrc, hlcc, hccm, hnc⟩ := hinc
  have hcm_ := hcm2
  unfold maxLen at hcm hcm2 hccm
  have e0 : #[.slice a len cap, .slice a2 len2 cap2] ++ h.cells ++ #[.slice az lz cz, .slice ac lc cc] = #[.slice a len cap, .slice a2 len2 cap2, .int .u8 (h.ki : Int), .int .u32 (h.ep : Int), .int .u32 (h.ba : Int), .int .u16 (h.ix : Int), .int .u16 (h.ct : Int), .int .u32 (h.bl : Int), .int .u32 (h.mo : Int), .slice az lz cz, .slice ac lc cc] := rfl
  rw [e0]
  clear e0
  go_enter Try.func9, Try.ntmps9
  go_wp2_with fail
  obtain ⟨W1, hW1⟩ : ∃ W1, W1 = w.alloc (.cells #[.slice a len cap, .slice a2 len2 cap2, .int .u8 (h.ki : Int), .int .u32 (h.ep : Int), .int .u32 (h.ba : Int), .int .u16 (h.ix : Int), .int .u16 (h.ct : Int), .int .u32 (h.bl : Int), .int .u32 (h.mo : Int), .slice az lz cz, .slice ac lc cc] 88) := ⟨_, rfl⟩
  have c0 : W1.cell? ⟨w.heap.size, 0, none⟩ = some (.slice a len cap) := by rw [hW1, World.cell?_alloc_mark w #[.slice a len cap, .slice a2 len2 cap2, .int .u8 (h.ki : Int), .int .u32 (h.ep : Int), .int .u32 (h.ba : Int), .int .u16 (h.ix : Int), .int .u16 (h.ct : Int), .int .u32 (h.bl : Int), .int .u32 (h.mo : Int), .slice az lz cz, .slice ac lc cc] 88 (0, 0)]; rfl
  have c1 : W1.cell? ⟨w.heap.size, 1, none⟩ = some (.slice a2 len2 cap2) := by rw [hW1, World.cell?_alloc_mark w #[.slice a len cap, .slice a2 len2 cap2, .int .u8 (h.ki : Int), .int .u32 (h.ep : Int), .int .u32 (h.ba : Int), .int .u16 (h.ix : Int), .int .u16 (h.ct : Int), .int .u32 (h.bl : Int), .int .u32 (h.mo : Int), .slice az lz cz, .slice ac lc cc] 88 (0, 0)]; rfl
  have c2 : W1.cell? ⟨w.heap.size, 2, none⟩ = some (.int .u8 (h.ki : Int)) := by rw [hW1, World.cell?_alloc_mark w #[.slice a len cap, .slice a2 len2 cap2, .int .u8 (h.ki : Int), .int .u32 (h.ep : Int), .int .u32 (h.ba : Int), .int .u16 (h.ix : Int), .int .u16 (h.ct : Int), .int .u32 (h.bl : Int), .int .u32 (h.mo : Int), .slice az lz cz, .slice ac lc cc] 88 (0, 0)]; rfl
  have c3 : W1.cell? ⟨w.heap.size, 3, none⟩ = some (.int .u32 (h.ep : Int)) := by rw [hW1, World.cell?_alloc_mark w #[.slice a len cap, .slice a2 len2 cap2, .int .u8 (h.ki : Int), .int .u32 (h.ep : Int), .int .u32 (h.ba : Int), .int .u16 (h.ix : Int), .int .u16 (h.ct : Int), .int .u32 (h.bl : Int), .int .u32 (h.mo : Int), .slice az lz cz, .slice ac lc cc] 88 (0, 0)]; rfl
  have c4 : W1.cell? ⟨w.heap.size, 4, none⟩ = some (.int .u32 (h.ba : Int)) := by rw [hW1, World.cell?_alloc_mark w #[.slice a len cap, .slice a2 len2 cap2, .int .u8 (h.ki : Int), .int .u32 (h.ep : Int), .int .u32 (h.ba : Int), .int .u16 (h.ix : Int), .int .u16 (h.ct : Int), .int .u32 (h.bl : Int), .int .u32 (h.mo : Int), .slice az lz cz, .slice ac lc cc] 88 (0, 0)]; rfl
  have c5 : W1.cell? ⟨w.heap.size, 5, none⟩ = some (.int .u16 (h.ix : Int)) := by rw [hW1, World.cell?_alloc_mark w #[.slice a len cap, .slice a2 len2 cap2, .int .u8 (h.ki : Int), .int .u32 (h.ep : Int), .int .u32 (h.ba : Int), .int .u16 (h.ix : Int), .int .u16 (h.ct : Int), .int .u32 (h.bl : Int), .int .u32 (h.mo : Int), .slice az lz cz, .slice ac lc cc] 88 (0, 0)]; rfl
  have c6 : W1.cell? ⟨w.heap.size, 6, none⟩ = some (.int .u16 (h.ct : Int)) := by rw [hW1, World.cell?_alloc_mark w #[.slice a len cap, .slice a2 len2 cap2, .int .u8 (h.ki : Int), .int .u32 (h.ep : Int), .int .u32 (h.ba : Int), .int .u16 (h.ix : Int), .int .u16 (h.ct : Int), .int .u32 (h.bl : Int), .int .u32 (h.mo : Int), .slice az lz cz, .slice ac lc cc] 88 (0, 0)]; rfl
  have c7 : W1.cell? ⟨w.heap.size, 7, none⟩ = some (.int .u32 (h.bl : Int)) := by rw [hW1, World.cell?_alloc_mark w #[.slice a len cap, .slice a2 len2 cap2, .int .u8 (h.ki : Int), .int .u32 (h.ep : Int), .int .u32 (h.ba : Int), .int .u16 (h.ix : Int), .int .u16 (h.ct : Int), .int .u32 (h.bl : Int), .int .u32 (h.mo : Int), .slice az lz cz, .slice ac lc cc] 88 (0, 0)]; rfl
  have c8 : W1.cell? ⟨w.heap.size, 8, none⟩ = some (.int .u32 (h.mo : Int)) := by rw [hW1, World.cell?_alloc_mark w #[.slice a len cap, .slice a2 len2 cap2, .int .u8 (h.ki : Int), .int .u32 (h.ep : Int), .int .u32 (h.ba : Int), .int .u16 (h.ix : Int), .int .u16 (h.ct : Int), .int .u32 (h.bl : Int), .int .u32 (h.mo : Int), .slice az lz cz, .slice ac lc cc] 88 (0, 0)]; rfl
  have c9 : W1.cell? ⟨w.heap.size, 9, none⟩ = some (.slice az lz cz) := by rw [hW1, World.cell?_alloc_mark w #[.slice a len cap, .slice a2 len2 cap2, .int .u8 (h.ki : Int), .int .u32 (h.ep : Int), .int .u32 (h.ba : Int), .int .u16 (h.ix : Int), .int .u16 (h.ct : Int), .int .u32 (h.bl : Int), .int .u32 (h.mo : Int), .slice az lz cz, .slice ac lc cc] 88 (0, 0)]; rfl
  have c10 : W1.cell? ⟨w.heap.size, 10, none⟩ = some (.slice ac lc cc) := by rw [hW1, World.cell?_alloc_mark w #[.slice a len cap, .slice a2 len2 cap2, .int .u8 (h.ki : Int), .int .u32 (h.ep : Int), .int .u32 (h.ba : Int), .int .u16 (h.ix : Int), .int .u16 (h.ct : Int), .int .u32 (h.bl : Int), .int .u32 (h.mo : Int), .slice az lz cz, .slice ac lc cc] 88 (0, 0)]; rfl
  have hb1 : Below w.heap.size w W1 := by rw [hW1]; exact bel_alloc (Below.refl _ w) _
  have hz1 : W1.heap.size = w.heap.size + 1 := by rw [hW1]; simp
  rw [← hW1]
  clear hW1
  have HZ1 := Lib.hid hz1
  have n1 : W1.heap.size ≠ w.heap.size := by omega
  clear hz1
  go_region_held3 (fun w' => w'.cell? ⟨w.heap.size, 0, none⟩ = some (.slice a len cap) ∧ w'.cell? ⟨w.heap.size, 1, none⟩ = some (.slice a2 len2 cap2) ∧ w'.cell? ⟨w.heap.size, 2, none⟩ = some (.int .u8 (h.ki : Int)) ∧ w'.cell? ⟨w.heap.size, 3, none⟩ = some (.int .u32 (h.ep : Int)) ∧ w'.cell? ⟨w.heap.size, 4, none⟩ = some (.int .u32 (h.ba : Int)) ∧ w'.cell? ⟨w.heap.size, 5, none⟩ = some (.int .u16 (h.ix : Int)) ∧ w'.cell? ⟨w.heap.size, 6, none⟩ = some (.int .u16 (h.ct : Int)) ∧ w'.cell? ⟨w.heap.size, 7, none⟩ = some (.int .u32 (h.bl : Int)) ∧ w'.cell? ⟨w.heap.size, 8, none⟩ = some (.int .u32 (h.mo : Int)) ∧ w'.cell? ⟨w.heap.size, 9, none⟩ = some (.slice az lz cz) ∧ w'.cell? ⟨w.heap.size, 10, none⟩ = some (.slice ac lc cc)) (go_keep) (fail)
  obtain ⟨p, hp⟩ : ∃ p, p = W1.heap.size := ⟨_, rfl⟩
  obtain ⟨W2, hW2⟩ : ∃ W2, W2 = (W1.alloc (.cells #[.int .u8 (h.ki : Int), .int .u32 (h.ep : Int), .int .u32 (h.ba : Int), .int .u16 (h.ix : Int), .int .u16 (h.ct : Int), .int .u32 (h.bl : Int), .int .u32 (h.mo : Int)] 86)).drew := ⟨_, rfl⟩
  have hb12 : Below W1.heap.size W1 W2 := by rw [hW2]; exact (bel_alloc (Below.refl _ W1) _).drew
  have hh2 : HdrAt h p W2 := by rw [hW2, hp]; exact hdr_new h W1
  have hz2 : W2.heap.size = p + 1 := by rw [hW2, hp]; show (W1.alloc _).heap.size = _; simp
  have hb2 := bel_trans hb1 hb12
  have hwp : w.heap.size < p := by have := HZ1.out; omega
  rw [← hW2, ← hp]
  clear hW2 hp hb12 hb1 HZ1 n1 c0 c1 c2 c3 c4 c5 c6 c7 c8 c9 c10

  have d1 : decide ((600 : Int) < (len : Int)) = false := decide_eq_false (by omega)
  have d2 : decide ((100 : Int) < (len2 : Int)) = false := decide_eq_false (by omega)
  have d3 : decide ((10 : Int) < (lz : Int)) = false := decide_eq_false (by omega)
  have d4 : decide (lc < lz) = false := decide_eq_false (by omega)
  go_wp2_with fail
  refine (open_any a len cap ds a2 len2 cap2 os W2 (row_keep hr hb2 (Nat.le_refl _)) (by omega) (row_keep hr2 hb2 (Nat.le_refl _)) hlc2 hcm_).mono ?_
  rintro e w3 ⟨rfl, hb3⟩
  have hh3 := hh2.below hb3 (by omega)
  have hb03 := bel_trans hb2 hb3
  have hz3 : p < w3.heap.size := by have := hb3.size; omega
  clear hh2 hb2 hb3 hz2 d1 d2 d3 d4
  have hXf : (openH ds os).Fits := openH_fits hr2.2.1
  obtain ⟨X, hX⟩ : ∃ X, openH ds os = X := ⟨_, rfl⟩
  obtain ⟨D, hD⟩ : ∃ D, decide (OpenOk ds os) = D := ⟨_, rfl⟩
  have HO2 : Hid (∀ w0, Row w0 a len ds → Row w0 a2 len2 os → Calls Try.prog 44 #[.slice a len cap, .slice a2 len2 cap2] w0 fun e w' => e = .returned (.tuple #[.agg #[.int .i64 (X.ki : Int), .int .i64 (X.ep : Int), .int .i64 (X.ba : Int), .int .i64 (X.ix : Int), .int .i64 (X.ct : Int), .int .i64 (X.bl : Int), .int .i64 (X.mo : Int)], .bool D]) ∧ Below w0.heap.size w0 w') := Lib.hid fun w0 p1 p2 => by
    have q := refOpen_any a len cap ds a2 len2 cap2 os w0 p1 (by omega) hn p2 hlc2 hcm_
    rw [hX, hD] at q
    exact q
  rw [hX] at hXf
  rw [hX, hD]
  clear hX hD
  have hx4 := hdr_new X w3
  unfold RH.cells
  obtain ⟨W4, hW4⟩ : ∃ W4, W4 = w3.alloc (.cells #[.int .u8 (X.ki : Int), .int .u32 (X.ep : Int), .int .u32 (X.ba : Int), .int .u16 (X.ix : Int), .int .u16 (X.ct : Int), .int .u32 (X.bl : Int), .int .u32 (X.mo : Int)] 86) := ⟨_, rfl⟩
  have hb34 : Below w3.heap.size w3 W4 := by rw [hW4]; exact bel_alloc (Below.refl _ w3) _
  have hz4 : W4.heap.size = w3.heap.size + 1 := by rw [hW4]; simp
  have hX4h : W4.heap[w3.heap.size]? = some (.cells X.cells 86 (0, 0)) := by rw [hW4]; exact heap_alloc_new w3 _
  rw [← hW4] at hx4
  have hh4 := hh3.below hb34 hz3
  have hb04 := bel_trans hb03 hb34
  have HW4 := Lib.hid hW4
  obtain ⟨px, hpx⟩ : ∃ px, px = w3.heap.size := ⟨_, rfl⟩
  rw [← hpx] at hx4 hz4 hz3 hX4h
  clear hh3 hb03 hb34 hW4
  go_wp2_with fail
  rw [← HW4.out, ← hpx]
  refine (HO2.out W4 (row_keep hr hb04 (Nat.le_refl _)) (row_keep hr2 hb04 (Nat.le_refl _))).mono ?_
  rintro e w5 ⟨rfl, hb5⟩
  have hh5 := hh4.below hb5 (by omega)
  have hx5 := hx4.below hb5 (by omega)
  have hX5h : w5.heap[px]? = some (.cells X.cells 86 (0, 0)) := by rw [hb5.block px (by omega)]; exact hX4h
  have hb05 := bel_trans hb04 hb5
  have hz5 : px < w5.heap.size := by have := hb5.size; omega
  clear hh4 hx4 hb04 hb5 HO2 hpx HW4 hz4
  have hw6 := wide_new X w5
  obtain ⟨W6, hW6⟩ : ∃ W6, W6 = w5.alloc (.cells #[.int .i64 (X.ki : Int), .int .i64 (X.ep : Int), .int .i64 (X.ba : Int), .int .i64 (X.ix : Int), .int .i64 (X.ct : Int), .int .i64 (X.bl : Int), .int .i64 (X.mo : Int)] 92) := ⟨_, rfl⟩
  have hb56 : Below w5.heap.size w5 W6 := by rw [hW6]; exact bel_alloc (Below.refl _ w5) _
  have hz6 : W6.heap.size = w5.heap.size + 1 := by rw [hW6]; simp
  have hY6h : W6.heap[w5.heap.size]? = some (.cells X.wide 92 (0, 0)) := by rw [hW6]; exact heap_alloc_new w5 _
  have hX6h : W6.heap[px]? = some (.cells X.cells 86 (0, 0)) := by rw [hb56.block px hz5]; exact hX5h
  rw [← hW6] at hw6
  have hh6 := hh5.below hb56 (by omega)
  have hx6 := hx5.below hb56 hz5
  have hb06 := bel_trans hb05 hb56
  have HW6 := Lib.hid hW6
  obtain ⟨py, hpy⟩ : ∃ py, py = w5.heap.size := ⟨_, rfl⟩
  rw [← hpy] at hw6 hz6 hz5 hY6h
  clear hh5 hx5 hb05 hb56 hW6
  have hq := fun w => neq_of_eql (eql_wide X X w)
  simp only [eqH_self, Bool.not_true] at hq
  unfold RH.wide at hq
  have hdd : (D != D) = false := by cases D <;> rfl
  have HLO : Hid (∀ w0, Calls Try.prog 45 #[.agg #[.int .u8 (X.ki : Int), .int .u32 (X.ep : Int), .int .u32 (X.ba : Int), .int .u16 (X.ix : Int), .int .u16 (X.ct : Int), .int .u32 (X.bl : Int), .int .u32 (X.mo : Int)]] w0 fun e w' => e = .returned (.agg #[.int .i64 (X.ki : Int), .int .i64 (X.ep : Int), .int .i64 (X.ba : Int), .int .i64 (X.ix : Int), .int .i64 (X.ct : Int), .int .i64 (X.bl : Int), .int .i64 (X.mo : Int)]) ∧ Below w0.heap.size w0 w') := Lib.hid fun w0 => lawOf_any X hXf w0
  have HX6 : Hid (∀ wx, Below W6.heap.size W6 wx → HdrAt X px wx ∧ WideAt X py wx) := Lib.hid fun wx hb => ⟨hx6.below hb (by omega), hw6.below hb (by omega)⟩
  have HXH : Hid (∀ wx, Below W6.heap.size W6 wx → wx.heap[px]? = some (.cells X.cells 86 (0, 0)) ∧ wx.heap[py]? = some (.cells X.wide 92 (0, 0))) := Lib.hid fun wx hb => ⟨by rw [hb.block px (by omega)]; exact hX6h, by rw [hb.block py (by omega)]; exact hY6h⟩
  go_upto_region 6 with fail
  rw [← HW6.out, ← hpy]
  clear hpy
  go_cut [69] (fun s69 wx => s69 = .bool false ∧ Below W6.heap.size W6 wx)
  case first =>
    obtain ⟨⟨x0, x1, x2, x3, x4, x5, x6⟩, y0, y1, y2, y3, y4, y5, y6⟩ := HX6.out W6 (Below.refl _ _)
    have hbd : Below W6.heap.size W6 W6.drew := (Below.refl _ W6).drew
    go_region_held3 (fun w' => w'.cell? ⟨px, 0, none⟩ = some (.int .u8 (X.ki : Int)) ∧ w'.cell? ⟨px, 1, none⟩ = some (.int .u32 (X.ep : Int)) ∧ w'.cell? ⟨px, 2, none⟩ = some (.int .u32 (X.ba : Int)) ∧ w'.cell? ⟨px, 3, none⟩ = some (.int .u16 (X.ix : Int)) ∧ w'.cell? ⟨px, 4, none⟩ = some (.int .u16 (X.ct : Int)) ∧ w'.cell? ⟨px, 5, none⟩ = some (.int .u32 (X.bl : Int)) ∧ w'.cell? ⟨px, 6, none⟩ = some (.int .u32 (X.mo : Int)) ∧ w'.cell? ⟨py, 0, none⟩ = some (.int .i64 (X.ki : Int)) ∧ w'.cell? ⟨py, 1, none⟩ = some (.int .i64 (X.ep : Int)) ∧ w'.cell? ⟨py, 2, none⟩ = some (.int .i64 (X.ba : Int)) ∧ w'.cell? ⟨py, 3, none⟩ = some (.int .i64 (X.ix : Int)) ∧ w'.cell? ⟨py, 4, none⟩ = some (.int .i64 (X.ct : Int)) ∧ w'.cell? ⟨py, 5, none⟩ = some (.int .i64 (X.bl : Int)) ∧ w'.cell? ⟨py, 6, none⟩ = some (.int .i64 (X.mo : Int))) (first | exact (by obtain ⟨⟨x0, x1, x2, x3, x4, x5, x6⟩, y0, y1, y2, y3, y4, y5, y6⟩ := HX6.out _ hbs; exact ⟨x0, x1, x2, x3, x4, x5, x6, y0, y1, y2, y3, y4, y5, y6⟩) | exact (by obtain ⟨⟨x0, x1, x2, x3, x4, x5, x6⟩, y0, y1, y2, y3, y4, y5, y6⟩ := HX6.out _ hbt; exact ⟨x0, x1, x2, x3, x4, x5, x6, y0, y1, y2, y3, y4, y5, y6⟩) | go_keep)
      (first
        | (go_simp; go_at_call 42; ((with_reducible refine (sealed_any _).mono ?_)); (rintro e w7 ⟨rfl, hb7⟩; have hbs := hbd.trans hb7))
        | (go_simp; go_at_call 45; ((with_reducible refine (HLO.out _).mono ?_)); (rintro e w8 ⟨rfl, hb8⟩; have hbt := bel_trans hbs hb8)))
    all_goals (go_wp2_with fail; go_meet; exact ⟨rfl, hbt⟩)
  case rest =>
  obtain ⟨rfl, hb6c⟩ := hcut
  have HB6C := Lib.hid hb6c
  have hb07 := bel_trans hb06 hb6c
  have hh7 := hh6.below hb6c (by omega)
  have hz7 := hb6c.size
  have HPX := Lib.hid (show w.heap.size ≤ px ∧ px < W6.heap.size ∧ w.heap.size ≤ py ∧ py < W6.heap.size ∧ px ≠ py by omega)
  clear hh6 hx6 hw6 hb06 hb6c hX6h hY6h hX5h hX4h
  obtain ⟨c0, c1, c2, c3, c4, c5, c6⟩ := hh7
  have hseal := seal_any h hf a len cap ds none 0 0 [] wc (row_keep hr hb07 (Nat.le_refl _)) (by omega) ⟨rfl, (fun x hx => by cases hx), fun h => by omega⟩ (by omega) (by unfold maxLen; omega) (fun _ => rfl) (by omega)
  unfold RH.cells at hseal
  go_wp2_with fail
  refine hseal.mono ?_
  rintro e w8 ⟨sv, rfl, ho8, hb8⟩
  obtain ⟨g, gc, rfl, hg0, hg1, hB8, _⟩ := ownB_of ho8 (by rw [sealB_len]; omega)
  rw [sealB_len] at hB8 ⊢
  have hgl : 64 ≤ gc ∧ gc ≤ 9223372036854775807 := by
    have h9 := hB8.1
    rcases h9.1.2 with ⟨e, _⟩ | ⟨g', cap', cur, e, _, _, q1, q2, _⟩
    · cases e
    · simp only [Value.slice.injEq] at e
      obtain ⟨_, _, rfl⟩ := e
      rw [sealB_len] at q1
      unfold maxLen at q2
      exact ⟨q1, q2⟩
  have HBL : Hid (∀ wr, Below wc.heap.size w8 wr → Below w.heap.size w wr ∧ Below W6.heap.size W6 wr) := Lib.hid fun wr hbr => ⟨hb07.trans ((hb8.trans hbr).mono hb07.size), HB6C.out.trans ((hb8.trans hbr).mono hz7)⟩
  have hbr8 : Below wc.heap.size w8 w8 := Below.refl _ _
  have HG0 := Lib.hid hg0
  clear hseal ho8 hb8 c0 c1 c2 c3 c4 c5 c6 hb07 HB6C hg1 hq hdd hg0
  obtain ⟨l0, hl0⟩ : ∃ l0, sealB h ds [] = l0 := ⟨_, rfl⟩
  rw [hl0] at hB8
  clear hl0
  go_wp2
  go_loopw [13] (fun i wr => ∃ (k : Nat) (l : List Nat), k ≤ lz ∧ i = .int .i64 (k : Int) ∧ OwnB wc.heap.size wr g 64 gc l ∧ Below wc.heap.size w8 wr) (fun i _ => lz - (intOf i).toNat)
  case atStart => exact ⟨0, l0, by omega, rfl, hB8, hbr8⟩
  case round =>
    obtain ⟨k, l, hk, rfl, hN, hbr⟩ := hrel
    clear hB8 hbr8
    by_cases hlt : k < lz
    · obtain ⟨hbw, _⟩ := HBL.out wr hbr
      obtain ⟨bz, oz, haz, hcz⟩ := (rowZ_below hz hbw).2.2.2.2.2 (by omega)
      subst haz
      have hz1 := hcz k hlt
      obtain ⟨z, hze⟩ : ∃ z, zs.getD k 0 = z := ⟨_, rfl⟩
      rw [hze] at hz1
      obtain ⟨bc, oc, y, hac, hcy, hy, _⟩ := row_cell (row_keep hrc hbw (Nat.le_refl _)) (show k < lc by omega)
      subst hac
      obtain ⟨r, hrr, hr64⟩ := at64' z
      have hrr2 : IntKind.i64.wrap ((IntKind.u64.wrap z).tmod 64) = (r : Int) := by rw [IntWalk.i64_left]; exact hrr
      have k0 : (0 : Int) ≤ (k : Int) := by omega
      have k1 : (k : Int) < (lz : Int) := by omega
      have k2 : (k : Int) < (lc : Int) := by omega
      have r0 : (0 : Int) ≤ (r : Int) := by omega
      have r1 : (r : Int) < 64 := by omega
      have hcr := ownB_cell hN r hr64
      have hfr := ownB_frozen hN r
      have HN2 := Lib.hid (ownB_set hN r y hy)
      have HBR := Lib.hid (hbr.setCell (p := ⟨g, r, none⟩) HG0.out (.int .u8 (y : Int)))
      have hcc9 : lc ≤ 9223372036854775807 := by omega
      have hcz9 : lz ≤ 9223372036854775807 := by omega
      clear hbw hcz hze hN hbr
      go_wp2
      go_still_tail 13, (by kernel_rfl)
      go_wp2
      go_roundw
      case rel => exact ⟨k + 1, l.set r y, by omega, by go_num, HN2.out, HBR.out.drew⟩
      case measure => simp [intOf]; omega
    · have hkl : lz = k := by omega
      subst hkl
      have hge : ¬ ((lz : Int) < (lz : Int)) := by omega
      obtain ⟨hbw, hbx⟩ := HBL.out wr hbr
      have hrl := row_ownB hN
      have hdr1 := row_keep hr hbw (Nat.le_refl _)
      have HGL := Lib.hid hgl
      clear hgl hbr hN
      go_wp2_with fail
      refine (open_any a len cap ds (some ⟨g, 0, none⟩) 64 gc l wr hdr1 (by omega) hrl HGL.out.1 (by unfold maxLen; have := HGL.out.2; omega)).mono ?_
      rintro e w9 ⟨rfl, hb9⟩
      have hZf : (openH ds l).Fits := openH_fits hrl.2.1
      have hrl9 := row_keep hrl hb9 (Nat.le_refl _)
      have hdr9 := row_keep hdr1 hb9 (Nat.le_refl _)
      have hb09 := bel_trans hbw hb9
      have hbx9 := bel_trans hbx hb9
      obtain ⟨hX9, hY9⟩ := HXH.out w9 hbx9
      clear hdr1 hrl hbw hbx hb9
      obtain ⟨Z, hZ⟩ : ∃ Z, openH ds l = Z := ⟨_, rfl⟩
      obtain ⟨E, hE⟩ : ∃ E, decide (OpenOk ds l) = E := ⟨_, rfl⟩
      have HO3 : Hid (∀ w0, Row w0 a len ds → Row w0 (some ⟨g, 0, none⟩) 64 l → Calls Try.prog 44 #[.slice a len cap, .slice (some ⟨g, 0, none⟩) 64 gc] w0 fun e w' => e = .returned (.tuple #[.agg #[.int .i64 (Z.ki : Int), .int .i64 (Z.ep : Int), .int .i64 (Z.ba : Int), .int .i64 (Z.ix : Int), .int .i64 (Z.ct : Int), .int .i64 (Z.bl : Int), .int .i64 (Z.mo : Int)], .bool E]) ∧ Below w0.heap.size w0 w') := Lib.hid fun w0 p1 p2 => by
        have q := refOpen_any a len cap ds (some ⟨g, 0, none⟩) 64 gc l w0 p1 (by omega) hn p2 HGL.out.1 (by unfold maxLen; have := HGL.out.2; omega)
        rw [hZ, hE] at q
        exact q
      rw [hZ] at hZf
      rw [hZ, hE]
      clear hZ hE
      unfold RH.cells
      have hS9 := store_hdr Z hX9
      obtain ⟨⟨d0, d1, d2, d3, d4, d5, d6⟩, _⟩ := HX6.out w9 hbx9
      have f0 : w9.frozen? ⟨px, 0, none⟩ = false := by simp [World.frozen?, hX9]
      have f1 : w9.frozen? ⟨px, 1, none⟩ = false := by simp [World.frozen?, hX9]
      have f2 : w9.frozen? ⟨px, 2, none⟩ = false := by simp [World.frozen?, hX9]
      have f3 : w9.frozen? ⟨px, 3, none⟩ = false := by simp [World.frozen?, hX9]
      have f4 : w9.frozen? ⟨px, 4, none⟩ = false := by simp [World.frozen?, hX9]
      have f5 : w9.frozen? ⟨px, 5, none⟩ = false := by simp [World.frozen?, hX9]
      have f6 : w9.frozen? ⟨px, 6, none⟩ = false := by simp [World.frozen?, hX9]
      go_wp2_with fail
      obtain ⟨V, hV⟩ : ∃ V, V = (((((((w9.setCell ⟨px, 0, none⟩ (.int .u8 (Z.ki : Int))).setCell ⟨px, 1, none⟩ (.int .u32 (Z.ep : Int))).setCell ⟨px, 2, none⟩ (.int .u32 (Z.ba : Int))).setCell ⟨px, 3, none⟩ (.int .u16 (Z.ix : Int))).setCell ⟨px, 4, none⟩ (.int .u16 (Z.ct : Int))).setCell ⟨px, 5, none⟩ (.int .u32 (Z.bl : Int))).setCell ⟨px, 6, none⟩ (.int .u32 (Z.mo : Int))) := ⟨_, rfl⟩
      rw [← hV]
      rw [← hV] at hS9
      have hb0V : Below w.heap.size w V := by rw [hV]; exact (((((((hb09.setCell (p := ⟨px, 0, none⟩) HPX.out.1 (.int .u8 (Z.ki : Int))).setCell (p := ⟨px, 1, none⟩) HPX.out.1 (.int .u32 (Z.ep : Int))).setCell (p := ⟨px, 2, none⟩) HPX.out.1 (.int .u32 (Z.ba : Int))).setCell (p := ⟨px, 3, none⟩) HPX.out.1 (.int .u16 (Z.ix : Int))).setCell (p := ⟨px, 4, none⟩) HPX.out.1 (.int .u16 (Z.ct : Int))).setCell (p := ⟨px, 5, none⟩) HPX.out.1 (.int .u32 (Z.bl : Int))).setCell (p := ⟨px, 6, none⟩) HPX.out.1 (.int .u32 (Z.mo : Int)))
      have hzV : V.heap.size = w9.heap.size := by rw [hV]; simp [World.setCell]
      clear hV d0 d1 d2 d3 d4 d5 d6 f0 f1 f2 f3 f4 f5 f6 hb09
      obtain ⟨hVx, hVk⟩ := hS9
      have hgx : g ≠ px := by have := HG0.out; have := HPX.out.2.1; omega
      have hyV : py < V.heap.size ∧ px < V.heap.size := by have := HPX.out.2.1; have := HPX.out.2.2.2.1; have := hbx9.size; omega
      have hrV : Row V (some ⟨g, 0, none⟩) 64 l := row_same hrl9 (fun x hx => by cases hx; exact hVk g hgx)
      have hdV := row_keep hr hb0V (Nat.le_refl _)
      refine (HO3.out V hdV hrV).mono ?_
      rintro e w10 ⟨rfl, hb10⟩
      have hX10 : w10.heap[px]? = some (.cells Z.cells 86 (0, 0)) := by rw [hb10.block px hyV.2]; exact hVx
      have hY10 : w10.heap[py]? = some (.cells X.wide 92 (0, 0)) := by rw [hb10.block py hyV.1, hVk py (fun e => HPX.out.2.2.2.2 e.symm)]; exact hY9
      have hb010 := bel_trans hb0V hb10
      clear hb0V hb10 hrV hdV hVx hVk hX9 hY9 hrl9 hdr9 hbx9 hgx hyV hzV HO3
      have d0 : w10.cell? ⟨py, 0, none⟩ = some (.int .i64 (X.ki : Int)) := by simp [World.cell?, hY10, RH.wide]
      have f0 : w10.frozen? ⟨py, 0, none⟩ = false := by simp [World.frozen?, hY10]
      have d1 : w10.cell? ⟨py, 1, none⟩ = some (.int .i64 (X.ep : Int)) := by simp [World.cell?, hY10, RH.wide]
      have f1 : w10.frozen? ⟨py, 1, none⟩ = false := by simp [World.frozen?, hY10]
      have d2 : w10.cell? ⟨py, 2, none⟩ = some (.int .i64 (X.ba : Int)) := by simp [World.cell?, hY10, RH.wide]
      have f2 : w10.frozen? ⟨py, 2, none⟩ = false := by simp [World.frozen?, hY10]
      have d3 : w10.cell? ⟨py, 3, none⟩ = some (.int .i64 (X.ix : Int)) := by simp [World.cell?, hY10, RH.wide]
      have f3 : w10.frozen? ⟨py, 3, none⟩ = false := by simp [World.frozen?, hY10]
      have d4 : w10.cell? ⟨py, 4, none⟩ = some (.int .i64 (X.ct : Int)) := by simp [World.cell?, hY10, RH.wide]
      have f4 : w10.frozen? ⟨py, 4, none⟩ = false := by simp [World.frozen?, hY10]
      have d5 : w10.cell? ⟨py, 5, none⟩ = some (.int .i64 (X.bl : Int)) := by simp [World.cell?, hY10, RH.wide]
      have f5 : w10.frozen? ⟨py, 5, none⟩ = false := by simp [World.frozen?, hY10]
      have d6 : w10.cell? ⟨py, 6, none⟩ = some (.int .i64 (X.mo : Int)) := by simp [World.cell?, hY10, RH.wide]
      have f6 : w10.frozen? ⟨py, 6, none⟩ = false := by simp [World.frozen?, hY10]
      have hS10 := store_wide Z hY10
      go_wp2_with fail
      obtain ⟨V2, hV2⟩ : ∃ V2, V2 = (((((((w10.setCell ⟨py, 0, none⟩ (.int .i64 (Z.ki : Int))).setCell ⟨py, 1, none⟩ (.int .i64 (Z.ep : Int))).setCell ⟨py, 2, none⟩ (.int .i64 (Z.ba : Int))).setCell ⟨py, 3, none⟩ (.int .i64 (Z.ix : Int))).setCell ⟨py, 4, none⟩ (.int .i64 (Z.ct : Int))).setCell ⟨py, 5, none⟩ (.int .i64 (Z.bl : Int))).setCell ⟨py, 6, none⟩ (.int .i64 (Z.mo : Int))) := ⟨_, rfl⟩
      rw [← hV2]
      rw [← hV2] at hS10
      have hb0V2 : Below w.heap.size w V2 := by rw [hV2]; exact (((((((hb010.setCell (p := ⟨py, 0, none⟩) HPX.out.2.2.1 (.int .i64 (Z.ki : Int))).setCell (p := ⟨py, 1, none⟩) HPX.out.2.2.1 (.int .i64 (Z.ep : Int))).setCell (p := ⟨py, 2, none⟩) HPX.out.2.2.1 (.int .i64 (Z.ba : Int))).setCell (p := ⟨py, 3, none⟩) HPX.out.2.2.1 (.int .i64 (Z.ix : Int))).setCell (p := ⟨py, 4, none⟩) HPX.out.2.2.1 (.int .i64 (Z.ct : Int))).setCell (p := ⟨py, 5, none⟩) HPX.out.2.2.1 (.int .i64 (Z.bl : Int))).setCell (p := ⟨py, 6, none⟩) HPX.out.2.2.1 (.int .i64 (Z.mo : Int)))
      clear hV2 d0 d1 d2 d3 d4 d5 d6 f0 f1 f2 f3 f4 f5 f6 hb010
      obtain ⟨hVy, hVk2⟩ := hS10
      have hVx2 : V2.heap[px]? = some (.cells Z.cells 86 (0, 0)) := by rw [hVk2 px HPX.out.2.2.2.2]; exact hX10
      have hv2 : px < V2.heap.size ∧ py < V2.heap.size := by
        refine ⟨?_, ?_⟩
        · by_cases hh : px < V2.heap.size
          · exact hh
          · rw [Array.getElem?_eq_none (by omega)] at hVx2; cases hVx2
        · by_cases hh : py < V2.heap.size
          · exact hh
          · rw [Array.getElem?_eq_none (by omega)] at hVy; cases hVy
      have HZ2 : Hid (∀ wx, Below V2.heap.size V2 wx → HdrAt Z px wx ∧ WideAt Z py wx) := Lib.hid fun wx hb => by
        have a1 : wx.heap[px]? = some (.cells Z.cells 86 (0, 0)) := by rw [hb.block px hv2.1]; exact hVx2
        have a2 : wx.heap[py]? = some (.cells Z.wide 92 (0, 0)) := by rw [hb.block py hv2.2]; exact hVy
        exact ⟨⟨by simp [World.cell?, a1, RH.cells], by simp [World.cell?, a1, RH.cells], by simp [World.cell?, a1, RH.cells], by simp [World.cell?, a1, RH.cells], by simp [World.cell?, a1, RH.cells], by simp [World.cell?, a1, RH.cells], by simp [World.cell?, a1, RH.cells]⟩, ⟨by simp [World.cell?, a2, RH.wide], by simp [World.cell?, a2, RH.wide], by simp [World.cell?, a2, RH.wide], by simp [World.cell?, a2, RH.wide], by simp [World.cell?, a2, RH.wide], by simp [World.cell?, a2, RH.wide], by simp [World.cell?, a2, RH.wide]⟩⟩
      have HLZ : Hid (∀ w0, Calls Try.prog 45 #[.agg #[.int .u8 (Z.ki : Int), .int .u32 (Z.ep : Int), .int .u32 (Z.ba : Int), .int .u16 (Z.ix : Int), .int .u16 (Z.ct : Int), .int .u32 (Z.bl : Int), .int .u32 (Z.mo : Int)]] w0 fun e w' => e = .returned (.agg #[.int .i64 (Z.ki : Int), .int .i64 (Z.ep : Int), .int .i64 (Z.ba : Int), .int .i64 (Z.ix : Int), .int .i64 (Z.ct : Int), .int .i64 (Z.bl : Int), .int .i64 (Z.mo : Int)]) ∧ Below w0.heap.size w0 w') := Lib.hid fun w0 => lawOf_any Z hZf w0
      have hqz := fun w => eql_wide Z Z w
      simp only [eqH_self] at hqz
      unfold RH.wide at hqz
      have hEE : (E == E) = true := by cases E <;> rfl
      have hbd : Below V2.heap.size V2 V2.drew := (Below.refl _ V2).drew
      have HBV := Lib.hid hb0V2
      obtain ⟨⟨x0, x1, x2, x3, x4, x5, x6⟩, y0, y1, y2, y3, y4, y5, y6⟩ := HZ2.out V2 (Below.refl _ _)
      clear hVx2 hVy hVk2 hX10 hY10 hv2 hb0V2
      go_region_held3 (fun w' => w'.cell? ⟨px, 0, none⟩ = some (.int .u8 (Z.ki : Int)) ∧ w'.cell? ⟨px, 1, none⟩ = some (.int .u32 (Z.ep : Int)) ∧ w'.cell? ⟨px, 2, none⟩ = some (.int .u32 (Z.ba : Int)) ∧ w'.cell? ⟨px, 3, none⟩ = some (.int .u16 (Z.ix : Int)) ∧ w'.cell? ⟨px, 4, none⟩ = some (.int .u16 (Z.ct : Int)) ∧ w'.cell? ⟨px, 5, none⟩ = some (.int .u32 (Z.bl : Int)) ∧ w'.cell? ⟨px, 6, none⟩ = some (.int .u32 (Z.mo : Int)) ∧ w'.cell? ⟨py, 0, none⟩ = some (.int .i64 (Z.ki : Int)) ∧ w'.cell? ⟨py, 1, none⟩ = some (.int .i64 (Z.ep : Int)) ∧ w'.cell? ⟨py, 2, none⟩ = some (.int .i64 (Z.ba : Int)) ∧ w'.cell? ⟨py, 3, none⟩ = some (.int .i64 (Z.ix : Int)) ∧ w'.cell? ⟨py, 4, none⟩ = some (.int .i64 (Z.ct : Int)) ∧ w'.cell? ⟨py, 5, none⟩ = some (.int .i64 (Z.bl : Int)) ∧ w'.cell? ⟨py, 6, none⟩ = some (.int .i64 (Z.mo : Int))) (first | exact (by obtain ⟨⟨x0, x1, x2, x3, x4, x5, x6⟩, y0, y1, y2, y3, y4, y5, y6⟩ := HZ2.out _ hbt; exact ⟨x0, x1, x2, x3, x4, x5, x6, y0, y1, y2, y3, y4, y5, y6⟩) | go_keep)
        (first | (go_simp; go_at_call 45; ((with_reducible refine (HLZ.out _).mono ?_)); (rintro e w7 ⟨rfl, hb7⟩; have hbt := hbd.trans hb7)))
      all_goals (go_wp2; go_ret; exact ⟨rfl, bel_trans HBV.out hbt⟩)

set_option maxRecDepth 100000 in
theorem recordOpens_walk (a : Option Addr) (len cap : Nat) (ds : List Nat) (a2 : Option Addr) (len2 cap2 : Nat) (os : List Nat) (h : RH) (az : Option Addr) (lz cz : Nat) (zs : List Int) (ac : Option Addr) (lc cc : Nat) (cs : List Nat) (w : World) (hin : InB w a len cap ds ∧ InB w a2 len2 cap2 os ∧ h.Fits ∧ RowZ w az lz cz zs ∧ InB w ac lc cc cs) :
    Calls Try.prog 9 #[.agg (#[.slice a len cap, .slice a2 len2 cap2] ++ h.cells ++ #[.slice az lz cz, .slice ac lc cc])] w fun e w' => e = .returned (.bool true) ∧ Below w.heap.size w w' := by
  obtain ⟨h1, h2, hf, hz, h3⟩ := hin
  by_cases hc : 600 < len ∨ 100 < len2 ∨ 10 < lz ∨ lc < lz
  · have n1 := h1.2.1
    have n2 := h1.2.2.1
    have n3 := h2.2.1
    have n4 := h2.2.2.1
    have n5 := hz.2.1
    have n6 := hz.2.2.1
    have n7 := h3.2.1
    have n8 := h3.2.2.1
    unfold maxLen at *
    exact recordOpens_let a len cap a2 len2 cap2 h az lz cz ac lc cc w (by omega) hc
  · exact recordOpens_main a len cap ds a2 len2 cap2 os h az lz cz zs ac lc cc cs w h1 h2 hf hz h3 (by omega) (by omega) (by omega) (by omega)

end Go.Proofs.Ytbfmpcomjmcfjaa
