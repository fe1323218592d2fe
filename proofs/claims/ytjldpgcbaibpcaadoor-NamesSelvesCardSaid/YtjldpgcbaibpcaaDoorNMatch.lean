/- names.Match. -/
import Derived.Test.YtjldpgcbaibpcaaDoorNFit
namespace Go.Proofs.YtjldpgcbaibpcaaDoor
open Go.RowKit

/-- What names.Match answers. -/
def matchOf (s t : ByteArray) : Bool × Int :=
  match parseOf s with
  | none => (false, 62)
  | some ps => (Nm.fit (Nm.fitW (runesOf t).length ps.length 0 0 + 1) ps (runesOf t) 0 0 0 0, 0)
theorem parseOf_bd {s : ByteArray} {ps : List Nm.Part} (h : parseOf s = some ps) : ps.length ≤ s.size ∧ ∀ p ∈ ps, p.these.length ≤ s.size := by
  unfold parseOf at h
  split at h
  · have h1 := Nm.parse_bd _ _ _ h
    have h2 := runesOf_le s
    exact ⟨by omega, fun p hp => by have := h1.2 p hp; omega⟩
  · cases h
set_option maxHeartbeats 600000 in
theorem match_any (s t : ByteArray) (w : World) (hs : s.size ≤ 1000) (ht : t.size ≤ 1000) (hT : NOk w) :
    Calls Tryd.prog 27 #[.string s, .string t] w fun e w' => e = .returned (.tuple #[.bool (matchOf s t).1, .int .i64 (matchOf s t).2]) ∧ Below w.heap.size w w' := by
  obtain ⟨ans, hans⟩ : ∃ ans, matchOf s t = ans := ⟨_, rfl⟩
  rw [hans]
  have HP := parse_any s w hs hT
  have hcv := conv_runes t (by omega)
  have hrl := runesOf_le t
  unfold matchOf at hans
  cases hp : parseOf s with
  | none =>
    rw [hp] at HP hans
    have H := Lib.hid HP
    have HA := Lib.hid hans
    clear HP hans hp hT
    go_enter Tryd.func27, Tryd.ntmps27
    go_wp2_with fail
    refine H.out.mono ?_
    rintro e w1 ⟨rfl, hb1⟩
    go_wp2
    go_ret2
    exact ⟨by rw [← HA.out]; rfl, hb1⟩
  | some ps =>
    rw [hp] at HP hans
    have H := Lib.hid HP
    have HA := Lib.hid hans
    have HBD := Lib.hid (parseOf_bd hp)
    obtain ⟨N, hN⟩ : ∃ N, (runesOf t).length = N := ⟨_, rfl⟩
    rw [hN] at hrl
    have HN := Lib.hid hN
    simp only [hN] at hcv
    clear HP hans hp hT hN
    go_enter Tryd.func27, Tryd.ntmps27
    go_wp2_with fail
    refine H.out.mono ?_
    rintro e w1 ⟨sv, rfl, hps, hb1⟩
    obtain ⟨pa, pc, rfl, _⟩ := parts_cells hps
    obtain ⟨hb2, hrow⟩ := runes_row w1 t (by omega)
    have HB2 := Lib.hid hb2
    have HROW := Lib.hid hrow
    have HPS := Lib.hid hps
    have HB1 := Lib.hid hb1
    clear hb2 hrow hps hb1
    go_wp2_with fail
    refine (fit_any _ _ ps _ N _ (runesOf t) _ (parts_below HPS.out HB2.out) (by have := HROW.out; rw [HN.out] at this; exact this) (by omega) (by have := HBD.out.1; omega) (fun p hp => by have := HBD.out.2 p hp; omega)).mono ?_
    rintro e w3 ⟨rfl, hb3⟩
    have hb03 := bel_trans (bel_trans HB1.out HB2.out) hb3
    go_wp2
    go_ret2
    exact ⟨by rw [← HA.out, HN.out]; rfl, hb03⟩

end Go.Proofs.YtjldpgcbaibpcaaDoor
