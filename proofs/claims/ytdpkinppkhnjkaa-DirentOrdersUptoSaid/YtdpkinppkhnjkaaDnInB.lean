/- Entries that come in, and how great their names are. -/
import Derived.Test.YtdpkinppkhnjkaaDnIn
import Derived.Deep.SlicePairs
namespace Go.Proofs.Ytdpkinppkhnjkaa
open Go.ChangeShapes Go.WideShapes Go.ChangeAt Go.RowKit Go.Deep

theorem bulk_part {H : Type} {d : DataW H} {l : List (DataW H)} (h : d ∈ l) : Rows.uptoBulk d ≤ Rows.uptoBulkAll l := by
  induction l with
  | nil => cases h
  | cons x r ih =>
    simp only [Rows.uptoBulkAll]
    rcases List.mem_cons.1 h with e | e
    · subst e; omega
    · have := ih e; omega
section
variable {H : Type} {enc : TypeId × Value → H} {W : World} {v : Value} {d : DataW H} {p : List MemPlace} {base : Nat}
theorem entFields : ∃ f0 f1 : Field, Try.prog.underlying 26 = some (.struct #[f0, f1]) ∧ f0.offset = 0 ∧ f1.offset = 1 ∧ f0.type = 24 ∧ f1.type = 9 := ⟨_, _, Try.underlying26, rfl, rfl, rfl, rfl⟩
set_option maxRecDepth 100000 in
theorem ents_big (hv : Value.okWide Try.prog W .any base 22 v) (h : DataW.Trod enc Try.prog W 0 (fun _ => true) true 22 v d p) :
    ∃ a len cap L, v = .slice a len cap ∧ (RowD W a len L ∧ ∀ x ∈ L, x.2.size ≤ Rows.uptoBulk d) := by
  obtain ⟨a, len, cap, rfl⟩ := okWide_slice Try.underlying22 hv
  obtain ⟨fuel, hf⟩ := h
  obtain ⟨f0, f1, he, o0, o1, y0, y1⟩ := entFields
  have c2 : Try.prog.cellsOf 26 = 2 := by kernel_rfl
  have ki : Try.prog.cellsOf 9 = 1 := by kernel_rfl
  have ku : Try.prog.cellsOf 24 = 1 := by kernel_rfl
  rcases open_slice_pairs Try.underlying22 he c2 o0 o1 (by rw [y0]; exact ku) (by rw [y1]; exact ki) hf with ⟨hcs, _⟩ | ⟨x, l, c, m, n', V0, V1, D0, D1, P0, P1, hcs, _, hl, hm, hmm, hd, hx⟩
  · simp [Value.cells] at hcs
    obtain ⟨rfl, rfl, rfl⟩ := hcs
    exact ⟨_, _, _, [], rfl, ⟨rfl, by simp, fun h => by omega⟩, fun x hx => by cases hx⟩
  · simp [Value.cells] at hcs
    obtain ⟨rfl, rfl, rfl⟩ := hcs
    have hmc : m = cap := by simpa using hmm
    have each : ∀ i, i < len → ∃ z : Nat × ByteArray, (W.cell? (x.add (i * 2)) = some (.int .u32 (z.1 : Int)) ∧ W.cell? (x.add (i * 2 + 1)) = some (.string z.2)) ∧ z.1 < 4294967296 ∧ z.2.size ≤ Rows.uptoBulk d := by
      intro i hi
      obtain ⟨e0, e1, t0, t1⟩ := hx i (by omega)
      rw [y0] at t0
      rw [y1] at t1
      obtain ⟨x0, q0, _, w0⟩ := DataW.trod_int Try.underlying24 t0
      obtain ⟨n0, rfl, l0⟩ := wfd_u32 w0
      obtain ⟨s, q1, q2, _⟩ := DataW.trod_string Try.underlying9 t1
      simp only [List.cons.injEq, and_true] at q0 q1
      rw [q0] at e0
      rw [q1] at e1
      refine ⟨(n0, s), ⟨e0, e1⟩, l0, ?_⟩
      have hD : D1 i = .lit (.string s.data.toList) := (Prod.mk.inj q2).1
      have hb : Rows.uptoBulk (DataW.agg [D0 i, D1 i]) ≤ Rows.uptoBulk d := by
        rw [(Prod.mk.inj hd).1]
        have h1 := bulk_part (l := (List.range len).map fun i => DataW.agg [D0 i, D1 i]) (List.mem_map.2 ⟨i, List.mem_range.2 hi, rfl⟩)
        simp only [Rows.uptoBulk] at h1 ⊢
        omega
      have hs : s.size = s.data.toList.length := by rw [Array.length_toList]; rfl
      rw [hD] at hb
      simp only [Rows.uptoBulk, Rows.uptoBulkAll] at hb
      show s.size ≤ _
      omega
    obtain ⟨f, hf2⟩ := choose_lt each
    refine ⟨_, _, _, (List.range len).map f, rfl, ⟨by simp, fun s hs => ?_, fun h0 => ?_⟩, fun s hs => ?_⟩
    · rw [List.mem_map] at hs
      obtain ⟨i, hi, rfl⟩ := hs
      exact (hf2 i (List.mem_range.1 hi)).2.1
    · obtain ⟨b, off, spot⟩ := x
      have hspot : spot = none := by
        have h1 := (hf2 0 h0).1.1
        have h2 := World.cell?_spot h1
        simpa [Addr.add] using h2
      subst hspot
      refine ⟨b, off, rfl, fun i hi => ?_⟩
      have h1 := (hf2 i hi).1
      have ea : ∀ k, (⟨b, off, none⟩ : Addr).add k = ⟨b, off + k, none⟩ := fun k => by
        unfold Addr.add
        split <;> simp_all
      rw [ea, ea] at h1
      rw [rangeD f len i hi]
      exact h1
    · rw [List.mem_map] at hs
      obtain ⟨i, hi, rfl⟩ := hs
      exact (hf2 i (List.mem_range.1 hi)).2.2
end
end Go.Proofs.Ytdpkinppkhnjkaa
