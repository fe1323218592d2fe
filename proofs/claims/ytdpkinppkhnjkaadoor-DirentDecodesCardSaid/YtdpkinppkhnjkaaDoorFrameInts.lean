/- Slices of numbers that come in. -/
import Derived.Test.YtdpkinppkhnjkaaDoorFrame
import Derived.Test.YtdpkinppkhnjkaaDoorWriterText
import Derived.Lib.SmallJoins
import Derived.SizedLaws
namespace Go.Proofs.YtdpkinppkhnjkaaDoor
open Go.ChangeShapes Go.WideShapes Go.ChangeAt Go.RowKit

theorem rowK_of {K : IntKind} {M : Nat} {W : World} {x : Addr} {len cap : Nat} {zs : List Int} (hM : ∀ n, (Lit.int K n).wf = true → 0 ≤ n ∧ n < M) (hl : len ≤ cap) (hz : zs.length = cap)
    (hcell : ∀ i, i < zs.length → W.cell? (x.add i) = some (.int K (zs.getD i 0))) (hwz : ∀ n ∈ zs, (Lit.int K n).wf = true) :
    RowK K M W (some x) len ((zs.take len).map Int.toNat) := by
  have hb : ∀ n ∈ zs, 0 ≤ n ∧ n < M := fun n hn => hM n (hwz n hn)
  refine ⟨by simp; omega, ?_, fun h0 => ?_⟩
  · intro y hy
    rw [List.mem_map] at hy
    obtain ⟨n, hn, rfl⟩ := hy
    have := hb n (List.mem_of_mem_take hn)
    omega
  · obtain ⟨b, off, spot⟩ := x
    have hc := hcell 0 (by omega)
    have hspot : spot = none := by simpa [Addr.add] using World.cell?_spot hc
    subst hspot
    refine ⟨b, off, rfl, fun i hi => ?_⟩
    have hci := hcell i (by omega)
    have hn : i < zs.length := by omega
    have e : ((((zs.take len).map Int.toNat).getD i 0 : Nat) : Int) = zs.getD i 0 := by
      have h1 : (zs.take len)[i]? = some zs[i] := by rw [List.getElem?_take_of_lt hi]; exact List.getElem?_eq_getElem hn
      have h2 := hb zs[i] (List.getElem_mem hn)
      rw [List.getD, List.getD, List.getElem?_map, h1, List.getElem?_eq_getElem hn]
      simp only [Option.map_some, Option.getD_some]
      omega
    rw [e, ← hci]
    congr 1
    unfold Addr.add
    split
    · rename_i h; subst h; simp
    · rfl
theorem wfb_u8 (n : Int) (h : (Lit.int .u8 n).wf = true) : 0 ≤ n ∧ n < (256 : Nat) := by
  have hm : IntKind.u8.min = 0 := by decide
  have hM : IntKind.u8.max = 255 := by decide
  simp [Lit.wf, hm, hM] at h; omega
theorem wfb_u16 (n : Int) (h : (Lit.int .u16 n).wf = true) : 0 ≤ n ∧ n < (65536 : Nat) := by
  have hm : IntKind.u16.min = 0 := by decide
  have hM : IntKind.u16.max = 65535 := by decide
  simp [Lit.wf, hm, hM] at h; omega
theorem wfb_u32 (n : Int) (h : (Lit.int .u32 n).wf = true) : 0 ≤ n ∧ n < (4294967296 : Nat) := by
  have hm : IntKind.u32.min = 0 := by decide
  have hM : IntKind.u32.max = 4294967295 := by decide
  simp [Lit.wf, hm, hM] at h; omega
theorem wfb_u64 (n : Int) (h : (Lit.int .u64 n).wf = true) : 0 ≤ n ∧ n < (18446744073709551616 : Nat) := by
  have hm : IntKind.u64.min = 0 := by decide
  have hM : IntKind.u64.max = 18446744073709551615 := by decide
  simp [Lit.wf, hm, hM] at h; omega

/-- A slice of numbers that came in. -/
def InK (K : IntKind) (M : Nat) (W : World) (a : Option Addr) (len cap : Nat) (ns : List Nat) : Prop :=
  RowK K M W a len ns ∧ len ≤ cap ∧ cap ≤ maxLen ∧ (a = none → cap = 0) ∧ ∀ x, a = some x → 0 < len → x.block < W.heap.size
section
variable {H : Type} {enc : TypeId × Value → H} {W : World} {v : Value}
theorem ints_in {K : IntKind} {M : Nat} {t e : TypeId} {fuel : Nat} {y : DataW H × List MemPlace} (ht : Tryd.prog.underlying t = some (.slice e)) (he : Tryd.prog.underlying e = some (.int K)) (hc : Tryd.prog.cellsOf e = 1)
    (hM : ∀ n, (Lit.int K n).wf = true → 0 ≤ n ∧ n < M) (h : DataW.trod enc Tryd.prog W 0 (fun _ => true) true fuel t [v] = some y) :
    ∃ a len cap ns, v = .slice a len cap ∧ InK K M W a len cap ns ∧ ((∀ n ∈ y.1.weights Tryd.prog t, n ≤ reachBytes) → cap * Tryd.prog.bytesOf e ≤ reachBytes) := by
  rcases open_ints ht he hc h with ⟨hcs, hx⟩ | ⟨x, l, c, zs, hcs, _, hl, hm, hz, hx, hcell, hwz⟩
  · simp at hcs
    exact ⟨none, 0, 0, [], hcs, ⟨⟨rfl, (fun x hx => by cases hx), (fun h => by omega)⟩, Nat.le_refl _, Nat.zero_le _, fun _ => rfl, fun _ h => by cases h⟩, fun _ => by simp⟩
  · simp at hcs
    have hz' : zs.length = c := by simpa using hz
    have hr := rowK_of hM hl hz' hcell hwz
    refine ⟨some x, l, c, _, hcs, ⟨hr, hl, hm, (fun h => by cases h), fun x' hx' h0 => ?_⟩, fun hw => ?_⟩
    · cases hx'
      obtain ⟨b, off, h1, h2⟩ := hr.2.2 h0
      cases h1
      exact World.block_lt_of_cell? W _ (h2 0 h0)
    · rw [hx] at hw
      have := hw ((lits K (zs.take l)).length + (lits K (zs.drop l)).length |> (· * Tryd.prog.bytesOf e)) (by simp only [DataW.weights, ht]; exact List.mem_cons_self)
      have e1 : (lits (H := H) K (zs.take l)).length + (lits (H := H) K (zs.drop l)).length = c := by
        unfold lits
        simp
        omega
      rw [← e1]
      exact this
end

end Go.Proofs.YtdpkinppkhnjkaaDoor
