/- What a law's arguments are in memory, as its walk is told. -/
import Derived.Test.YtdpkinppkhnjkaaDoorRows
import Derived.Test.YtdpkinppkhnjkaaDoorBase
import Derived.WalkKit
import Derived.ProofKit
import Derived.OpenShut
import Derived.ShutString
import Derived.ChangeOld
import Derived.Below
namespace Go.Proofs.YtdpkinppkhnjkaaDoor
open Go.ChangeShapes Go.WideShapes Go.ChangeAt Go.RowKit

theorem own : ownKnob Tryd.prog.godebug = none := by kernel_rfl
theorem laidOut : laidOutB Tryd.prog = true := by kernel_rfl

theorem row_of {W : World} {x : Addr} {len cap : Nat} {zs : List Int} (hl : len ≤ cap) (hz : zs.length = cap)
    (hcell : ∀ i, i < zs.length → W.cell? (x.add i) = some (.int .u8 (zs.getD i 0))) (hwz : ∀ n ∈ zs, (Lit.int .u8 n).wf = true) :
    Row W (some x) len ((zs.take len).map Int.toNat) := by
  have hb : ∀ n ∈ zs, 0 ≤ n ∧ n < 256 := fun n hn => by
    have h := hwz n hn
    have hm : IntKind.u8.min = 0 := by decide
    have hM : IntKind.u8.max = 255 := by decide
    simp [Lit.wf, hm, hM] at h
    omega
  refine ⟨by simp; omega, ?_, fun h0 => ?_⟩
  · intro y hy
    rw [List.mem_map] at hy
    obtain ⟨n, hn, rfl⟩ := hy
    have := hb n (List.mem_of_mem_take hn)
    omega
  · obtain ⟨b, off, spot⟩ := x
    have hc := hcell 0 (by omega)
    have hspot : spot = none := by simpa [Addr.add] using World.cell?_spot hc
    subst hspot
    refine ⟨b, off, rfl, fun i hi => ?_⟩
    have hci := hcell i (by omega)
    have hn : i < zs.length := by omega
    have e : ((((zs.take len).map Int.toNat).getD i 0 : Nat) : Int) = zs.getD i 0 := by
      have h1 : (zs.take len)[i]? = some zs[i] := by rw [List.getElem?_take_of_lt hi]; exact List.getElem?_eq_getElem hn
      have h2 := hb zs[i] (List.getElem_mem hn)
      rw [List.getD, List.getD, List.getElem?_map, h1, List.getElem?_eq_getElem hn]
      simp only [Option.map_some, Option.getD_some]
      omega
    rw [e, ← hci]
    congr 1
    unfold Addr.add
    split
    · rename_i h; subst h; simp
    · rfl

/-- A slice of bytes that came in. -/
def InB (W : World) (a : Option Addr) (len cap : Nat) (bs : List Nat) : Prop := Row W a len bs ∧ len ≤ cap ∧ cap ≤ maxLen ∧ (a = none → cap = 0)
section
variable {H : Type} {enc : TypeId × Value → H} {W : World} {v : Value} {d : DataW H} {p : List MemPlace} {base : Nat}
set_option maxRecDepth 100000 in
theorem bytes_in (hv : Value.okWide Tryd.prog W .any base 22 v) (h : DataW.Trod enc Tryd.prog W 0 (fun _ => true) true 22 v d p) :
    ∃ a len cap bs, v = .slice a len cap ∧ InB W a len cap bs := by
  obtain ⟨a, len, cap, rfl⟩ := okWide_slice Tryd.underlying22 hv
  obtain ⟨fuel, hf⟩ := h
  rcases open_ints Tryd.underlying22 Tryd.underlying5 (by kernel_rfl) hf with ⟨hcs, _⟩ | ⟨x, l, c, zs, hcs, _, hl, hm, hz, _, hcell, hwz⟩
  · simp [Value.cells] at hcs
    obtain ⟨rfl, rfl, rfl⟩ := hcs
    exact ⟨_, _, _, [], rfl, ⟨rfl, (fun x hx => by cases hx), (fun h => by omega)⟩, by omega, by unfold maxLen; omega, fun _ => rfl⟩
  · simp [Value.cells] at hcs
    obtain ⟨rfl, rfl, rfl⟩ := hcs
    exact ⟨_, _, _, _, rfl, row_of hl (by simpa using hz) hcell hwz, hl, hm, fun h => by cases h⟩
end

end Go.Proofs.YtdpkinppkhnjkaaDoor
