/- ParityOne: the walk. -/
import Derived.Test.YtnkkeffjnamcgaaParOfHdr
import Derived.Test.YtnkkeffjnamcgaaSummed
import Derived.Test.YtnkkeffjnamcgaaFrame
namespace Go.Proofs.Ytnkkeffjnamcgaa
open Go.RowKit

/-- Two headers' boxes. -/
def TwoH (h k : RH) (w : World) (x : World) : Prop :=
  x.heap[w.heap.size]? = some (.cells #[.int .u8 (h.ki : Int), .int .u32 (h.ep : Int), .int .u32 (h.ba : Int), .int .u16 (h.ix : Int), .int .u16 (h.ct : Int), .int .u32 (h.bl : Int), .int .u32 (h.mo : Int)] 27 (0, 0)) ∧
  x.heap[w.heap.size + 1]? = some (.cells #[.int .u8 (k.ki : Int), .int .u32 (k.ep : Int), .int .u32 (k.ba : Int), .int .u16 (k.ix : Int), .int .u16 (k.ct : Int), .int .u32 (k.bl : Int), .int .u32 (k.mo : Int)] 27 (0, 0)) ∧ Below w.heap.size w x
theorem TwoH.step {h k : RH} {w x y : World} (hs : TwoH h k w x) (hb : Below x.heap.size x y) : TwoH h k w y := ⟨blk_step hs.1 hb, blk_step hs.2.1 hb, bel_trans hs.2.2 hb⟩
theorem twoH_new (h k : RH) (w : World) : TwoH h k w ((w.alloc (.cells #[.int .u8 (h.ki : Int), .int .u32 (h.ep : Int), .int .u32 (h.ba : Int), .int .u16 (h.ix : Int), .int .u16 (h.ct : Int), .int .u32 (h.bl : Int), .int .u32 (h.mo : Int)] 27)).alloc (.cells #[.int .u8 (k.ki : Int), .int .u32 (k.ep : Int), .int .u32 (k.ba : Int), .int .u16 (k.ix : Int), .int .u16 (k.ct : Int), .int .u32 (k.bl : Int), .int .u32 (k.mo : Int)] 27)) := by
  have h1 := heap_alloc_new w (.cells #[.int .u8 (h.ki : Int), .int .u32 (h.ep : Int), .int .u32 (h.ba : Int), .int .u16 (h.ix : Int), .int .u16 (h.ct : Int), .int .u32 (h.bl : Int), .int .u32 (h.mo : Int)] 27)
  have h2 := heap_alloc_new (w.alloc (.cells #[.int .u8 (h.ki : Int), .int .u32 (h.ep : Int), .int .u32 (h.ba : Int), .int .u16 (h.ix : Int), .int .u16 (h.ct : Int), .int .u32 (h.bl : Int), .int .u32 (h.mo : Int)] 27)) (.cells #[.int .u8 (k.ki : Int), .int .u32 (k.ep : Int), .int .u32 (k.ba : Int), .int .u16 (k.ix : Int), .int .u16 (k.ct : Int), .int .u32 (k.bl : Int), .int .u32 (k.mo : Int)] 27)
  rw [World.size_alloc] at h2
  exact ⟨blk_step h1 (bel_alloc (Below.refl _ _) _), h2, bel_alloc (bel_alloc (Below.refl _ w) _) _⟩
theorem set_blk0 {x : World} {B o : Nat} {cs : Array Value} {t : TypeId} (v : Value) (h : x.heap[B]? = some (.cells cs t (0, 0))) : (x.setCell ⟨B, o, none⟩ v).heap[B]? = some (.cells (cs.setIfInBounds o v) t (0, 0)) := by
  unfold World.setCell
  simp only
  rw [Array.getElem?_modify, if_pos rfl, h]
  rfl
theorem set_blk1 {x : World} {B C o : Nat} {ob : Obj} (v : Value) (hne : B ≠ C) (h : x.heap[B]? = some ob) : (x.setCell ⟨C, o, none⟩ v).heap[B]? = some ob := by
  unfold World.setCell
  simp only
  rw [Array.getElem?_modify, if_neg (Ne.symm hne), h]
theorem TwoH.kind1 {h k : RH} {w x : World} (hs : TwoH h k w x) (n : Nat) : TwoH (h.withKind n) k w (x.setCell ⟨w.heap.size, 0, none⟩ (.int .u8 (n : Int))) :=
  ⟨set_blk0 _ hs.1, set_blk1 _ (by omega) hs.2.1, hs.2.2.setCell (p := ⟨w.heap.size, 0, none⟩) (Nat.le_refl _) _⟩
theorem TwoH.kind2 {h k : RH} {w x : World} (hs : TwoH h k w x) (n : Nat) : TwoH h (k.withKind n) w (x.setCell ⟨w.heap.size + 1, 0, none⟩ (.int .u8 (n : Int))) :=
  ⟨set_blk1 _ (by omega) hs.1, set_blk0 _ hs.2.1, hs.2.2.setCell (p := ⟨w.heap.size + 1, 0, none⟩) (by simp) _⟩
theorem hdr_at {h : RH} {w : World} {p : Nat} {T : TypeId} (hh : w.heap[p]? = some (.cells #[.int .u8 (h.ki : Int), .int .u32 (h.ep : Int), .int .u32 (h.ba : Int), .int .u16 (h.ix : Int), .int .u16 (h.ct : Int), .int .u32 (h.bl : Int), .int .u32 (h.mo : Int)] T (0, 0))) : HdrAt h p w ∧ w.frozen? ⟨p, 0, none⟩ = false := by
  unfold HdrAt
  refine ⟨⟨?_, ?_, ?_, ?_, ?_, ?_, ?_⟩, ?_⟩ <;> simp [World.cell?, World.frozen?, hh]

theorem xor_one (x : List Nat) : xorL [x] = x := by
  apply list_ext_getD
  · rw [xorL_len, lgL, lgL]; simp
  · intro j
    rw [xorL_getD, xatL, xatL]; simp

end Go.Proofs.Ytnkkeffjnamcgaa
