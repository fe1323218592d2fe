/- gabionlaw10: same. -/
import Derived.Test.YtnhklomofebfaaaFPage
import Derived.Test.YtnhklomofebfaaaWriterText
namespace Go.Proofs.Ytnhklomofebfaaa
open Go.RowKit Go.Deep

set_option maxRecDepth 100000 in
theorem stSame_yes (H : RH) (D E : PS) (w : World) (hD : PartOk w D) (hE : PartOk w E) (he : D.l = E.l) :
    Calls Try.prog 11 #[.agg #[.int .u8 (H.ki : Int), .int .u32 (H.ep : Int), .int .u32 (H.ba : Int), .int .u16 (H.ix : Int), .int .u16 (H.ct : Int), .int .u32 (H.bl : Int), .int .u32 (H.mo : Int), .slice D.a D.n D.c], .agg #[.int .u8 (H.ki : Int), .int .u32 (H.ep : Int), .int .u32 (H.ba : Int), .int .u16 (H.ix : Int), .int .u16 (H.ct : Int), .int .u32 (H.bl : Int), .int .u32 (H.mo : Int), .slice E.a E.n E.c]] w fun e w' => e = .returned (.bool true) ∧ Below w.heap.size w w' := by
  have HS : Hid (∀ x : World, Below w.heap.size w x → Calls Try.prog 24 #[.slice D.a D.n D.c, .slice E.a E.n E.c] x fun e w' => e = .returned (.bool true) ∧ x = w') := Lib.hid fun x hx => same_any D.a E.a D.n D.c E.n E.c D.l x (hD.step hx).1 (by rw [he]; exact (hE.step hx).1)
  clear hD hE he
  go_enter Try.func11, Try.ntmps11
  go_upto_region 1 with fail
  obtain ⟨w0, hw0⟩ : ∃ x, x = (w.alloc (.cells #[.int .u8 (H.ki : Int), .int .u32 (H.ep : Int), .int .u32 (H.ba : Int), .int .u16 (H.ix : Int), .int .u16 (H.ct : Int), .int .u32 (H.bl : Int), .int .u32 (H.mo : Int), .slice D.a D.n D.c] 47)).alloc (.cells #[.int .u8 (H.ki : Int), .int .u32 (H.ep : Int), .int .u32 (H.ba : Int), .int .u16 (H.ix : Int), .int .u16 (H.ct : Int), .int .u32 (H.bl : Int), .int .u32 (H.mo : Int), .slice E.a E.n E.c] 47) := ⟨_, rfl⟩
  obtain ⟨b, hb⟩ : ∃ x, x = w.heap.size := ⟨_, rfl⟩
  have k0 : Below w.heap.size w w0 ∧ w0.heap[b]? = some (.cells #[.int .u8 (H.ki : Int), .int .u32 (H.ep : Int), .int .u32 (H.ba : Int), .int .u16 (H.ix : Int), .int .u16 (H.ct : Int), .int .u32 (H.bl : Int), .int .u32 (H.mo : Int), .slice D.a D.n D.c] 47 (0, 0)) ∧ w0.heap[b + 1]? = some (.cells #[.int .u8 (H.ki : Int), .int .u32 (H.ep : Int), .int .u32 (H.ba : Int), .int .u16 (H.ix : Int), .int .u16 (H.ct : Int), .int .u32 (H.bl : Int), .int .u32 (H.mo : Int), .slice E.a E.n E.c] 47 (0, 0)) := by
    rw [hw0, hb]
    refine ⟨bel_alloc (bel_alloc (Below.refl _ w) _) _, ?_, ?_⟩
    · rw [heap_alloc_old' (by simp)]; exact heap_alloc_new w _
    · have := heap_alloc_new (w.alloc (.cells #[.int .u8 (H.ki : Int), .int .u32 (H.ep : Int), .int .u32 (H.ba : Int), .int .u16 (H.ix : Int), .int .u16 (H.ct : Int), .int .u32 (H.bl : Int), .int .u32 (H.mo : Int), .slice D.a D.n D.c] 47)) (.cells #[.int .u8 (H.ki : Int), .int .u32 (H.ep : Int), .int .u32 (H.ba : Int), .int .u16 (H.ix : Int), .int .u16 (H.ct : Int), .int .u32 (H.bl : Int), .int .u32 (H.mo : Int), .slice E.a E.n E.c] 47)
      simpa using this
  rw [← hw0, ← hb]
  clear hw0 hb
  obtain ⟨k1, k2, k3⟩ := k0
  obtain ⟨x0, x1, x2, x3, x4, x5, x6, x7⟩ := eight_at k2
  obtain ⟨y0, y1, y2, y3, y4, y5, y6, y7⟩ := eight_at k3
  have K1 := Lib.hid k1
  clear k1 k2 k3
  go_wp2_with fail
  ((with_reducible refine (HS.out _ K1.out).mono ?_))
  rintro e w1 ⟨rfl, rfl⟩
  go_wp2
  go_ret
  exact ⟨rfl, K1.out⟩
end Go.Proofs.Ytnhklomofebfaaa
