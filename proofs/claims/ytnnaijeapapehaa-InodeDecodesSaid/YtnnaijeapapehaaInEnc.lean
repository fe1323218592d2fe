/- inode.Encode: an inode's bytes. -/
import Derived.Test.YtnnaijeapapehaaChain
import Derived.Test.YtnnaijeapapehaaPad
import Derived.Test.YtnnaijeapapehaaWx
namespace Go.Proofs.Ytnnaijeapapehaa
open Go.RowKit

/-- An inode. -/
structure Ino where
  ki : Nat
  ln : Nat
  sz : Nat
  d0 : Nat
  d1 : Nat
  d2 : Nat
  d3 : Nat
  d4 : Nat
  d5 : Nat
  d6 : Nat
  d7 : Nat
  si : Nat
  db : Nat
def Ino.ds (n : Ino) : List Nat := [n.d0, n.d1, n.d2, n.d3, n.d4, n.d5, n.d6, n.d7]
def Ino.v (n : Ino) : Value := .agg #[.int .u8 (n.ki : Int), .int .u16 (n.ln : Int), .int .u32 (n.sz : Int), .int .u32 (n.d0 : Int), .int .u32 (n.d1 : Int), .int .u32 (n.d2 : Int), .int .u32 (n.d3 : Int), .int .u32 (n.d4 : Int), .int .u32 (n.d5 : Int), .int .u32 (n.d6 : Int), .int .u32 (n.d7 : Int), .int .u32 (n.si : Int), .int .u32 (n.db : Int)]
structure Ino.Fits (n : Ino) : Prop where
  ki : n.ki < 256
  ln : n.ln < 65536
  sz : n.sz < 4294967296
  d0 : n.d0 < 4294967296
  d1 : n.d1 < 4294967296
  d2 : n.d2 < 4294967296
  d3 : n.d3 < 4294967296
  d4 : n.d4 < 4294967296
  d5 : n.d5 < 4294967296
  d6 : n.d6 < 4294967296
  d7 : n.d7 < 4294967296
  si : n.si < 4294967296
  db : n.db < 4294967296
theorem Ino.Fits.ds {n : Ino} (h : n.Fits) : ∀ x ∈ n.ds, x < 4294967296 := by
  obtain ⟨_, _, _, h0, h1, h2, h3, h4, h5, h6, h7, _, _⟩ := h
  intro x hx
  simp only [Ino.ds, List.mem_cons, List.not_mem_nil, or_false] at hx
  rcases hx with rfl | rfl | rfl | rfl | rfl | rfl | rfl | rfl <;> assumption
/-- What is laid behind so many calls. -/
def inX (n : Ino) : Nat → List Nat
  | 0 => []
  | 1 => [] ++ [n.ki, 0]
  | 2 => ([] ++ [n.ki, 0]) ++ [n.ln].flatMap (Crc.les 2)
  | _ => (([] ++ [n.ki, 0]) ++ [n.ln].flatMap (Crc.les 2)) ++ [n.sz].flatMap (Crc.les 4)
def inY (n : Ino) : Nat → List Nat
  | 0 => inX n 3
  | 1 => inX n 3 ++ n.ds.flatMap (Crc.les 4)
  | _ => (inX n 3 ++ n.ds.flatMap (Crc.les 4)) ++ [n.si, n.db].flatMap (Crc.les 4)
theorem inX_len (n : Ino) (c : Nat) : (inX n c).length ≤ 8 := by
  unfold inX
  split <;> simp [Crc.les_len]
theorem inY_len (n : Ino) (c : Nat) : (inY n c).length ≤ 48 := by
  unfold inY
  split <;> simp [inX, Crc.les_len, Ino.ds]
theorem inY_end (n : Ino) : (inY n 2).length = 48 := by
  simp [inY, inX, Crc.les_len, Ino.ds]
/-- An inode's bytes. -/
def encI (n : Ino) : List Nat := padTo (inY n 2) 64
theorem encL (n : Ino) : (padTo (inY n 2) 64).length = 64 := by
  unfold padTo; rw [List.length_append, inY_end]; rfl
def inV (n : Ino) (pw bb : Nat) : Nat → VS
  | 0 => .val (.pointer (some ⟨pw, 0, none⟩))
  | 1 => .val (.pointer (some ⟨bb, 0, none⟩))
  | 2 => .val (.int .u8 (n.ki : Int))
  | 3 => .sl .u8 256 [n.ki, 0]
  | 4 => .val (.pointer (some ⟨pw, 0, none⟩))
  | 5 => .val (.pointer (some ⟨bb, 1, none⟩))
  | 6 => .val (.int .u16 (n.ln : Int))
  | 7 => .sl .u16 65536 [n.ln]
  | 8 => .val (.pointer (some ⟨pw, 0, none⟩))
  | 9 => .val (.pointer (some ⟨bb, 2, none⟩))
  | 10 => .val (.int .u32 (n.sz : Int))
  | 11 => .sl .u32 4294967296 [n.sz]
  | 12 => .val (.pointer (some ⟨pw, 0, none⟩))
  | _ => .val undef
def inW (n : Ino) (pw bb : Nat) : Nat → VS
  | 0 => .val (.pointer (some ⟨pw, 0, none⟩))
  | 1 => .val (.pointer (some ⟨bb, 3, none⟩))
  | 2 => .sl .u32 4294967296 n.ds
  | 3 => .val (.pointer (some ⟨pw, 0, none⟩))
  | 4 => .val (.pointer (some ⟨bb, 11, none⟩))
  | 5 => .val (.int .u32 (n.si : Int))
  | 6 => .val (.pointer (some ⟨bb, 12, none⟩))
  | 7 => .val (.int .u32 (n.db : Int))
  | 8 => .sl .u32 4294967296 [n.si, n.db]
  | 9 => .val (.pointer (some ⟨pw, 0, none⟩))
  | _ => .val undef
theorem frameC32 (a : Act) (hs : a.tmps.size = 32) (hd : a.defers = []) : ∃ f : Nat → Value, a = ⟨#[f 0, f 1, f 2, f 3, f 4, f 5, f 6, f 7, f 8, f 9, f 10, f 11, f 12, f 13, f 14, f 15, f 16, f 17, f 18, f 19, f 20, f 21, f 22, f 23, f 24, f 25, f 26, f 27, f 28, f 29, f 30, f 31], []⟩ ∧ ∀ k, a.tmps.getD k undef = f k := by
  refine ⟨fun k => a.tmps.getD k undef, ?_, fun _ => rfl⟩
  refine (act_eq hs hd).trans ?_
  congr 1
  apply Array.ext'
  rw [Array.toList_map, Array.toList_range]
  rfl

set_option maxRecDepth 100000 in
set_option maxHeartbeats 1600000 in
theorem inEncode_any (n : Ino) (w : World) (hf : n.Fits) :
    Calls Try.prog 9 #[n.v] w (RetOwn w (encI n)) := by
  unfold Ino.v
  have HF := Lib.hid hf
  obtain ⟨B, hB⟩ : ∃ x, x = w.alloc (.cells #[.int .u8 (n.ki : Int), .int .u16 (n.ln : Int), .int .u32 (n.sz : Int), .int .u32 (n.d0 : Int), .int .u32 (n.d1 : Int), .int .u32 (n.d2 : Int), .int .u32 (n.d3 : Int), .int .u32 (n.d4 : Int), .int .u32 (n.d5 : Int), .int .u32 (n.d6 : Int), .int .u32 (n.d7 : Int), .int .u32 (n.si : Int), .int .u32 (n.db : Int)] 26) := ⟨_, rfl⟩
  obtain ⟨bb, hbb⟩ : ∃ x, x = w.heap.size := ⟨_, rfl⟩
  have hBs : B.heap.size = bb + 1 := by rw [hB, hbb]; simp
  have hBb : Below w.heap.size w B := by rw [hB]; exact bel_alloc (Below.refl _ _) _
  have hBh : B.heap[bb]? = some (.cells #[.int .u8 (n.ki : Int), .int .u16 (n.ln : Int), .int .u32 (n.sz : Int), .int .u32 (n.d0 : Int), .int .u32 (n.d1 : Int), .int .u32 (n.d2 : Int), .int .u32 (n.d3 : Int), .int .u32 (n.d4 : Int), .int .u32 (n.d5 : Int), .int .u32 (n.d6 : Int), .int .u32 (n.d7 : Int), .int .u32 (n.si : Int), .int .u32 (n.db : Int)] 26 (0, 0)) := by rw [hB, hbb]; exact heap_alloc_new _ _
  obtain ⟨W, hW⟩ : ∃ x, x = B.alloc (.cells #[.slice none 0 0] 69) := ⟨_, rfl⟩
  obtain ⟨pw, hpw⟩ : ∃ x, x = B.heap.size := ⟨_, rfl⟩
  have hWb : Below B.heap.size B W := by rw [hW]; exact bel_alloc (Below.refl _ _) _
  have hWh : W.heap[bb]? = some (.cells #[.int .u8 (n.ki : Int), .int .u16 (n.ln : Int), .int .u32 (n.sz : Int), .int .u32 (n.d0 : Int), .int .u32 (n.d1 : Int), .int .u32 (n.d2 : Int), .int .u32 (n.d3 : Int), .int .u32 (n.d4 : Int), .int .u32 (n.d5 : Int), .int .u32 (n.d6 : Int), .int .u32 (n.d7 : Int), .int .u32 (n.si : Int), .int .u32 (n.db : Int)] 26 (0, 0)) := (hWb.block bb (by omega)).trans hBh
  have hww : WR pw W pw (.slice none 0 0) [] := by rw [hpw, hW]; exact ⟨Nat.le_refl _, heap_alloc_new _ _, own_nil _ _, fun h => by cases h⟩
  have HBP : Hid (bb < pw ∧ w.heap.size ≤ pw ∧ pw < W.heap.size) := Lib.hid ⟨by omega, by omega, wr_lt hww⟩
  have HBW := Lib.hid (bel_trans hBb hWb)
  have keep : ∀ w' : World, Below pw W w' → w'.heap[bb]? = some (.cells #[.int .u8 (n.ki : Int), .int .u16 (n.ln : Int), .int .u32 (n.sz : Int), .int .u32 (n.d0 : Int), .int .u32 (n.d1 : Int), .int .u32 (n.d2 : Int), .int .u32 (n.d3 : Int), .int .u32 (n.d4 : Int), .int .u32 (n.d5 : Int), .int .u32 (n.d6 : Int), .int .u32 (n.d7 : Int), .int .u32 (n.si : Int), .int .u32 (n.db : Int)] 26 (0, 0)) := fun w' h => (h.block bb (by omega)).trans hWh
  have HC : Hid (∀ w' : World, Below pw W w' → w'.cell? ⟨bb, 0, none⟩ = some (.int .u8 (n.ki : Int)) ∧ w'.cell? ⟨bb, 1, none⟩ = some (.int .u16 (n.ln : Int)) ∧ w'.cell? ⟨bb, 2, none⟩ = some (.int .u32 (n.sz : Int)) ∧ w'.cell? ⟨bb, 11, none⟩ = some (.int .u32 (n.si : Int)) ∧ w'.cell? ⟨bb, 12, none⟩ = some (.int .u32 (n.db : Int))) := Lib.hid fun w' h => by
    have := keep w' h
    simp [World.cell?, this]
  have HARR : Hid (∀ w' : World, Below pw W w' → RowK .u32 4294967296 w' (some ⟨bb, 3, none⟩) 8 n.ds) := Lib.hid fun w' h => by
    have h1 := keep w' h
    refine ⟨rfl, hf.ds, fun _ => ⟨bb, 3, rfl, fun i hi => ?_⟩⟩
    rcases (show i = 0 ∨ i = 1 ∨ i = 2 ∨ i = 3 ∨ i = 4 ∨ i = 5 ∨ i = 6 ∨ i = 7 by omega) with rfl | rfl | rfl | rfl | rfl | rfl | rfl | rfl <;> simp [World.cell?, h1, Ino.ds]
  have HWW := Lib.hid hww
  have HBS : Hid (B.heap.size = bb + 1 ∧ pw = B.heap.size ∧ bb = w.heap.size) := Lib.hid ⟨hBs, hpw, hbb⟩
  clear hf hBb hBh hWb hWh hww keep hBs
  go_enter Try.func9, Try.ntmps9
  go_wp2_with fail
  rw [← hB, ← hbb]
  rw [← hW]
  rw [← HBS.out.1, ← hpw]
  clear hB hbb hW hpw
  have HXL := Lib.hid (inX_len n)
  refine wp_region_inv0 (fun a0 => ChI pw 6 13 32 [4, 8, 12] (inX n) (inV n pw bb) a0 W) (by kernel_rfl) (by kernel_rfl) ?start ?step ?done
  case start => exact chI_start rfl rfl (Below.refl _ _).drew (wr_keep HWW.out (Below.refl _ _).drew)
  case step =>
    intro L a' w' i o hI ho hL hpre
    have hpz := hI.lt
    match i, ho, hL, hpre with
    | 0, ho, hL, hpre =>
      clear hL
      cases ho
      have q : a'.tmps.getD 3 undef = .pointer (some ⟨pw, 0, none⟩) := (hI.old 3 (by omega)).trans rfl
      refine wpOp_step rfl fun K hK => ?_
      have hK' := hK _ _ (hI.plain 0 (v := .pointer (some ⟨pw, 0, none⟩)) (by omega) (by omega) (by decide) (Below.refl _ _) (fun _ _ => rfl) rfl)
      simpa [go_sem, Act.eval, q] using hK'
    | 1, ho, hL, hpre =>
      clear hL
      cases ho
      have q : a'.tmps.getD 1 undef = .pointer (some ⟨bb, 0, none⟩) := (hI.old 1 (by omega)).trans rfl
      refine wpOp_step rfl fun K hK => ?_
      have hK' := hK _ _ (hI.plain 1 (v := .pointer (some ⟨bb, 0, none⟩)) (by omega) (by omega) (by decide) (Below.refl _ _) (fun _ _ => rfl) rfl)
      simpa [go_sem, Act.eval, q] using hK'
    | 2, ho, hL, hpre =>
      clear hL
      cases ho
      have q : a'.tmps.getD 7 undef = .pointer (some ⟨bb, 0, none⟩) := hI.at 1 (by omega) (hpre ⟨1, .data⟩ (by simp) rfl) rfl rfl
      have hc : w'.cell? ⟨bb, 0, none⟩ = some (.int .u8 (n.ki : Int)) := (HC.out w' hI.bel).1
      refine wpOp_step rfl fun K hK => ?_
      have hK' := hK _ _ (hI.plain 2 (v := .int .u8 (n.ki : Int)) (by omega) (by omega) (by decide) (Below.refl _ _) (fun _ _ => rfl) rfl)
      simpa [go_sem, Act.eval, q, hc] using hK'
    | 3, ho, hL, hpre =>
      clear hL
      cases ho
      have q0 : a'.tmps.getD 8 undef = .int .u8 (n.ki : Int) := hI.at 2 (by omega) (hpre ⟨2, .data⟩ (by simp) rfl) rfl rfl
      have e0 : a'.tmps[8]?.getD undef = .int .u8 (n.ki : Int) := by rw [← q0]; simp
      refine wpOp_step rfl fun K hK => ?_
      have hK' := hK _ _ (hI.plain 3 (w' := w'.alloc (.cells #[.int .u8 (n.ki : Int), .int .u8 ((0 : Nat) : Int)] 5)) (v := .slice (some ⟨w'.heap.size, 0, none⟩) 2 2) (by omega) (by omega) (by decide) (bel_alloc (Below.refl _ _) _) (fun sv hs => SlC.new2 (by first | exact HF.out.ki | omega) (by omega) hpz (fun k hk => (hs k hk).2)) rfl)
      simpa [go_sem, Act.eval, e0] using hK'
    | 4, ho, hL, hpre =>
      cases ho
      obtain ⟨sv, hw, hV, hnx⟩ := hI.call 4 0 (by omega) (by omega) rfl (by decide) (by decide) hL (fun h => absurd rfl h)
      have q1 : a'.tmps.getD 6 undef = .pointer (some ⟨pw, 0, none⟩) := hV 0 (by omega) (hpre ⟨0, .data⟩ (by simp) rfl)
      obtain ⟨b, off, q2, hrow, f1, f2, f3⟩ : SlC .u8 256 pw w' sv (a'.tmps.getD 9 undef) [n.ki, 0] := hV 3 (by omega) (hpre ⟨3, .data⟩ (by simp) rfl)
      refine wpOp_step rfl fun K hK => ?_
      have hcc := wU8_any pw pw sv _ w' hw (Nat.le_of_lt hpz) (some ⟨b, off, none⟩) _ ([n.ki, 0]).length _ hrow (fun e => by cases e) (by have := HXL.out 0; simp; omega)
      simp [go_sem, Act.eval, q1, q2]
      refine hcc.mono ?_
      rintro e w2 ⟨rfl, sv2, hw2, hm2⟩
      exact hK _ _ (hnx sv2 w2 _ _ rfl hm2 hw2 rfl)
    | 5, ho, hL, hpre =>
      clear hL
      cases ho
      have q : a'.tmps.getD 1 undef = .pointer (some ⟨bb, 0, none⟩) := (hI.old 1 (by omega)).trans rfl
      refine wpOp_step rfl fun K hK => ?_
      have hK' := hK _ _ (hI.plain 5 (v := .pointer (some ⟨bb, 1, none⟩)) (by omega) (by omega) (by decide) (Below.refl _ _) (fun _ _ => rfl) rfl)
      simpa [go_sem, Act.eval, q] using hK'
    | 6, ho, hL, hpre =>
      clear hL
      cases ho
      have q : a'.tmps.getD 11 undef = .pointer (some ⟨bb, 1, none⟩) := hI.at 5 (by omega) (hpre ⟨5, .data⟩ (by simp) rfl) rfl rfl
      have hc : w'.cell? ⟨bb, 1, none⟩ = some (.int .u16 (n.ln : Int)) := (HC.out w' hI.bel).2.1
      refine wpOp_step rfl fun K hK => ?_
      have hK' := hK _ _ (hI.plain 6 (v := .int .u16 (n.ln : Int)) (by omega) (by omega) (by decide) (Below.refl _ _) (fun _ _ => rfl) rfl)
      simpa [go_sem, Act.eval, q, hc] using hK'
    | 7, ho, hL, hpre =>
      clear hL
      cases ho
      have q0 : a'.tmps.getD 12 undef = .int .u16 (n.ln : Int) := hI.at 6 (by omega) (hpre ⟨6, .data⟩ (by simp) rfl) rfl rfl
      have e0 : a'.tmps[12]?.getD undef = .int .u16 (n.ln : Int) := by rw [← q0]; simp
      refine wpOp_step rfl fun K hK => ?_
      have hK' := hK _ _ (hI.plain 7 (w' := w'.alloc (.cells #[.int .u16 (n.ln : Int)] 22)) (v := .slice (some ⟨w'.heap.size, 0, none⟩) 1 1) (by omega) (by omega) (by decide) (bel_alloc (Below.refl _ _) _) (fun sv hs => SlC.new1 (by first | exact HF.out.ln | omega) hpz (fun k hk => (hs k hk).2)) rfl)
      simpa [go_sem, Act.eval, e0] using hK'
    | 8, ho, hL, hpre =>
      cases ho
      obtain ⟨sv, hw, hV, hnx⟩ := hI.call 8 1 (by omega) (by omega) rfl (by decide) (by decide) hL (fun _ => hpre ⟨4, .chain⟩ (by simp) rfl)
      have q1 : a'.tmps.getD 10 undef = .pointer (some ⟨pw, 0, none⟩) := hV 4 (by omega) (hpre ⟨4, .data⟩ (by simp) rfl)
      obtain ⟨b, off, q2, hrow, f1, f2, f3⟩ : SlC .u16 65536 pw w' sv (a'.tmps.getD 13 undef) [n.ln] := hV 7 (by omega) (hpre ⟨7, .data⟩ (by simp) rfl)
      refine wpOp_step rfl fun K hK => ?_
      have hcc := wU16_any pw pw sv _ w' hw (Nat.le_of_lt hpz) (some ⟨b, off, none⟩) _ ([n.ln]).length _ hrow (fun _ x hx => by cases hx; exact ⟨f1, f2⟩) (by first | (simp; done) | simp [Ino.ds]) (by have := HXL.out 1; omega)
      simp [go_sem, Act.eval, q1, q2]
      refine hcc.mono ?_
      rintro e w2 ⟨rfl, sv2, hw2, hm2⟩
      exact hK _ _ (hnx sv2 w2 _ _ rfl hm2 hw2 rfl)
    | 9, ho, hL, hpre =>
      clear hL
      cases ho
      have q : a'.tmps.getD 1 undef = .pointer (some ⟨bb, 0, none⟩) := (hI.old 1 (by omega)).trans rfl
      refine wpOp_step rfl fun K hK => ?_
      have hK' := hK _ _ (hI.plain 9 (v := .pointer (some ⟨bb, 2, none⟩)) (by omega) (by omega) (by decide) (Below.refl _ _) (fun _ _ => rfl) rfl)
      simpa [go_sem, Act.eval, q] using hK'
    | 10, ho, hL, hpre =>
      clear hL
      cases ho
      have q : a'.tmps.getD 15 undef = .pointer (some ⟨bb, 2, none⟩) := hI.at 9 (by omega) (hpre ⟨9, .data⟩ (by simp) rfl) rfl rfl
      have hc : w'.cell? ⟨bb, 2, none⟩ = some (.int .u32 (n.sz : Int)) := (HC.out w' hI.bel).2.2.1
      refine wpOp_step rfl fun K hK => ?_
      have hK' := hK _ _ (hI.plain 10 (v := .int .u32 (n.sz : Int)) (by omega) (by omega) (by decide) (Below.refl _ _) (fun _ _ => rfl) rfl)
      simpa [go_sem, Act.eval, q, hc] using hK'
    | 11, ho, hL, hpre =>
      clear hL
      cases ho
      have q0 : a'.tmps.getD 16 undef = .int .u32 (n.sz : Int) := hI.at 10 (by omega) (hpre ⟨10, .data⟩ (by simp) rfl) rfl rfl
      have e0 : a'.tmps[16]?.getD undef = .int .u32 (n.sz : Int) := by rw [← q0]; simp
      refine wpOp_step rfl fun K hK => ?_
      have hK' := hK _ _ (hI.plain 11 (w' := w'.alloc (.cells #[.int .u32 (n.sz : Int)] 23)) (v := .slice (some ⟨w'.heap.size, 0, none⟩) 1 1) (by omega) (by omega) (by decide) (bel_alloc (Below.refl _ _) _) (fun sv hs => SlC.new1 (by first | exact HF.out.sz | omega) hpz (fun k hk => (hs k hk).2)) rfl)
      simpa [go_sem, Act.eval, e0] using hK'
    | 12, ho, hL, hpre =>
      cases ho
      obtain ⟨sv, hw, hV, hnx⟩ := hI.call 12 2 (by omega) (by omega) rfl (by decide) (by decide) hL (fun _ => hpre ⟨8, .chain⟩ (by simp) rfl)
      have q1 : a'.tmps.getD 14 undef = .pointer (some ⟨pw, 0, none⟩) := hV 8 (by omega) (hpre ⟨8, .data⟩ (by simp) rfl)
      obtain ⟨b, off, q2, hrow, f1, f2, f3⟩ : SlC .u32 4294967296 pw w' sv (a'.tmps.getD 17 undef) [n.sz] := hV 11 (by omega) (hpre ⟨11, .data⟩ (by simp) rfl)
      refine wpOp_step rfl fun K hK => ?_
      have hcc := wU32_any pw pw sv _ w' hw (Nat.le_of_lt hpz) (some ⟨b, off, none⟩) _ ([n.sz]).length _ hrow (fun _ x hx => by cases hx; exact ⟨f1, f2⟩) (by first | (simp; done) | simp [Ino.ds]) (by have := HXL.out 2; omega)
      simp [go_sem, Act.eval, q1, q2]
      refine hcc.mono ?_
      rintro e w2 ⟨rfl, sv2, hw2, hm2⟩
      exact hK _ _ (hnx sv2 w2 _ _ rfl hm2 hw2 rfl)
    | i + 13, ho, hL, hpre => exact absurd (Array.getElem?_eq_some_iff.1 ho).1 (by simp)
  case done =>
    intro L a' w' hI hL
    obtain ⟨sv, hw⟩ := hI.done (fun j hj => hL j hj) (by decide)
    have f1 : a'.tmps.getD 1 undef = .pointer (some ⟨bb, 0, none⟩) := (hI.old 1 (by omega)).trans rfl
    have f3 : a'.tmps.getD 3 undef = .pointer (some ⟨pw, 0, none⟩) := (hI.old 3 (by omega)).trans rfl
    obtain ⟨f, hfr, hfk⟩ := frameC32 a' hI.sz hI.df
    rw [hfk] at f1 f3
    have hbel := hI.bel
    have hw : WR pw w' pw sv (inY n 0) := hw
    have HWW2 := Lib.hid hw
    have HC := Lib.hid fun (x : World) (h : Below pw w' x) => HC.out x (hbel.trans h)
    have HARR := Lib.hid fun (x : World) (h : Below pw w' x) => HARR.out x (hbel.trans h)
    have HBL : Hid (Below w.heap.size w w') := Lib.hid (HBW.out.trans (hbel.mono HBP.out.2.1))
    have HXL := Lib.hid (inY_len n)
    clear hI hL hbel hw
    rw [hfr, f1, f3]
    clear hfr hfk f1 f3
    go_wp2_with fail
    refine wp_region_inv0 (fun a0 => ChI pw 19 10 32 [3, 9] (inY n) (inW n pw bb) a0 w') (by kernel_rfl) (by kernel_rfl) ?start ?step ?done
    case start => exact chI_start rfl rfl (Below.refl _ _).drew (wr_keep HWW2.out (Below.refl _ _).drew)
    case step =>
      intro L a' w' i o hI ho hL hpre
      have hpz := hI.lt
      match i, ho, hL, hpre with
      | 0, ho, hL, hpre =>
        clear hL
        cases ho
        have q : a'.tmps.getD 3 undef = .pointer (some ⟨pw, 0, none⟩) := (hI.old 3 (by omega)).trans rfl
        refine wpOp_step rfl fun K hK => ?_
        have hK' := hK _ _ (hI.plain 0 (v := .pointer (some ⟨pw, 0, none⟩)) (by omega) (by omega) (by decide) (Below.refl _ _) (fun _ _ => rfl) rfl)
        simpa [go_sem, Act.eval, q] using hK'
      | 1, ho, hL, hpre =>
        clear hL
        cases ho
        have q : a'.tmps.getD 1 undef = .pointer (some ⟨bb, 0, none⟩) := (hI.old 1 (by omega)).trans rfl
        refine wpOp_step rfl fun K hK => ?_
        have hK' := hK _ _ (hI.plain 1 (v := .pointer (some ⟨bb, 3, none⟩)) (by omega) (by omega) (by decide) (Below.refl _ _) (fun _ _ => rfl) rfl)
        simpa [go_sem, Act.eval, q] using hK'
      | 2, ho, hL, hpre =>
        clear hL
        cases ho
        have q : a'.tmps.getD 20 undef = .pointer (some ⟨bb, 3, none⟩) := hI.at 1 (by omega) (hpre ⟨1, .data⟩ (by simp) rfl) rfl rfl
        refine wpOp_step rfl fun K hK => ?_
        have hK' := hK _ _ (hI.plain 2 (v := .slice (some ⟨bb, 3, none⟩) 8 8) (by omega) (by omega) (by decide) (Below.refl _ _) (fun sv hs => ⟨bb, 3, rfl, HARR.out w' hI.bel, (by have := HBP.out; omega), (fun e => by have := hs bb e.symm; have := HBP.out; omega), (by have := HBP.out; omega)⟩) rfl)
        simpa [go_sem, Act.eval, q] using hK'
      | 3, ho, hL, hpre =>
        cases ho
        obtain ⟨sv, hw, hV, hnx⟩ := hI.call 3 0 (by omega) (by omega) rfl (by decide) (by decide) hL (fun h => absurd rfl h)
        have q1 : a'.tmps.getD 19 undef = .pointer (some ⟨pw, 0, none⟩) := hV 0 (by omega) (hpre ⟨0, .data⟩ (by simp) rfl)
        obtain ⟨b, off, q2, hrow, f1, f2, f3⟩ : SlC .u32 4294967296 pw w' sv (a'.tmps.getD 21 undef) n.ds := hV 2 (by omega) (hpre ⟨2, .data⟩ (by simp) rfl)
        refine wpOp_step rfl fun K hK => ?_
        have hcc := wU32_any pw pw sv _ w' hw (Nat.le_of_lt hpz) (some ⟨b, off, none⟩) _ (n.ds).length _ hrow (fun _ x hx => by cases hx; exact ⟨f1, f2⟩) (by first | (simp; done) | simp [Ino.ds]) (by have := HXL.out 0; omega)
        simp [go_sem, Act.eval, q1, q2]
        refine hcc.mono ?_
        rintro e w2 ⟨rfl, sv2, hw2, hm2⟩
        exact hK _ _ (hnx sv2 w2 _ _ rfl hm2 hw2 rfl)
      | 4, ho, hL, hpre =>
        clear hL
        cases ho
        have q : a'.tmps.getD 1 undef = .pointer (some ⟨bb, 0, none⟩) := (hI.old 1 (by omega)).trans rfl
        refine wpOp_step rfl fun K hK => ?_
        have hK' := hK _ _ (hI.plain 4 (v := .pointer (some ⟨bb, 11, none⟩)) (by omega) (by omega) (by decide) (Below.refl _ _) (fun _ _ => rfl) rfl)
        simpa [go_sem, Act.eval, q] using hK'
      | 5, ho, hL, hpre =>
        clear hL
        cases ho
        have q : a'.tmps.getD 23 undef = .pointer (some ⟨bb, 11, none⟩) := hI.at 4 (by omega) (hpre ⟨4, .data⟩ (by simp) rfl) rfl rfl
        have hc : w'.cell? ⟨bb, 11, none⟩ = some (.int .u32 (n.si : Int)) := (HC.out w' hI.bel).2.2.2.1
        refine wpOp_step rfl fun K hK => ?_
        have hK' := hK _ _ (hI.plain 5 (v := .int .u32 (n.si : Int)) (by omega) (by omega) (by decide) (Below.refl _ _) (fun _ _ => rfl) rfl)
        simpa [go_sem, Act.eval, q, hc] using hK'
      | 6, ho, hL, hpre =>
        clear hL
        cases ho
        have q : a'.tmps.getD 1 undef = .pointer (some ⟨bb, 0, none⟩) := (hI.old 1 (by omega)).trans rfl
        refine wpOp_step rfl fun K hK => ?_
        have hK' := hK _ _ (hI.plain 6 (v := .pointer (some ⟨bb, 12, none⟩)) (by omega) (by omega) (by decide) (Below.refl _ _) (fun _ _ => rfl) rfl)
        simpa [go_sem, Act.eval, q] using hK'
      | 7, ho, hL, hpre =>
        clear hL
        cases ho
        have q : a'.tmps.getD 25 undef = .pointer (some ⟨bb, 12, none⟩) := hI.at 6 (by omega) (hpre ⟨6, .data⟩ (by simp) rfl) rfl rfl
        have hc : w'.cell? ⟨bb, 12, none⟩ = some (.int .u32 (n.db : Int)) := (HC.out w' hI.bel).2.2.2.2
        refine wpOp_step rfl fun K hK => ?_
        have hK' := hK _ _ (hI.plain 7 (v := .int .u32 (n.db : Int)) (by omega) (by omega) (by decide) (Below.refl _ _) (fun _ _ => rfl) rfl)
        simpa [go_sem, Act.eval, q, hc] using hK'
      | 8, ho, hL, hpre =>
        clear hL
        cases ho
        have q0 : a'.tmps.getD 24 undef = .int .u32 (n.si : Int) := hI.at 5 (by omega) (hpre ⟨5, .data⟩ (by simp) rfl) rfl rfl
        have e0 : a'.tmps[24]?.getD undef = .int .u32 (n.si : Int) := by rw [← q0]; simp
        have q1 : a'.tmps.getD 26 undef = .int .u32 (n.db : Int) := hI.at 7 (by omega) (hpre ⟨7, .data⟩ (by simp) rfl) rfl rfl
        have e1 : a'.tmps[26]?.getD undef = .int .u32 (n.db : Int) := by rw [← q1]; simp
        refine wpOp_step rfl fun K hK => ?_
        have hK' := hK _ _ (hI.plain 8 (w' := w'.alloc (.cells #[.int .u32 (n.si : Int), .int .u32 (n.db : Int)] 23)) (v := .slice (some ⟨w'.heap.size, 0, none⟩) 2 2) (by omega) (by omega) (by decide) (bel_alloc (Below.refl _ _) _) (fun sv hs => SlC.new2 (by first | exact HF.out.si | omega) (by first | exact HF.out.db | omega) hpz (fun k hk => (hs k hk).2)) rfl)
        simpa [go_sem, Act.eval, e0, e1] using hK'
      | 9, ho, hL, hpre =>
        cases ho
        obtain ⟨sv, hw, hV, hnx⟩ := hI.call 9 1 (by omega) (by omega) rfl (by decide) (by decide) hL (fun _ => hpre ⟨3, .chain⟩ (by simp) rfl)
        have q1 : a'.tmps.getD 22 undef = .pointer (some ⟨pw, 0, none⟩) := hV 3 (by omega) (hpre ⟨3, .data⟩ (by simp) rfl)
        obtain ⟨b, off, q2, hrow, f1, f2, f3⟩ : SlC .u32 4294967296 pw w' sv (a'.tmps.getD 27 undef) [n.si, n.db] := hV 8 (by omega) (hpre ⟨8, .data⟩ (by simp) rfl)
        refine wpOp_step rfl fun K hK => ?_
        have hcc := wU32_any pw pw sv _ w' hw (Nat.le_of_lt hpz) (some ⟨b, off, none⟩) _ ([n.si, n.db]).length _ hrow (fun _ x hx => by cases hx; exact ⟨f1, f2⟩) (by first | (simp; done) | simp [Ino.ds]) (by have := HXL.out 1; omega)
        simp [go_sem, Act.eval, q1, q2]
        refine hcc.mono ?_
        rintro e w2 ⟨rfl, sv2, hw2, hm2⟩
        exact hK _ _ (hnx sv2 w2 _ _ rfl hm2 hw2 rfl)
      | i + 10, ho, hL, hpre => exact absurd (Array.getElem?_eq_some_iff.1 ho).1 (by simp)
    case done =>
      intro L2 a2 w2 hI2 hL2
      obtain ⟨sv2, hw2⟩ := hI2.done (fun j hj => hL2 j hj) (by decide)
      have f3 : a2.tmps.getD 3 undef = .pointer (some ⟨pw, 0, none⟩) := (hI2.old 3 (by omega)).trans rfl
      obtain ⟨g, hgr, hgk⟩ := frameC32 a2 hI2.sz hI2.df
      rw [hgk] at f3
      have HBL2 : Hid (Below w.heap.size w w2) := Lib.hid (HBL.out.trans (hI2.bel.mono HBP.out.2.1))
      have hz2 := wr_lt hw2
      have hw2 : WR pw w2 pw sv2 (inY n 2) := hw2
      have HP := Lib.hid (wPad_any pw pw sv2 _ w2 hw2 (Nat.le_of_lt hz2) 64 (by omega) (by omega) (by rw [inY_end]; omega))
      have HW2 := Lib.hid hw2
      clear hI2 hL2 hw2 hz2
      rw [hgr, f3]
      clear hgr hgk f3
      go_wp2_with fail
      ((with_reducible refine HP.out.mono ?_))
      rintro e w3 ⟨rfl, sv3, hw3, hm3⟩
      have HBL3 : Hid (Below w.heap.size w w3) := Lib.hid (HBL2.out.trans ((hm3.below HW2.out (Nat.le_of_lt (wr_lt HW2.out))).mono HBP.out.2.1))
      have HB := Lib.hid (wBytes_any pw pw sv3 _ w3 hw3 (by rw [encL n]; omega))
      clear hw3 hm3
      go_wp2_with fail
      ((with_reducible refine HB.out.mono ?_))
      rintro e w4 ⟨sv4, rfl, ho4, hb4⟩
      have HO4 := Lib.hid ho4
      have HBL4 := Lib.hid (bel_trans HBL3.out hb4)
      have hsz := HBL3.out.size
      clear ho4 hb4
      go_wp2_with fail
      go_ret
      exact ⟨_, rfl, own_mono HO4.out hsz, HBL4.out⟩
end Go.Proofs.Ytnnaijeapapehaa
