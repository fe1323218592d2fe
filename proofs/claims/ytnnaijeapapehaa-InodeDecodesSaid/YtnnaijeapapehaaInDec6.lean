/- InodeDecodes: its first test, where the given bytes are an inode. -/
import Derived.Test.YtnnaijeapapehaaInDs
import Derived.Test.YtnnaijeapapehaaGi
namespace Go.Proofs.Ytnnaijeapapehaa
open Go.RowKit

inductive DS where
  | val (v : Value)
  | row
  | enc
  | any
def DS.ok (m : Ino) (w : World) : DS → Value → Prop
  | .val u, v => v = u
  | .row, v => ∃ xa xc, v = .agg #[.int .i64 (m.ki : Int), .int .i64 (m.ln : Int), .int .i64 (m.sz : Int), .slice xa 10 xc] ∧ RowK .i64 4294967296 w xa 10 m.at_
  | .enc, v => ∃ ea ec, v = .slice ea 64 ec ∧ Row w ea 64 (encI m)
  | .any, _ => True
theorem DS.mono {m : Ino} {w w' : World} (s : DS) {v : Value} (h : s.ok m w v) (hb : Below w.heap.size w w') : s.ok m w' v := by
  cases s with
  | val u => exact h
  | row => obtain ⟨xa, xc, h1, h2⟩ := h; exact ⟨xa, xc, h1, rowK_below h2 hb⟩
  | enc => obtain ⟨ea, ec, h1, h2⟩ := h; exact ⟨ea, ec, h1, row_keepB h2 hb⟩
  | any => trivial
def dS (m : Ino) (la : Option Addr) (lc : Nat) : Nat → DS
  | 0 => .val (.int .i64 0)
  | 1 => .val (.int .i64 0)
  | 2 => .val (.bool false)
  | 3 => .val (.bool false)
  | 4 => .val (.int .i64 0)
  | 5 => .val (.bool true)
  | 6 => .val (.bool true)
  | 7 => .val (.agg #[.int .u8 (m.ki : Int), .int .u16 (m.ln : Int), .int .u32 (m.sz : Int), .int .u32 (m.d0 : Int), .int .u32 (m.d1 : Int), .int .u32 (m.d2 : Int), .int .u32 (m.d3 : Int), .int .u32 (m.d4 : Int), .int .u32 (m.d5 : Int), .int .u32 (m.d6 : Int), .int .u32 (m.d7 : Int), .int .u32 (m.si : Int), .int .u32 (m.db : Int)])
  | 8 => .row
  | 9 => .enc
  | 10 => .val (.agg #[.int .i64 (m.ki : Int), .int .i64 (m.ln : Int), .int .i64 (m.sz : Int), .slice la 10 lc])
  | 11 => .enc
  | 12 => .val (.bool true)
  | 13 => .val (.bool false)
  | 14 => .val (.bool false)
  | 15 => .val (.bool false)
  | 16 => .val (.bool false)
  | 17 => .val (.int .i64 0)
  | 18 => .val (.bool false)
  | 19 => .val (.bool false)
  | 20 => .any
  | 21 => .any
  | 22 => .any
  | 23 => .val (.bool false)
  | 24 => .val (.bool false)
  | _ => .any
theorem dS_mono {m : Ino} {la : Option Addr} {lc : Nat} (j : Nat) (w w' : World) (v : Value) (h : (dS m la lc j).ok m w v) (hb : Below w.heap.size w w') : (dS m la lc j).ok m w' v := DS.mono _ h hb
set_option maxRecDepth 100000 in
set_option maxHeartbeats 4000000 in
theorem inDec6 (m : Ino) (la : Option Addr) (lc p7 p9 : Nat) (U : World) (a0 : Act) (hsz : a0.tmps.size = 135) (o7 : a0.tmps.getD 7 undef = .pointer (some ⟨p7, 0, none⟩)) (o8 : a0.tmps.getD 8 undef = .int .i64 0) (o9 : a0.tmps.getD 9 undef = .pointer (some ⟨p9, 0, none⟩)) (o10 : a0.tmps.getD 10 undef = .int .i64 0)
    (HUX : Hid (∀ x : World, Below U.heap.size U x → x.heap[p7]? = some (.cells m.cl 26 (0, 0)) ∧ x.heap[p9]? = some (.cells #[.int .i64 (m.ki : Int), .int .i64 (m.ln : Int), .int .i64 (m.sz : Int), .slice la 10 lc] 34 (0, 0)))) (HUK : Hid (RowK .i64 4294967296 U la 10 m.at_)) (hf : m.Fits) (Q : Exit → Act → World → Prop)
    (hQ : ∀ (a' : Act) (w' : World), a'.tmps.size = 135 → a'.defers = a0.defers → (∀ k, (k < 51 ∨ 51 + 25 ≤ k) → a'.tmps.getD k undef = a0.tmps.getD k undef) → a'.tmps.getD 75 undef = .bool false → Below U.heap.size U w' → Q .normal a' w') :
    (Code.region 6 #[
    { dst := some 51, op := Go.Op.move (Go.Operand.tmp 8), type := 36, pos := "law.go:54", after := #[], guard := none }, 
    { dst := some 52, op := Go.Op.move (Go.Operand.tmp 10), type := 3, pos := "law.go:54", after := #[], guard := none }, 
    { dst := some 53, op := Go.Op.binOp Go.BinOp.neq 3 (Go.Operand.tmp 51) (Go.Operand.tmp 52) 3, type := 4, pos := "law.go:54", after := #[{ on := 0, ground := Go.Ground.data }, { on := 1, ground := Go.Ground.data }], guard := none }, 
    { dst := some 54, op := Go.Op.move (Go.Operand.tmp 53), type := 4, pos := "law.go:54", after := #[{ on := 2, ground := Go.Ground.data }], guard := none }, 
    { dst := some 55, op := Go.Op.move (Go.Operand.tmp 10), type := 3, pos := "law.go:54", after := #[{ on := 3, ground := Go.Ground.guard }], guard := some (3, false) }, 
    { dst := some 56, op := Go.Op.binOp Go.BinOp.eql 3 (Go.Operand.tmp 55) (Go.Operand.const (Go.Value.int Go.IntKind.i64 0)) 3, type := 4, pos := "law.go:54", after := #[{ on := 4, ground := Go.Ground.data }, { on := 3, ground := Go.Ground.guard }], guard := some (3, false) }, 
    { dst := some 57, op := Go.Op.move (Go.Operand.tmp 56), type := 4, pos := "law.go:54", after := #[{ on := 5, ground := Go.Ground.data }, { on := 3, ground := Go.Ground.chain }, { on := 3, ground := Go.Ground.guard }], guard := some (3, false) }, 
    { dst := some 58, op := Go.Op.load 26 (Go.Operand.tmp 7), type := 26, pos := "law.go:54", after := #[{ on := 6, ground := Go.Ground.guard }], guard := some (6, true) }, 
    { dst := some 59, op := Go.Op.call { callee := Go.Callee.value (Go.Operand.func 13), args := #[Go.Operand.tmp 58], argTypes := #[26] }, type := 34, pos := "law.go:54", after := #[{ on := 7, ground := Go.Ground.data }, { on := 6, ground := Go.Ground.chain }, { on := 6, ground := Go.Ground.guard }], guard := some (6, true) }, 
    { dst := some 60, op := Go.Op.call { callee := Go.Callee.value (Go.Operand.func 12), args := #[Go.Operand.tmp 59], argTypes := #[34] }, type := 27, pos := "law.go:54", after := #[{ on := 8, ground := Go.Ground.data }, { on := 8, ground := Go.Ground.chain }, { on := 6, ground := Go.Ground.guard }], guard := some (6, true) }, 
    { dst := some 61, op := Go.Op.load 34 (Go.Operand.tmp 9), type := 34, pos := "law.go:54", after := #[{ on := 6, ground := Go.Ground.guard }], guard := some (6, true) }, 
    { dst := some 62, op := Go.Op.call { callee := Go.Callee.value (Go.Operand.func 12), args := #[Go.Operand.tmp 61], argTypes := #[34] }, type := 27, pos := "law.go:54", after := #[{ on := 10, ground := Go.Ground.data }, { on := 9, ground := Go.Ground.chain }, { on := 6, ground := Go.Ground.guard }], guard := some (6, true) }, 
    { dst := some 63, op := Go.Op.call { callee := Go.Callee.value (Go.Operand.func 11), args := #[Go.Operand.tmp 60, Go.Operand.tmp 62], argTypes := #[27, 27] }, type := 4, pos := "law.go:54", after := #[{ on := 9, ground := Go.Ground.data }, { on := 11, ground := Go.Ground.data }, { on := 11, ground := Go.Ground.chain }, { on := 6, ground := Go.Ground.guard }], guard := some (6, true) }, 
    { dst := some 64, op := Go.Op.unOp Go.UnOp.not 4 (Go.Operand.tmp 63), type := 4, pos := "law.go:54", after := #[{ on := 12, ground := Go.Ground.data }, { on := 6, ground := Go.Ground.guard }], guard := some (6, true) }, 
    { dst := some 65, op := Go.Op.pick (Go.Operand.tmp 57) (Go.Operand.tmp 64) (Go.Operand.const (Go.Value.bool false)), type := 4, pos := "law.go:54", after := #[{ on := 6, ground := Go.Ground.data }, { on := 13, ground := Go.Ground.data }, { on := 3, ground := Go.Ground.guard }], guard := some (3, false) }, 
    { dst := some 66, op := Go.Op.pick (Go.Operand.tmp 54) (Go.Operand.const (Go.Value.bool true)) (Go.Operand.tmp 65), type := 4, pos := "law.go:54", after := #[{ on := 3, ground := Go.Ground.data }, { on := 14, ground := Go.Ground.data }], guard := none }, 
    { dst := some 67, op := Go.Op.move (Go.Operand.tmp 66), type := 4, pos := "law.go:54", after := #[{ on := 15, ground := Go.Ground.data }, { on := 12, ground := Go.Ground.chain }], guard := none }, 
    { dst := some 68, op := Go.Op.move (Go.Operand.tmp 10), type := 3, pos := "law.go:54", after := #[{ on := 16, ground := Go.Ground.guard }], guard := some (16, false) }, 
    { dst := some 69, op := Go.Op.binOp Go.BinOp.neq 3 (Go.Operand.tmp 68) (Go.Operand.const (Go.Value.int Go.IntKind.i64 0)) 3, type := 4, pos := "law.go:54", after := #[{ on := 17, ground := Go.Ground.data }, { on := 16, ground := Go.Ground.guard }], guard := some (16, false) }, 
    { dst := some 70, op := Go.Op.move (Go.Operand.tmp 69), type := 4, pos := "law.go:54", after := #[{ on := 18, ground := Go.Ground.data }, { on := 16, ground := Go.Ground.chain }, { on := 16, ground := Go.Ground.guard }], guard := some (16, false) }, 
    { dst := some 71, op := Go.Op.load 26 (Go.Operand.tmp 7), type := 26, pos := "law.go:54", after := #[{ on := 19, ground := Go.Ground.guard }], guard := some (19, true) }, 
    { dst := some 72, op := Go.Op.build 26 #[], type := 26, pos := "law.go:54", after := #[{ on := 19, ground := Go.Ground.guard }], guard := some (19, true) }, 
    { dst := some 73, op := Go.Op.binOp Go.BinOp.neq 26 (Go.Operand.tmp 71) (Go.Operand.tmp 72) 26, type := 4, pos := "law.go:54", after := #[{ on := 20, ground := Go.Ground.data }, { on := 21, ground := Go.Ground.data }, { on := 19, ground := Go.Ground.guard }], guard := some (19, true) }, 
    { dst := some 74, op := Go.Op.pick (Go.Operand.tmp 70) (Go.Operand.tmp 73) (Go.Operand.const (Go.Value.bool false)), type := 4, pos := "law.go:54", after := #[{ on := 19, ground := Go.Ground.data }, { on := 22, ground := Go.Ground.data }, { on := 16, ground := Go.Ground.guard }], guard := some (16, false) }, 
    { dst := some 75, op := Go.Op.pick (Go.Operand.tmp 67) (Go.Operand.const (Go.Value.bool true)) (Go.Operand.tmp 74), type := 4, pos := "law.go:54", after := #[{ on := 16, ground := Go.Ground.data }, { on := 23, ground := Go.Ground.data }], guard := none }] true).wp Try.prog Q a0 U := by
  have HOF := Lib.hid fun x : World => ofI_any m x hf
  have HRE := Lib.hid (refOf_any m hf)
  clear hf
  refine wp_region_inv0 (fun a0' => GI 51 25 135 (fun j x v => (dS m la lc j).ok m x v) a0' U) (by kernel_rfl) (by kernel_rfl) ?start ?step ?done
  case start => exact gi_start hsz (Below.refl _ _).drew
  case done =>
    intro L a' w' hI hL
    exact hQ a' w' hI.sz hI.df hI.old (hI.at 24 (by omega) (hL 24 (by decide)) (d := 75) rfl) hI.bel
  case step =>
    intro L a' w' i o hI ho hL hpre
    clear hL hQ
    match i, ho, hpre with
    | 0, ho, hpre =>
      cases ho
      have q8 : a'.tmps.getD 8 undef = .int .i64 0 := (hI.old 8 (by omega)).trans o8
      have e8 : a'.tmps[8]?.getD undef = .int .i64 0 := by rw [← q8]; simp
      refine wpOp_step rfl fun K hK => ?_
      have hK' := hK _ _ (hI.put dS_mono 0 (by omega) (by omega) (w' := w') (v := .int .i64 0) (Below.refl _ _) rfl (d := 51) rfl)
      simpa [go_sem, Act.eval, Region.wanted, yielded, q8, e8] using hK'
    | 1, ho, hpre =>
      cases ho
      have q10 : a'.tmps.getD 10 undef = .int .i64 0 := (hI.old 10 (by omega)).trans o10
      have e10 : a'.tmps[10]?.getD undef = .int .i64 0 := by rw [← q10]; simp
      refine wpOp_step rfl fun K hK => ?_
      have hK' := hK _ _ (hI.put dS_mono 1 (by omega) (by omega) (w' := w') (v := .int .i64 0) (Below.refl _ _) rfl (d := 52) rfl)
      simpa [go_sem, Act.eval, Region.wanted, yielded, q10, e10] using hK'
    | 2, ho, hpre =>
      cases ho
      have q51 : a'.tmps.getD 51 undef = .int .i64 0 := hI.at 0 (by omega) (hpre ⟨0, .data⟩ (by simp) rfl) (d := 51) rfl
      have e51 : a'.tmps[51]?.getD undef = .int .i64 0 := by rw [← q51]; simp
      have q52 : a'.tmps.getD 52 undef = .int .i64 0 := hI.at 1 (by omega) (hpre ⟨1, .data⟩ (by simp) rfl) (d := 52) rfl
      have e52 : a'.tmps[52]?.getD undef = .int .i64 0 := by rw [← q52]; simp
      refine wpOp_step rfl fun K hK => ?_
      have hK' := hK _ _ (hI.put dS_mono 2 (by omega) (by omega) (w' := w') (v := .bool false) (Below.refl _ _) rfl (d := 53) rfl)
      simpa [go_sem, Act.eval, Region.wanted, yielded, q51, e51, q52, e52] using hK'
    | 3, ho, hpre =>
      cases ho
      have q53 : a'.tmps.getD 53 undef = .bool false := hI.at 2 (by omega) (hpre ⟨2, .data⟩ (by simp) rfl) (d := 53) rfl
      have e53 : a'.tmps[53]?.getD undef = .bool false := by rw [← q53]; simp
      refine wpOp_step rfl fun K hK => ?_
      have hK' := hK _ _ (hI.put dS_mono 3 (by omega) (by omega) (w' := w') (v := .bool false) (Below.refl _ _) rfl (d := 54) rfl)
      simpa [go_sem, Act.eval, Region.wanted, yielded, q53, e53] using hK'
    | 4, ho, hpre =>
      cases ho
      have q10 : a'.tmps.getD 10 undef = .int .i64 0 := (hI.old 10 (by omega)).trans o10
      have e10 : a'.tmps[10]?.getD undef = .int .i64 0 := by rw [← q10]; simp
      have q54 : a'.tmps.getD 54 undef = .bool false := hI.at 3 (by omega) (hpre ⟨3, .guard⟩ (by simp) rfl) (d := 54) rfl
      have e54 : a'.tmps[54]?.getD undef = .bool false := by rw [← q54]; simp
      have s54 := gi_some hI.sz 54 (by omega) q54
      refine wpOp_step rfl fun K hK => ?_
      have hK' := hK _ _ (hI.put dS_mono 4 (by omega) (by omega) (w' := w') (v := .int .i64 0) (Below.refl _ _) rfl (d := 55) rfl)
      simpa [go_sem, Act.eval, Region.wanted, yielded, q10, e10, q54, e54, s54] using hK'
    | 5, ho, hpre =>
      cases ho
      have q55 : a'.tmps.getD 55 undef = .int .i64 0 := hI.at 4 (by omega) (hpre ⟨4, .data⟩ (by simp) rfl) (d := 55) rfl
      have e55 : a'.tmps[55]?.getD undef = .int .i64 0 := by rw [← q55]; simp
      have q54 : a'.tmps.getD 54 undef = .bool false := hI.at 3 (by omega) (hpre ⟨3, .guard⟩ (by simp) rfl) (d := 54) rfl
      have e54 : a'.tmps[54]?.getD undef = .bool false := by rw [← q54]; simp
      have s54 := gi_some hI.sz 54 (by omega) q54
      refine wpOp_step rfl fun K hK => ?_
      have hK' := hK _ _ (hI.put dS_mono 5 (by omega) (by omega) (w' := w') (v := .bool true) (Below.refl _ _) rfl (d := 56) rfl)
      simpa [go_sem, Act.eval, Region.wanted, yielded, q55, e55, q54, e54, s54] using hK'
    | 6, ho, hpre =>
      cases ho
      have q56 : a'.tmps.getD 56 undef = .bool true := hI.at 5 (by omega) (hpre ⟨5, .data⟩ (by simp) rfl) (d := 56) rfl
      have e56 : a'.tmps[56]?.getD undef = .bool true := by rw [← q56]; simp
      have q54 : a'.tmps.getD 54 undef = .bool false := hI.at 3 (by omega) (hpre ⟨3, .guard⟩ (by simp) rfl) (d := 54) rfl
      have e54 : a'.tmps[54]?.getD undef = .bool false := by rw [← q54]; simp
      have s54 := gi_some hI.sz 54 (by omega) q54
      refine wpOp_step rfl fun K hK => ?_
      have hK' := hK _ _ (hI.put dS_mono 6 (by omega) (by omega) (w' := w') (v := .bool true) (Below.refl _ _) rfl (d := 57) rfl)
      simpa [go_sem, Act.eval, Region.wanted, yielded, q56, e56, q54, e54, s54] using hK'
    | 7, ho, hpre =>
      cases ho
      have q7 : a'.tmps.getD 7 undef = .pointer (some ⟨p7, 0, none⟩) := (hI.old 7 (by omega)).trans o7
      have e7 : a'.tmps[7]?.getD undef = .pointer (some ⟨p7, 0, none⟩) := by rw [← q7]; simp
      have q57 : a'.tmps.getD 57 undef = .bool true := hI.at 6 (by omega) (hpre ⟨6, .guard⟩ (by simp) rfl) (d := 57) rfl
      have e57 : a'.tmps[57]?.getD undef = .bool true := by rw [← q57]; simp
      have s57 := gi_some hI.sz 57 (by omega) q57
      obtain ⟨z0, z1, z2, z3, z4, z5, z6, z7, z8, z9, z10, z11, z12⟩ := ino13 (HUX.out w' hI.bel).1
      refine wpOp_step rfl fun K hK => ?_
      have hK' := hK _ _ (hI.put dS_mono 7 (by omega) (by omega) (w' := w') (v := .agg #[.int .u8 (m.ki : Int), .int .u16 (m.ln : Int), .int .u32 (m.sz : Int), .int .u32 (m.d0 : Int), .int .u32 (m.d1 : Int), .int .u32 (m.d2 : Int), .int .u32 (m.d3 : Int), .int .u32 (m.d4 : Int), .int .u32 (m.d5 : Int), .int .u32 (m.d6 : Int), .int .u32 (m.d7 : Int), .int .u32 (m.si : Int), .int .u32 (m.db : Int)]) (Below.refl _ _) rfl (d := 58) rfl)
      simpa [go_sem, Act.eval, Region.wanted, yielded, q7, e7, q57, e57, s57, z0, z1, z2, z3, z4, z5, z6, z7, z8, z9, z10, z11, z12] using hK'
    | 8, ho, hpre =>
      cases ho
      have q58 : a'.tmps.getD 58 undef = .agg #[.int .u8 (m.ki : Int), .int .u16 (m.ln : Int), .int .u32 (m.sz : Int), .int .u32 (m.d0 : Int), .int .u32 (m.d1 : Int), .int .u32 (m.d2 : Int), .int .u32 (m.d3 : Int), .int .u32 (m.d4 : Int), .int .u32 (m.d5 : Int), .int .u32 (m.d6 : Int), .int .u32 (m.d7 : Int), .int .u32 (m.si : Int), .int .u32 (m.db : Int)] := hI.at 7 (by omega) (hpre ⟨7, .data⟩ (by simp) rfl) (d := 58) rfl
      have e58 : a'.tmps[58]?.getD undef = .agg #[.int .u8 (m.ki : Int), .int .u16 (m.ln : Int), .int .u32 (m.sz : Int), .int .u32 (m.d0 : Int), .int .u32 (m.d1 : Int), .int .u32 (m.d2 : Int), .int .u32 (m.d3 : Int), .int .u32 (m.d4 : Int), .int .u32 (m.d5 : Int), .int .u32 (m.d6 : Int), .int .u32 (m.d7 : Int), .int .u32 (m.si : Int), .int .u32 (m.db : Int)] := by rw [← q58]; simp
      have q57 : a'.tmps.getD 57 undef = .bool true := hI.at 6 (by omega) (hpre ⟨6, .guard⟩ (by simp) rfl) (d := 57) rfl
      have e57 : a'.tmps[57]?.getD undef = .bool true := by rw [← q57]; simp
      have s57 := gi_some hI.sz 57 (by omega) q57
      refine wpOp_step rfl fun K hK => ?_
      simp [go_sem, Act.eval, Region.wanted, yielded, q58, s57]
      refine (HOF.out w').mono ?_
      rintro e w2 ⟨xa, xc, rfl, hk, hb⟩
      exact hK _ _ (hI.put dS_mono 8 (by omega) (by omega) (w' := w2) (v := .agg #[.int .i64 (m.ki : Int), .int .i64 (m.ln : Int), .int .i64 (m.sz : Int), .slice xa 10 xc]) hb ⟨xa, xc, rfl, hk⟩ (d := 59) rfl)
    | 9, ho, hpre =>
      cases ho
      obtain ⟨xa, xc, q59, hk8⟩ : ∃ xa xc, a'.tmps.getD 59 undef = .agg #[.int .i64 (m.ki : Int), .int .i64 (m.ln : Int), .int .i64 (m.sz : Int), .slice xa 10 xc] ∧ RowK .i64 4294967296 w' xa 10 m.at_ := hI.at 8 (by omega) (hpre ⟨8, .data⟩ (by simp) rfl) (d := 59) rfl
      have e59 : a'.tmps[59]?.getD undef = .agg #[.int .i64 (m.ki : Int), .int .i64 (m.ln : Int), .int .i64 (m.sz : Int), .slice xa 10 xc] := by rw [← q59]; simp
      have q57 : a'.tmps.getD 57 undef = .bool true := hI.at 6 (by omega) (hpre ⟨6, .guard⟩ (by simp) rfl) (d := 57) rfl
      have e57 : a'.tmps[57]?.getD undef = .bool true := by rw [← q57]; simp
      have s57 := gi_some hI.sz 57 (by omega) q57
      refine wpOp_step rfl fun K hK => ?_
      simp [go_sem, Act.eval, Region.wanted, yielded, q59, s57]
      refine (HRE.out xa xc w' hk8).mono ?_
      rintro e w2 ⟨ev, rfl, ho, hb⟩
      obtain ⟨ea, ec, rfl, hrw, -⟩ := row_of_own ho
      rw [enc_len] at hrw ⊢
      exact hK _ _ (hI.put dS_mono 9 (by omega) (by omega) (w' := w2) (v := .slice ea 64 ec) hb ⟨ea, ec, rfl, hrw⟩ (d := 60) rfl)
    | 10, ho, hpre =>
      cases ho
      have q9 : a'.tmps.getD 9 undef = .pointer (some ⟨p9, 0, none⟩) := (hI.old 9 (by omega)).trans o9
      have e9 : a'.tmps[9]?.getD undef = .pointer (some ⟨p9, 0, none⟩) := by rw [← q9]; simp
      have q57 : a'.tmps.getD 57 undef = .bool true := hI.at 6 (by omega) (hpre ⟨6, .guard⟩ (by simp) rfl) (d := 57) rfl
      have e57 : a'.tmps[57]?.getD undef = .bool true := by rw [← q57]; simp
      have s57 := gi_some hI.sz 57 (by omega) q57
      obtain ⟨z0, z1, z2, z3⟩ := pt_four (HUX.out w' hI.bel).2
      refine wpOp_step rfl fun K hK => ?_
      have hK' := hK _ _ (hI.put dS_mono 10 (by omega) (by omega) (w' := w') (v := .agg #[.int .i64 (m.ki : Int), .int .i64 (m.ln : Int), .int .i64 (m.sz : Int), .slice la 10 lc]) (Below.refl _ _) rfl (d := 61) rfl)
      simpa [go_sem, Act.eval, Region.wanted, yielded, q9, e9, q57, e57, s57, z0, z1, z2, z3] using hK'
    | 11, ho, hpre =>
      cases ho
      have q61 : a'.tmps.getD 61 undef = .agg #[.int .i64 (m.ki : Int), .int .i64 (m.ln : Int), .int .i64 (m.sz : Int), .slice la 10 lc] := hI.at 10 (by omega) (hpre ⟨10, .data⟩ (by simp) rfl) (d := 61) rfl
      have e61 : a'.tmps[61]?.getD undef = .agg #[.int .i64 (m.ki : Int), .int .i64 (m.ln : Int), .int .i64 (m.sz : Int), .slice la 10 lc] := by rw [← q61]; simp
      have q57 : a'.tmps.getD 57 undef = .bool true := hI.at 6 (by omega) (hpre ⟨6, .guard⟩ (by simp) rfl) (d := 57) rfl
      have e57 : a'.tmps[57]?.getD undef = .bool true := by rw [← q57]; simp
      have s57 := gi_some hI.sz 57 (by omega) q57
      refine wpOp_step rfl fun K hK => ?_
      simp [go_sem, Act.eval, Region.wanted, yielded, q61, s57]
      refine (HRE.out la lc w' (rowK_below HUK.out hI.bel)).mono ?_
      rintro e w2 ⟨ev, rfl, ho, hb⟩
      obtain ⟨ea, ec, rfl, hrw, -⟩ := row_of_own ho
      rw [enc_len] at hrw ⊢
      exact hK _ _ (hI.put dS_mono 11 (by omega) (by omega) (w' := w2) (v := .slice ea 64 ec) hb ⟨ea, ec, rfl, hrw⟩ (d := 62) rfl)
    | 12, ho, hpre =>
      cases ho
      obtain ⟨ea9, ec9, q60, hr9⟩ : ∃ ea ec, a'.tmps.getD 60 undef = .slice ea 64 ec ∧ Row w' ea 64 (encI m) := hI.at 9 (by omega) (hpre ⟨9, .data⟩ (by simp) rfl) (d := 60) rfl
      have e60 : a'.tmps[60]?.getD undef = .slice ea9 64 ec9 := by rw [← q60]; simp
      obtain ⟨ea11, ec11, q62, hr11⟩ : ∃ ea ec, a'.tmps.getD 62 undef = .slice ea 64 ec ∧ Row w' ea 64 (encI m) := hI.at 11 (by omega) (hpre ⟨11, .data⟩ (by simp) rfl) (d := 62) rfl
      have e62 : a'.tmps[62]?.getD undef = .slice ea11 64 ec11 := by rw [← q62]; simp
      have q57 : a'.tmps.getD 57 undef = .bool true := hI.at 6 (by omega) (hpre ⟨6, .guard⟩ (by simp) rfl) (d := 57) rfl
      have e57 : a'.tmps[57]?.getD undef = .bool true := by rw [← q57]; simp
      have s57 := gi_some hI.sz 57 (by omega) q57
      refine wpOp_step rfl fun K hK => ?_
      simp [go_sem, Act.eval, Region.wanted, yielded, q60, q62, s57]
      refine (same_any ea9 ea11 64 ec9 64 ec11 (encI m) w' hr9 hr11).mono ?_
      rintro e w2 ⟨rfl, rfl⟩
      exact hK _ _ (hI.put dS_mono 12 (by omega) (by omega) (w' := w') (v := .bool true) (Below.refl _ _) rfl (d := 63) rfl)
    | 13, ho, hpre =>
      cases ho
      have q63 : a'.tmps.getD 63 undef = .bool true := hI.at 12 (by omega) (hpre ⟨12, .data⟩ (by simp) rfl) (d := 63) rfl
      have e63 : a'.tmps[63]?.getD undef = .bool true := by rw [← q63]; simp
      have q57 : a'.tmps.getD 57 undef = .bool true := hI.at 6 (by omega) (hpre ⟨6, .guard⟩ (by simp) rfl) (d := 57) rfl
      have e57 : a'.tmps[57]?.getD undef = .bool true := by rw [← q57]; simp
      have s57 := gi_some hI.sz 57 (by omega) q57
      refine wpOp_step rfl fun K hK => ?_
      have hK' := hK _ _ (hI.put dS_mono 13 (by omega) (by omega) (w' := w') (v := .bool false) (Below.refl _ _) rfl (d := 64) rfl)
      simpa [go_sem, Act.eval, Region.wanted, yielded, q63, e63, q57, e57, s57] using hK'
    | 14, ho, hpre =>
      cases ho
      have q57 : a'.tmps.getD 57 undef = .bool true := hI.at 6 (by omega) (hpre ⟨6, .data⟩ (by simp) rfl) (d := 57) rfl
      have e57 : a'.tmps[57]?.getD undef = .bool true := by rw [← q57]; simp
      have q64 : a'.tmps.getD 64 undef = .bool false := hI.at 13 (by omega) (hpre ⟨13, .data⟩ (by simp) rfl) (d := 64) rfl
      have e64 : a'.tmps[64]?.getD undef = .bool false := by rw [← q64]; simp
      have q54 : a'.tmps.getD 54 undef = .bool false := hI.at 3 (by omega) (hpre ⟨3, .guard⟩ (by simp) rfl) (d := 54) rfl
      have e54 : a'.tmps[54]?.getD undef = .bool false := by rw [← q54]; simp
      have s54 := gi_some hI.sz 54 (by omega) q54
      refine wpOp_step rfl fun K hK => ?_
      have hK' := hK _ _ (hI.put dS_mono 14 (by omega) (by omega) (w' := w') (v := .bool false) (Below.refl _ _) rfl (d := 65) rfl)
      simpa [go_sem, Act.eval, Region.wanted, yielded, q57, e57, q64, e64, q54, e54, s54] using hK'
    | 15, ho, hpre =>
      cases ho
      have q54 : a'.tmps.getD 54 undef = .bool false := hI.at 3 (by omega) (hpre ⟨3, .data⟩ (by simp) rfl) (d := 54) rfl
      have e54 : a'.tmps[54]?.getD undef = .bool false := by rw [← q54]; simp
      have q65 : a'.tmps.getD 65 undef = .bool false := hI.at 14 (by omega) (hpre ⟨14, .data⟩ (by simp) rfl) (d := 65) rfl
      have e65 : a'.tmps[65]?.getD undef = .bool false := by rw [← q65]; simp
      refine wpOp_step rfl fun K hK => ?_
      have hK' := hK _ _ (hI.put dS_mono 15 (by omega) (by omega) (w' := w') (v := .bool false) (Below.refl _ _) rfl (d := 66) rfl)
      simpa [go_sem, Act.eval, Region.wanted, yielded, q54, e54, q65, e65] using hK'
    | 16, ho, hpre =>
      cases ho
      have q66 : a'.tmps.getD 66 undef = .bool false := hI.at 15 (by omega) (hpre ⟨15, .data⟩ (by simp) rfl) (d := 66) rfl
      have e66 : a'.tmps[66]?.getD undef = .bool false := by rw [← q66]; simp
      refine wpOp_step rfl fun K hK => ?_
      have hK' := hK _ _ (hI.put dS_mono 16 (by omega) (by omega) (w' := w') (v := .bool false) (Below.refl _ _) rfl (d := 67) rfl)
      simpa [go_sem, Act.eval, Region.wanted, yielded, q66, e66] using hK'
    | 17, ho, hpre =>
      cases ho
      have q10 : a'.tmps.getD 10 undef = .int .i64 0 := (hI.old 10 (by omega)).trans o10
      have e10 : a'.tmps[10]?.getD undef = .int .i64 0 := by rw [← q10]; simp
      have q67 : a'.tmps.getD 67 undef = .bool false := hI.at 16 (by omega) (hpre ⟨16, .guard⟩ (by simp) rfl) (d := 67) rfl
      have e67 : a'.tmps[67]?.getD undef = .bool false := by rw [← q67]; simp
      have s67 := gi_some hI.sz 67 (by omega) q67
      refine wpOp_step rfl fun K hK => ?_
      have hK' := hK _ _ (hI.put dS_mono 17 (by omega) (by omega) (w' := w') (v := .int .i64 0) (Below.refl _ _) rfl (d := 68) rfl)
      simpa [go_sem, Act.eval, Region.wanted, yielded, q10, e10, q67, e67, s67] using hK'
    | 18, ho, hpre =>
      cases ho
      have q68 : a'.tmps.getD 68 undef = .int .i64 0 := hI.at 17 (by omega) (hpre ⟨17, .data⟩ (by simp) rfl) (d := 68) rfl
      have e68 : a'.tmps[68]?.getD undef = .int .i64 0 := by rw [← q68]; simp
      have q67 : a'.tmps.getD 67 undef = .bool false := hI.at 16 (by omega) (hpre ⟨16, .guard⟩ (by simp) rfl) (d := 67) rfl
      have e67 : a'.tmps[67]?.getD undef = .bool false := by rw [← q67]; simp
      have s67 := gi_some hI.sz 67 (by omega) q67
      refine wpOp_step rfl fun K hK => ?_
      have hK' := hK _ _ (hI.put dS_mono 18 (by omega) (by omega) (w' := w') (v := .bool false) (Below.refl _ _) rfl (d := 69) rfl)
      simpa [go_sem, Act.eval, Region.wanted, yielded, q68, e68, q67, e67, s67] using hK'
    | 19, ho, hpre =>
      cases ho
      have q69 : a'.tmps.getD 69 undef = .bool false := hI.at 18 (by omega) (hpre ⟨18, .data⟩ (by simp) rfl) (d := 69) rfl
      have e69 : a'.tmps[69]?.getD undef = .bool false := by rw [← q69]; simp
      have q67 : a'.tmps.getD 67 undef = .bool false := hI.at 16 (by omega) (hpre ⟨16, .guard⟩ (by simp) rfl) (d := 67) rfl
      have e67 : a'.tmps[67]?.getD undef = .bool false := by rw [← q67]; simp
      have s67 := gi_some hI.sz 67 (by omega) q67
      refine wpOp_step rfl fun K hK => ?_
      have hK' := hK _ _ (hI.put dS_mono 19 (by omega) (by omega) (w' := w') (v := .bool false) (Below.refl _ _) rfl (d := 70) rfl)
      simpa [go_sem, Act.eval, Region.wanted, yielded, q69, e69, q67, e67, s67] using hK'
    | 20, ho, hpre =>
      cases ho
      have q70 : a'.tmps.getD 70 undef = .bool false := hI.at 19 (by omega) (hpre ⟨19, .guard⟩ (by simp) rfl) (d := 70) rfl
      have e70 : a'.tmps[70]?.getD undef = .bool false := by rw [← q70]; simp
      have s70 := gi_some hI.sz 70 (by omega) q70
      refine wpOp_step rfl fun K hK => ?_
      have hK' := hK _ _ (hI.put dS_mono 20 (by omega) (by omega) (w' := w') (v := undef) (Below.refl _ _) trivial (d := 71) rfl)
      simpa [go_sem, Act.eval, Region.wanted, yielded, q70, e70, s70] using hK'
    | 21, ho, hpre =>
      cases ho
      have q70 : a'.tmps.getD 70 undef = .bool false := hI.at 19 (by omega) (hpre ⟨19, .guard⟩ (by simp) rfl) (d := 70) rfl
      have e70 : a'.tmps[70]?.getD undef = .bool false := by rw [← q70]; simp
      have s70 := gi_some hI.sz 70 (by omega) q70
      refine wpOp_step rfl fun K hK => ?_
      have hK' := hK _ _ (hI.put dS_mono 21 (by omega) (by omega) (w' := w') (v := undef) (Below.refl _ _) trivial (d := 72) rfl)
      simpa [go_sem, Act.eval, Region.wanted, yielded, q70, e70, s70] using hK'
    | 22, ho, hpre =>
      cases ho
      have q70 : a'.tmps.getD 70 undef = .bool false := hI.at 19 (by omega) (hpre ⟨19, .guard⟩ (by simp) rfl) (d := 70) rfl
      have e70 : a'.tmps[70]?.getD undef = .bool false := by rw [← q70]; simp
      have s70 := gi_some hI.sz 70 (by omega) q70
      refine wpOp_step rfl fun K hK => ?_
      have hK' := hK _ _ (hI.put dS_mono 22 (by omega) (by omega) (w' := w') (v := undef) (Below.refl _ _) trivial (d := 73) rfl)
      simpa [go_sem, Act.eval, Region.wanted, yielded, q70, e70, s70] using hK'
    | 23, ho, hpre =>
      cases ho
      have q70 : a'.tmps.getD 70 undef = .bool false := hI.at 19 (by omega) (hpre ⟨19, .data⟩ (by simp) rfl) (d := 70) rfl
      have e70 : a'.tmps[70]?.getD undef = .bool false := by rw [← q70]; simp
      have q67 : a'.tmps.getD 67 undef = .bool false := hI.at 16 (by omega) (hpre ⟨16, .guard⟩ (by simp) rfl) (d := 67) rfl
      have e67 : a'.tmps[67]?.getD undef = .bool false := by rw [← q67]; simp
      have s67 := gi_some hI.sz 67 (by omega) q67
      refine wpOp_step rfl fun K hK => ?_
      have hK' := hK _ _ (hI.put dS_mono 23 (by omega) (by omega) (w' := w') (v := .bool false) (Below.refl _ _) rfl (d := 74) rfl)
      simpa [go_sem, Act.eval, Region.wanted, yielded, q70, e70, q67, e67, s67] using hK'
    | 24, ho, hpre =>
      cases ho
      have q67 : a'.tmps.getD 67 undef = .bool false := hI.at 16 (by omega) (hpre ⟨16, .data⟩ (by simp) rfl) (d := 67) rfl
      have e67 : a'.tmps[67]?.getD undef = .bool false := by rw [← q67]; simp
      have q74 : a'.tmps.getD 74 undef = .bool false := hI.at 23 (by omega) (hpre ⟨23, .data⟩ (by simp) rfl) (d := 74) rfl
      have e74 : a'.tmps[74]?.getD undef = .bool false := by rw [← q74]; simp
      refine wpOp_step rfl fun K hK => ?_
      have hK' := hK _ _ (hI.put dS_mono 24 (by omega) (by omega) (w' := w') (v := .bool false) (Below.refl _ _) rfl (d := 75) rfl)
      simpa [go_sem, Act.eval, Region.wanted, yielded, q67, e67, q74, e74] using hK'
    | i + 25, ho, hpre => exact absurd (Array.getElem?_eq_some_iff.1 ho).1 (by simp)
set_option maxRecDepth 100000 in
theorem frameD135 (a : Act) (hs : a.tmps.size = 135) (hd : a.defers = []) : ∃ f : Nat → Value, a = ⟨#[f 0, f 1, f 2, f 3, f 4, f 5, f 6, f 7, f 8, f 9, f 10, f 11, f 12, f 13, f 14, f 15, f 16, f 17, f 18, f 19, f 20, f 21, f 22, f 23, f 24, f 25, f 26, f 27, f 28, f 29, f 30, f 31, f 32, f 33, f 34, f 35, f 36, f 37, f 38, f 39, f 40, f 41, f 42, f 43, f 44, f 45, f 46, f 47, f 48, f 49, f 50, f 51, f 52, f 53, f 54, f 55, f 56, f 57, f 58, f 59, f 60, f 61, f 62, f 63, f 64, f 65, f 66, f 67, f 68, f 69, f 70, f 71, f 72, f 73, f 74, f 75, f 76, f 77, f 78, f 79, f 80, f 81, f 82, f 83, f 84, f 85, f 86, f 87, f 88, f 89, f 90, f 91, f 92, f 93, f 94, f 95, f 96, f 97, f 98, f 99, f 100, f 101, f 102, f 103, f 104, f 105, f 106, f 107, f 108, f 109, f 110, f 111, f 112, f 113, f 114, f 115, f 116, f 117, f 118, f 119, f 120, f 121, f 122, f 123, f 124, f 125, f 126, f 127, f 128, f 129, f 130, f 131, f 132, f 133, f 134], []⟩ ∧ ∀ k, a.tmps.getD k undef = f k := by
  refine ⟨fun k => a.tmps.getD k undef, ?_, fun _ => rfl⟩
  refine (gi_act hs hd).trans ?_
  congr 1
  apply Array.ext'
  rw [Array.toList_map, Array.toList_range]
  rfl
set_option maxRecDepth 100000 in
set_option maxHeartbeats 4000000 in
theorem inDec6f {v0 v1 v2 v3 v4 v5 v6 v11 v12 v13 v14 v15 v16 v17 v18 v19 v20 v21 v22 v23 v24 v25 v26 v27 v28 v29 v30 v31 v32 v33 v34 v35 v36 v37 v38 v39 v40 v41 v42 v43 v44 v45 v46 v47 v48 v49 v50 v51 v52 v53 v54 v55 v56 v57 v58 v59 v60 v61 v62 v63 v64 v65 v66 v67 v68 v69 v70 v71 v72 v73 v74 v75 v76 v77 v78 v79 v80 v81 v82 v83 v84 v85 v86 v87 v88 v89 v90 v91 v92 v93 v94 v95 v96 v97 v98 v99 v100 v101 v102 v103 v104 v105 v106 v107 v108 v109 v110 v111 v112 v113 v114 v115 v116 v117 v118 v119 v120 v121 v122 v123 v124 v125 v126 v127 v128 v129 v130 v131 v132 v133 v134 : Value} (m : Ino) (la : Option Addr) (lc p7 p9 : Nat) (U : World)
    (HUX : Hid (∀ x : World, Below U.heap.size U x → x.heap[p7]? = some (.cells m.cl 26 (0, 0)) ∧ x.heap[p9]? = some (.cells #[.int .i64 (m.ki : Int), .int .i64 (m.ln : Int), .int .i64 (m.sz : Int), .slice la 10 lc] 34 (0, 0)))) (HUK : Hid (RowK .i64 4294967296 U la 10 m.at_)) (hf : m.Fits) (Q : Exit → Act → World → Prop)
    (hQ : ∀ (t51 t52 t53 t54 t55 t56 t57 t58 t59 t60 t61 t62 t63 t64 t65 t66 t67 t68 t69 t70 t71 t72 t73 t74 : Value) (w' : World), Below U.heap.size U w' → Q .normal ⟨#[v0, v1, v2, v3, v4, v5, v6, .pointer (some ⟨p7, 0, none⟩), .int .i64 0, .pointer (some ⟨p9, 0, none⟩), .int .i64 0, v11, v12, v13, v14, v15, v16, v17, v18, v19, v20, v21, v22, v23, v24, v25, v26, v27, v28, v29, v30, v31, v32, v33, v34, v35, v36, v37, v38, v39, v40, v41, v42, v43, v44, v45, v46, v47, v48, v49, v50, t51, t52, t53, t54, t55, t56, t57, t58, t59, t60, t61, t62, t63, t64, t65, t66, t67, t68, t69, t70, t71, t72, t73, t74, .bool false, v76, v77, v78, v79, v80, v81, v82, v83, v84, v85, v86, v87, v88, v89, v90, v91, v92, v93, v94, v95, v96, v97, v98, v99, v100, v101, v102, v103, v104, v105, v106, v107, v108, v109, v110, v111, v112, v113, v114, v115, v116, v117, v118, v119, v120, v121, v122, v123, v124, v125, v126, v127, v128, v129, v130, v131, v132, v133, v134], []⟩ w') :
    (Code.region 6 #[
    { dst := some 51, op := Go.Op.move (Go.Operand.tmp 8), type := 36, pos := "law.go:54", after := #[], guard := none }, 
    { dst := some 52, op := Go.Op.move (Go.Operand.tmp 10), type := 3, pos := "law.go:54", after := #[], guard := none }, 
    { dst := some 53, op := Go.Op.binOp Go.BinOp.neq 3 (Go.Operand.tmp 51) (Go.Operand.tmp 52) 3, type := 4, pos := "law.go:54", after := #[{ on := 0, ground := Go.Ground.data }, { on := 1, ground := Go.Ground.data }], guard := none }, 
    { dst := some 54, op := Go.Op.move (Go.Operand.tmp 53), type := 4, pos := "law.go:54", after := #[{ on := 2, ground := Go.Ground.data }], guard := none }, 
    { dst := some 55, op := Go.Op.move (Go.Operand.tmp 10), type := 3, pos := "law.go:54", after := #[{ on := 3, ground := Go.Ground.guard }], guard := some (3, false) }, 
    { dst := some 56, op := Go.Op.binOp Go.BinOp.eql 3 (Go.Operand.tmp 55) (Go.Operand.const (Go.Value.int Go.IntKind.i64 0)) 3, type := 4, pos := "law.go:54", after := #[{ on := 4, ground := Go.Ground.data }, { on := 3, ground := Go.Ground.guard }], guard := some (3, false) }, 
    { dst := some 57, op := Go.Op.move (Go.Operand.tmp 56), type := 4, pos := "law.go:54", after := #[{ on := 5, ground := Go.Ground.data }, { on := 3, ground := Go.Ground.chain }, { on := 3, ground := Go.Ground.guard }], guard := some (3, false) }, 
    { dst := some 58, op := Go.Op.load 26 (Go.Operand.tmp 7), type := 26, pos := "law.go:54", after := #[{ on := 6, ground := Go.Ground.guard }], guard := some (6, true) }, 
    { dst := some 59, op := Go.Op.call { callee := Go.Callee.value (Go.Operand.func 13), args := #[Go.Operand.tmp 58], argTypes := #[26] }, type := 34, pos := "law.go:54", after := #[{ on := 7, ground := Go.Ground.data }, { on := 6, ground := Go.Ground.chain }, { on := 6, ground := Go.Ground.guard }], guard := some (6, true) }, 
    { dst := some 60, op := Go.Op.call { callee := Go.Callee.value (Go.Operand.func 12), args := #[Go.Operand.tmp 59], argTypes := #[34] }, type := 27, pos := "law.go:54", after := #[{ on := 8, ground := Go.Ground.data }, { on := 8, ground := Go.Ground.chain }, { on := 6, ground := Go.Ground.guard }], guard := some (6, true) }, 
    { dst := some 61, op := Go.Op.load 34 (Go.Operand.tmp 9), type := 34, pos := "law.go:54", after := #[{ on := 6, ground := Go.Ground.guard }], guard := some (6, true) }, 
    { dst := some 62, op := Go.Op.call { callee := Go.Callee.value (Go.Operand.func 12), args := #[Go.Operand.tmp 61], argTypes := #[34] }, type := 27, pos := "law.go:54", after := #[{ on := 10, ground := Go.Ground.data }, { on := 9, ground := Go.Ground.chain }, { on := 6, ground := Go.Ground.guard }], guard := some (6, true) }, 
    { dst := some 63, op := Go.Op.call { callee := Go.Callee.value (Go.Operand.func 11), args := #[Go.Operand.tmp 60, Go.Operand.tmp 62], argTypes := #[27, 27] }, type := 4, pos := "law.go:54", after := #[{ on := 9, ground := Go.Ground.data }, { on := 11, ground := Go.Ground.data }, { on := 11, ground := Go.Ground.chain }, { on := 6, ground := Go.Ground.guard }], guard := some (6, true) }, 
    { dst := some 64, op := Go.Op.unOp Go.UnOp.not 4 (Go.Operand.tmp 63), type := 4, pos := "law.go:54", after := #[{ on := 12, ground := Go.Ground.data }, { on := 6, ground := Go.Ground.guard }], guard := some (6, true) }, 
    { dst := some 65, op := Go.Op.pick (Go.Operand.tmp 57) (Go.Operand.tmp 64) (Go.Operand.const (Go.Value.bool false)), type := 4, pos := "law.go:54", after := #[{ on := 6, ground := Go.Ground.data }, { on := 13, ground := Go.Ground.data }, { on := 3, ground := Go.Ground.guard }], guard := some (3, false) }, 
    { dst := some 66, op := Go.Op.pick (Go.Operand.tmp 54) (Go.Operand.const (Go.Value.bool true)) (Go.Operand.tmp 65), type := 4, pos := "law.go:54", after := #[{ on := 3, ground := Go.Ground.data }, { on := 14, ground := Go.Ground.data }], guard := none }, 
    { dst := some 67, op := Go.Op.move (Go.Operand.tmp 66), type := 4, pos := "law.go:54", after := #[{ on := 15, ground := Go.Ground.data }, { on := 12, ground := Go.Ground.chain }], guard := none }, 
    { dst := some 68, op := Go.Op.move (Go.Operand.tmp 10), type := 3, pos := "law.go:54", after := #[{ on := 16, ground := Go.Ground.guard }], guard := some (16, false) }, 
    { dst := some 69, op := Go.Op.binOp Go.BinOp.neq 3 (Go.Operand.tmp 68) (Go.Operand.const (Go.Value.int Go.IntKind.i64 0)) 3, type := 4, pos := "law.go:54", after := #[{ on := 17, ground := Go.Ground.data }, { on := 16, ground := Go.Ground.guard }], guard := some (16, false) }, 
    { dst := some 70, op := Go.Op.move (Go.Operand.tmp 69), type := 4, pos := "law.go:54", after := #[{ on := 18, ground := Go.Ground.data }, { on := 16, ground := Go.Ground.chain }, { on := 16, ground := Go.Ground.guard }], guard := some (16, false) }, 
    { dst := some 71, op := Go.Op.load 26 (Go.Operand.tmp 7), type := 26, pos := "law.go:54", after := #[{ on := 19, ground := Go.Ground.guard }], guard := some (19, true) }, 
    { dst := some 72, op := Go.Op.build 26 #[], type := 26, pos := "law.go:54", after := #[{ on := 19, ground := Go.Ground.guard }], guard := some (19, true) }, 
    { dst := some 73, op := Go.Op.binOp Go.BinOp.neq 26 (Go.Operand.tmp 71) (Go.Operand.tmp 72) 26, type := 4, pos := "law.go:54", after := #[{ on := 20, ground := Go.Ground.data }, { on := 21, ground := Go.Ground.data }, { on := 19, ground := Go.Ground.guard }], guard := some (19, true) }, 
    { dst := some 74, op := Go.Op.pick (Go.Operand.tmp 70) (Go.Operand.tmp 73) (Go.Operand.const (Go.Value.bool false)), type := 4, pos := "law.go:54", after := #[{ on := 19, ground := Go.Ground.data }, { on := 22, ground := Go.Ground.data }, { on := 16, ground := Go.Ground.guard }], guard := some (16, false) }, 
    { dst := some 75, op := Go.Op.pick (Go.Operand.tmp 67) (Go.Operand.const (Go.Value.bool true)) (Go.Operand.tmp 74), type := 4, pos := "law.go:54", after := #[{ on := 16, ground := Go.Ground.data }, { on := 23, ground := Go.Ground.data }], guard := none }] true).wp Try.prog Q ⟨#[v0, v1, v2, v3, v4, v5, v6, .pointer (some ⟨p7, 0, none⟩), .int .i64 0, .pointer (some ⟨p9, 0, none⟩), .int .i64 0, v11, v12, v13, v14, v15, v16, v17, v18, v19, v20, v21, v22, v23, v24, v25, v26, v27, v28, v29, v30, v31, v32, v33, v34, v35, v36, v37, v38, v39, v40, v41, v42, v43, v44, v45, v46, v47, v48, v49, v50, v51, v52, v53, v54, v55, v56, v57, v58, v59, v60, v61, v62, v63, v64, v65, v66, v67, v68, v69, v70, v71, v72, v73, v74, v75, v76, v77, v78, v79, v80, v81, v82, v83, v84, v85, v86, v87, v88, v89, v90, v91, v92, v93, v94, v95, v96, v97, v98, v99, v100, v101, v102, v103, v104, v105, v106, v107, v108, v109, v110, v111, v112, v113, v114, v115, v116, v117, v118, v119, v120, v121, v122, v123, v124, v125, v126, v127, v128, v129, v130, v131, v132, v133, v134], []⟩ U := by
  refine inDec6 m la lc p7 p9 U _ rfl rfl rfl rfl rfl HUX HUK hf Q ?_
  intro a' w' hsz hdf hold h75 hbel
  obtain ⟨f, hfr, hfk⟩ := frameD135 a' hsz hdf
  rw [hfk] at h75
  have hq := hQ (f 51) (f 52) (f 53) (f 54) (f 55) (f 56) (f 57) (f 58) (f 59) (f 60) (f 61) (f 62) (f 63) (f 64) (f 65) (f 66) (f 67) (f 68) (f 69) (f 70) (f 71) (f 72) (f 73) (f 74) w' hbel
  have k0 := (hfk 0).symm.trans (hold 0 (by omega))
  have k1 := (hfk 1).symm.trans (hold 1 (by omega))
  have k2 := (hfk 2).symm.trans (hold 2 (by omega))
  have k3 := (hfk 3).symm.trans (hold 3 (by omega))
  have k4 := (hfk 4).symm.trans (hold 4 (by omega))
  have k5 := (hfk 5).symm.trans (hold 5 (by omega))
  have k6 := (hfk 6).symm.trans (hold 6 (by omega))
  have k7 := (hfk 7).symm.trans (hold 7 (by omega))
  have k8 := (hfk 8).symm.trans (hold 8 (by omega))
  have k9 := (hfk 9).symm.trans (hold 9 (by omega))
  have k10 := (hfk 10).symm.trans (hold 10 (by omega))
  have k11 := (hfk 11).symm.trans (hold 11 (by omega))
  have k12 := (hfk 12).symm.trans (hold 12 (by omega))
  have k13 := (hfk 13).symm.trans (hold 13 (by omega))
  have k14 := (hfk 14).symm.trans (hold 14 (by omega))
  have k15 := (hfk 15).symm.trans (hold 15 (by omega))
  have k16 := (hfk 16).symm.trans (hold 16 (by omega))
  have k17 := (hfk 17).symm.trans (hold 17 (by omega))
  have k18 := (hfk 18).symm.trans (hold 18 (by omega))
  have k19 := (hfk 19).symm.trans (hold 19 (by omega))
  have k20 := (hfk 20).symm.trans (hold 20 (by omega))
  have k21 := (hfk 21).symm.trans (hold 21 (by omega))
  have k22 := (hfk 22).symm.trans (hold 22 (by omega))
  have k23 := (hfk 23).symm.trans (hold 23 (by omega))
  have k24 := (hfk 24).symm.trans (hold 24 (by omega))
  have k25 := (hfk 25).symm.trans (hold 25 (by omega))
  have k26 := (hfk 26).symm.trans (hold 26 (by omega))
  have k27 := (hfk 27).symm.trans (hold 27 (by omega))
  have k28 := (hfk 28).symm.trans (hold 28 (by omega))
  have k29 := (hfk 29).symm.trans (hold 29 (by omega))
  have k30 := (hfk 30).symm.trans (hold 30 (by omega))
  have k31 := (hfk 31).symm.trans (hold 31 (by omega))
  have k32 := (hfk 32).symm.trans (hold 32 (by omega))
  have k33 := (hfk 33).symm.trans (hold 33 (by omega))
  have k34 := (hfk 34).symm.trans (hold 34 (by omega))
  have k35 := (hfk 35).symm.trans (hold 35 (by omega))
  have k36 := (hfk 36).symm.trans (hold 36 (by omega))
  have k37 := (hfk 37).symm.trans (hold 37 (by omega))
  have k38 := (hfk 38).symm.trans (hold 38 (by omega))
  have k39 := (hfk 39).symm.trans (hold 39 (by omega))
  have k40 := (hfk 40).symm.trans (hold 40 (by omega))
  have k41 := (hfk 41).symm.trans (hold 41 (by omega))
  have k42 := (hfk 42).symm.trans (hold 42 (by omega))
  have k43 := (hfk 43).symm.trans (hold 43 (by omega))
  have k44 := (hfk 44).symm.trans (hold 44 (by omega))
  have k45 := (hfk 45).symm.trans (hold 45 (by omega))
  have k46 := (hfk 46).symm.trans (hold 46 (by omega))
  have k47 := (hfk 47).symm.trans (hold 47 (by omega))
  have k48 := (hfk 48).symm.trans (hold 48 (by omega))
  have k49 := (hfk 49).symm.trans (hold 49 (by omega))
  have k50 := (hfk 50).symm.trans (hold 50 (by omega))
  have k76 := (hfk 76).symm.trans (hold 76 (by omega))
  have k77 := (hfk 77).symm.trans (hold 77 (by omega))
  have k78 := (hfk 78).symm.trans (hold 78 (by omega))
  have k79 := (hfk 79).symm.trans (hold 79 (by omega))
  have k80 := (hfk 80).symm.trans (hold 80 (by omega))
  have k81 := (hfk 81).symm.trans (hold 81 (by omega))
  have k82 := (hfk 82).symm.trans (hold 82 (by omega))
  have k83 := (hfk 83).symm.trans (hold 83 (by omega))
  have k84 := (hfk 84).symm.trans (hold 84 (by omega))
  have k85 := (hfk 85).symm.trans (hold 85 (by omega))
  have k86 := (hfk 86).symm.trans (hold 86 (by omega))
  have k87 := (hfk 87).symm.trans (hold 87 (by omega))
  have k88 := (hfk 88).symm.trans (hold 88 (by omega))
  have k89 := (hfk 89).symm.trans (hold 89 (by omega))
  have k90 := (hfk 90).symm.trans (hold 90 (by omega))
  have k91 := (hfk 91).symm.trans (hold 91 (by omega))
  have k92 := (hfk 92).symm.trans (hold 92 (by omega))
  have k93 := (hfk 93).symm.trans (hold 93 (by omega))
  have k94 := (hfk 94).symm.trans (hold 94 (by omega))
  have k95 := (hfk 95).symm.trans (hold 95 (by omega))
  have k96 := (hfk 96).symm.trans (hold 96 (by omega))
  have k97 := (hfk 97).symm.trans (hold 97 (by omega))
  have k98 := (hfk 98).symm.trans (hold 98 (by omega))
  have k99 := (hfk 99).symm.trans (hold 99 (by omega))
  have k100 := (hfk 100).symm.trans (hold 100 (by omega))
  have k101 := (hfk 101).symm.trans (hold 101 (by omega))
  have k102 := (hfk 102).symm.trans (hold 102 (by omega))
  have k103 := (hfk 103).symm.trans (hold 103 (by omega))
  have k104 := (hfk 104).symm.trans (hold 104 (by omega))
  have k105 := (hfk 105).symm.trans (hold 105 (by omega))
  have k106 := (hfk 106).symm.trans (hold 106 (by omega))
  have k107 := (hfk 107).symm.trans (hold 107 (by omega))
  have k108 := (hfk 108).symm.trans (hold 108 (by omega))
  have k109 := (hfk 109).symm.trans (hold 109 (by omega))
  have k110 := (hfk 110).symm.trans (hold 110 (by omega))
  have k111 := (hfk 111).symm.trans (hold 111 (by omega))
  have k112 := (hfk 112).symm.trans (hold 112 (by omega))
  have k113 := (hfk 113).symm.trans (hold 113 (by omega))
  have k114 := (hfk 114).symm.trans (hold 114 (by omega))
  have k115 := (hfk 115).symm.trans (hold 115 (by omega))
  have k116 := (hfk 116).symm.trans (hold 116 (by omega))
  have k117 := (hfk 117).symm.trans (hold 117 (by omega))
  have k118 := (hfk 118).symm.trans (hold 118 (by omega))
  have k119 := (hfk 119).symm.trans (hold 119 (by omega))
  have k120 := (hfk 120).symm.trans (hold 120 (by omega))
  have k121 := (hfk 121).symm.trans (hold 121 (by omega))
  have k122 := (hfk 122).symm.trans (hold 122 (by omega))
  have k123 := (hfk 123).symm.trans (hold 123 (by omega))
  have k124 := (hfk 124).symm.trans (hold 124 (by omega))
  have k125 := (hfk 125).symm.trans (hold 125 (by omega))
  have k126 := (hfk 126).symm.trans (hold 126 (by omega))
  have k127 := (hfk 127).symm.trans (hold 127 (by omega))
  have k128 := (hfk 128).symm.trans (hold 128 (by omega))
  have k129 := (hfk 129).symm.trans (hold 129 (by omega))
  have k130 := (hfk 130).symm.trans (hold 130 (by omega))
  have k131 := (hfk 131).symm.trans (hold 131 (by omega))
  have k132 := (hfk 132).symm.trans (hold 132 (by omega))
  have k133 := (hfk 133).symm.trans (hold 133 (by omega))
  have k134 := (hfk 134).symm.trans (hold 134 (by omega))
  rw [hfr]
  simp only [h75, show f 0 = v0 from k0, show f 1 = v1 from k1, show f 2 = v2 from k2, show f 3 = v3 from k3, show f 4 = v4 from k4, show f 5 = v5 from k5, show f 6 = v6 from k6, show f 7 = .pointer (some ⟨p7, 0, none⟩) from k7, show f 8 = .int .i64 0 from k8, show f 9 = .pointer (some ⟨p9, 0, none⟩) from k9, show f 10 = .int .i64 0 from k10, show f 11 = v11 from k11, show f 12 = v12 from k12, show f 13 = v13 from k13, show f 14 = v14 from k14, show f 15 = v15 from k15, show f 16 = v16 from k16, show f 17 = v17 from k17, show f 18 = v18 from k18, show f 19 = v19 from k19, show f 20 = v20 from k20, show f 21 = v21 from k21, show f 22 = v22 from k22, show f 23 = v23 from k23, show f 24 = v24 from k24, show f 25 = v25 from k25, show f 26 = v26 from k26, show f 27 = v27 from k27, show f 28 = v28 from k28, show f 29 = v29 from k29, show f 30 = v30 from k30, show f 31 = v31 from k31, show f 32 = v32 from k32, show f 33 = v33 from k33, show f 34 = v34 from k34, show f 35 = v35 from k35, show f 36 = v36 from k36, show f 37 = v37 from k37, show f 38 = v38 from k38, show f 39 = v39 from k39, show f 40 = v40 from k40, show f 41 = v41 from k41, show f 42 = v42 from k42, show f 43 = v43 from k43, show f 44 = v44 from k44, show f 45 = v45 from k45, show f 46 = v46 from k46, show f 47 = v47 from k47, show f 48 = v48 from k48, show f 49 = v49 from k49, show f 50 = v50 from k50, show f 76 = v76 from k76, show f 77 = v77 from k77, show f 78 = v78 from k78, show f 79 = v79 from k79, show f 80 = v80 from k80, show f 81 = v81 from k81, show f 82 = v82 from k82, show f 83 = v83 from k83, show f 84 = v84 from k84, show f 85 = v85 from k85, show f 86 = v86 from k86, show f 87 = v87 from k87, show f 88 = v88 from k88, show f 89 = v89 from k89, show f 90 = v90 from k90, show f 91 = v91 from k91, show f 92 = v92 from k92, show f 93 = v93 from k93, show f 94 = v94 from k94, show f 95 = v95 from k95, show f 96 = v96 from k96, show f 97 = v97 from k97, show f 98 = v98 from k98, show f 99 = v99 from k99, show f 100 = v100 from k100, show f 101 = v101 from k101, show f 102 = v102 from k102, show f 103 = v103 from k103, show f 104 = v104 from k104, show f 105 = v105 from k105, show f 106 = v106 from k106, show f 107 = v107 from k107, show f 108 = v108 from k108, show f 109 = v109 from k109, show f 110 = v110 from k110, show f 111 = v111 from k111, show f 112 = v112 from k112, show f 113 = v113 from k113, show f 114 = v114 from k114, show f 115 = v115 from k115, show f 116 = v116 from k116, show f 117 = v117 from k117, show f 118 = v118 from k118, show f 119 = v119 from k119, show f 120 = v120 from k120, show f 121 = v121 from k121, show f 122 = v122 from k122, show f 123 = v123 from k123, show f 124 = v124 from k124, show f 125 = v125 from k125, show f 126 = v126 from k126, show f 127 = v127 from k127, show f 128 = v128 from k128, show f 129 = v129 from k129, show f 130 = v130 from k130, show f 131 = v131 from k131, show f 132 = v132 from k132, show f 133 = v133 from k133, show f 134 = v134 from k134]
  exact hq
end Go.Proofs.Ytnnaijeapapehaa
