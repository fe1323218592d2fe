/- The writer's calls: U8, U16, U32, U64, Bytes; bytes.Clone; gabionref01.Same. -/
import Derived.Test.YtallambldbhibaaLay16
import Derived.Lib.SliceRun
namespace Go.Proofs.Ytallambldbhibaa
open Go.RowKit

set_option maxHeartbeats 400000 in
theorem wU8_any (pw B : Nat) (sv : Value) (bs : List Nat) (w : World) (hw : WR B w pw sv bs) (hB : B ≤ w.heap.size) (xa : Option Addr) (m c : Nat) (cs : List Nat) (hr : Row w xa m cs) (hc : xa = none → c = 0) (hlen : bs.length + m ≤ 140737488355328) :
    Calls Try.prog 93 #[.pointer (some ⟨pw, 0, none⟩), .slice xa m c] w (WRet w pw B sv (bs ++ cs)) := by
  go_enter Try.func93, Try.ntmps93
  go_wp2_with fail
  refine (raw_any pw B sv bs w hw hB xa m c cs hr hc hlen).mono ?_
  rintro e w1 ⟨rfl, h⟩
  go_wp2
  go_ret
  exact ⟨rfl, h⟩
set_option maxHeartbeats 400000 in
theorem wU16_any (pw B : Nat) (sv : Value) (bs : List Nat) (w : World) (hw : WR B w pw sv bs) (hB : B ≤ w.heap.size) (xa : Option Addr) (m c : Nat) (ns : List Nat)
    (hr : RowK .u16 65536 w xa m ns) (hfar : 0 < m → ∀ x, xa = some x → x.block ≠ pw ∧ some x.block ≠ sv.ownBlock) (hm : m ≤ 100000) (hlen : bs.length ≤ 1000000) :
    Calls Try.prog 94 #[.pointer (some ⟨pw, 0, none⟩), .slice xa m c] w (WRet w pw B sv (bs ++ ns.flatMap (Crc.les 2))) := by
  go_enter Try.func94, Try.ntmps94
  go_wp2_with fail
  refine (lay16_any pw B sv bs w hw hB xa m c ns hr hfar hm hlen).mono ?_
  rintro e w1 ⟨rfl, h⟩
  go_wp2
  go_ret
  exact ⟨rfl, h⟩
set_option maxHeartbeats 400000 in
theorem wU32_any (pw B : Nat) (sv : Value) (bs : List Nat) (w : World) (hw : WR B w pw sv bs) (hB : B ≤ w.heap.size) (xa : Option Addr) (m c : Nat) (ns : List Nat)
    (hr : RowK .u32 4294967296 w xa m ns) (hfar : 0 < m → ∀ x, xa = some x → x.block ≠ pw ∧ some x.block ≠ sv.ownBlock) (hm : m ≤ 100000) (hlen : bs.length ≤ 1000000) :
    Calls Try.prog 92 #[.pointer (some ⟨pw, 0, none⟩), .slice xa m c] w (WRet w pw B sv (bs ++ ns.flatMap (Crc.les 4))) := by
  go_enter Try.func92, Try.ntmps92
  go_wp2_with fail
  refine (lay32_any pw B sv bs w hw hB xa m c ns hr hfar hm hlen).mono ?_
  rintro e w1 ⟨rfl, h⟩
  go_wp2
  go_ret
  exact ⟨rfl, h⟩
theorem own_empty (w : World) : Own w.heap.size (w.alloc (.cells #[] 5)) (.slice (some ⟨w.heap.size, 0, none⟩) 0 0) [] :=
  ⟨World.ownsRow_made w #[] 0 (Nat.le_refl _) (Nat.zero_le _) rfl, fun x hx => by cases hx⟩
set_option maxHeartbeats 400000 in
theorem clone_any (a : Option Addr) (len cap : Nat) (bs : List Nat) (w : World) (hr : Row w a len bs) (hn : a = none → cap = 0) (hl : len ≤ 100000000) :
    Calls Try.prog 115 #[.slice a len cap] w (RetOwn w bs) := by
  have hlen := hr.1
  have hnil := fun wx => Lib.run_eql_slice_nil (P := Try.prog) wx 37 5 a len cap 0 0 Try.underlying37
  cases a with
  | none =>
    obtain rfl := hn rfl
    have h0 : len = 0 := by
      rcases Nat.eq_zero_or_pos len with h | h
      · exact h
      · obtain ⟨_, _, h1, _⟩ := hr.2.2 h
        cases h1
    subst h0
    obtain rfl : bs = [] := List.eq_nil_of_length_eq_zero hlen
    go_enter Try.func115, Try.ntmps115
    go_wp2
    go_ret
    exact ⟨_, rfl, own_nil _ _, Below.refl _ _⟩
  | some x =>
    have HLEN := Lib.hid hlen
    clear hlen
    go_enter Try.func115, Try.ntmps115
    go_wp2_with (at_builtin; refine wpList_app rfl _ _ rfl w.heap.size _ _ rfl (own_empty w) _ _ _ bs rfl (row_alloc hr _) (fun h => by cases h) ?c1 ?c2 ?_)
    case c1 => simp
    case c2 => simp; omega
    intro v1 w1 hap
    go_wp2
    go_ret
    exact ⟨_, rfl, hap.own, ((Below.refl _ w).alloc (Nat.le_refl _) _).trans hap.below⟩
set_option maxHeartbeats 400000 in
theorem wBytes_any (pw B : Nat) (sv : Value) (bs : List Nat) (w : World) (hw : WR B w pw sv bs) (hl : bs.length ≤ 100000000) :
    Calls Try.prog 96 #[.pointer (some ⟨pw, 0, none⟩)] w (RetOwn w bs) := by
  obtain ⟨a, c, hsv, hr, hn, _⟩ := wr_shape hw
  subst hsv
  have hcell := wr_cell hw
  obtain ⟨L, hL⟩ : ∃ L, L = bs.length := ⟨_, rfl⟩
  rw [← hL] at hcell hr hl
  clear hL
  go_enter Try.func96, Try.ntmps96
  go_wp2_with fail
  refine (clone_any a L c bs w hr hn hl).mono ?_
  rintro e w1 ⟨sv1, rfl, h1, h2⟩
  go_wp2
  go_ret
  exact ⟨_, rfl, h1, h2⟩

/-- The text of some bytes. -/
def strOf (bs : List Nat) : ByteArray := ⟨(bs.map UInt8.ofNat).toArray⟩
theorem conv_str (w : World) (a : Option Addr) (len cap : Nat) (bs : List Nat) (hr : Row w a len bs) : (convert 37 9 (.slice a len cap)).run Try.prog w = .ok (.string (strOf bs)) w := by
  cases a with
  | none =>
    have h0 : len = 0 := by
      rcases Nat.eq_zero_or_pos len with h | h
      · exact h
      · obtain ⟨_, _, h1, _⟩ := hr.2.2 h
        cases h1
    subst h0
    obtain rfl : bs = [] := List.eq_nil_of_length_eq_zero hr.1
    rw [run_convert_bytes_string w 37 9 5 none 0 cap Try.underlying37 Try.underlying5 Try.underlying9]
    rfl
  | some x =>
    have h := run_convert_bytes_back (P := Try.prog) w 37 9 5 x cap (bs.map UInt8.ofNat) Try.underlying37 Try.underlying5 Try.underlying9 (fun j hj => by
      have hjb : j < bs.length := by simpa using hj
      have hj' : j < len := by rw [← hr.1]; exact hjb
      obtain ⟨b, off, h1, h2⟩ := hr.2.2 (by omega)
      cases h1
      have h3 := h2 j hj'
      have h4 : w.cell? ((⟨b, off, none⟩ : Addr).add j) = w.cell? ⟨b, off + j, none⟩ := by
        unfold Addr.add
        split
        · rename_i h0; subst h0; rfl
        · rfl
      rw [h4, h3, getD_in _ _ hjb]
      have h5 := hr.2.1 bs[j] (List.getElem_mem _)
      simp
      omega)
    rw [List.length_map, hr.1] at h
    exact h
set_option maxHeartbeats 400000 in
theorem same_any (a b : Option Addr) (la ca lb cb : Nat) (bs : List Nat) (w : World) (ha : Row w a la bs) (hb : Row w b lb bs) :
    Calls Try.prog 23 #[.slice a la ca, .slice b lb cb] w fun e w' => e = .returned (.bool true) ∧ w = w' := by
  have h1 := conv_str w a la ca bs ha
  have h2 := conv_str w b lb cb bs hb
  go_enter Try.func23, Try.ntmps23
  go_wp2
  go_ret
  exact ⟨rfl, rfl⟩

end Go.Proofs.Ytallambldbhibaa
