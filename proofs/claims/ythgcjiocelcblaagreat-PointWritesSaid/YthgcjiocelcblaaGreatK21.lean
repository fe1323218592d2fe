/- stripe: what a stripe stands on, asked through its interface. -/
import Derived.Test.YthgcjiocelcblaaGreatK19
import Derived.Test.YthgcjiocelcblaaGreatK20
import Derived.Test.YthgcjiocelcblaaGreatShelf
import Derived.Test.YthgcjiocelcblaaGreatK13
namespace Go.Proofs.YthgcjiocelcblaaGreat
open Go.RowKit Go.Deep

/-- The members, as the interface's value. -/
def RS.dev (s : RS) : Value := .iface 51 (.pointer (some ⟨s.rb, 0, none⟩))
theorem ta_ahead (a : Addr) (w : World) : (Instr.typeAssert (.iface 51 (.pointer (some a))) 99 174 true).run Tryz.prog w = .ok (.tuple #[.iface 51 (.pointer (some a)), .bool true]) w := by kernel_rfl
theorem m_ahead (k : Nat) (a : Addr) (w : World) : (method (k + 2) 51 (.pointer (some a)) "Ahead").run Tryz.prog w = .ok (133, .pointer (some a)) w := by kernel_rfl
theorem m_geo (k : Nat) (a : Addr) (w : World) : (method (k + 2) 51 (.pointer (some a)) "Geo").run Tryz.prog w = .ok (135, .pointer (some a)) w := by kernel_rfl
theorem m_read (k : Nat) (a : Addr) (w : World) : (method (k + 2) 51 (.pointer (some a)) "Read").run Tryz.prog w = .ok (137, .pointer (some a)) w := by kernel_rfl
theorem m_program (k : Nat) (a : Addr) (w : World) : (method (k + 2) 51 (.pointer (some a)) "Program").run Tryz.prog w = .ok (136, .pointer (some a)) w := by kernel_rfl
theorem three_at {W : World} {b : Nat} {v0 v1 v2 : Value} {t : TypeId} (h : W.heap[b]? = some (.cells #[v0, v1, v2] t (0, 0))) : W.cell? ⟨b, 0, none⟩ = some v0 ∧ W.cell? ⟨b, 1, none⟩ = some v1 ∧ W.cell? ⟨b, 2, none⟩ = some v2 := by
  simp [World.cell?, h]
theorem four_at {W : World} {b : Nat} {v0 v1 v2 v3 : Value} {t : TypeId} (h : W.heap[b]? = some (.cells #[v0, v1, v2, v3] t (0, 0))) : W.cell? ⟨b, 0, none⟩ = some v0 ∧ W.cell? ⟨b, 1, none⟩ = some v1 ∧ W.cell? ⟨b, 2, none⟩ = some v2 ∧ W.cell? ⟨b, 3, none⟩ = some v3 := by
  simp [World.cell?, h]
theorem free_at {W : World} {b : Nat} {cs : Array Value} {t : TypeId} (h : W.heap[b]? = some (.cells cs t (0, 0))) (o : Nat) : W.frozen? ⟨b, o, none⟩ = false := by
  simp [World.frozen?, h]
section
variable {B : Nat} {s : RS} {w : World}
set_option maxRecDepth 100000 in
theorem ahead_any (h : Ram B s w) : Calls Tryz.prog 74 #[.iface 51 (.pointer (some ⟨s.rb, 0, none⟩))] w fun e w' => e = .returned (.int .i64 s.first) ∧ w' = w := by
  have ta := ta_ahead ⟨s.rb, 0, none⟩
  have tm := fun k => m_ahead k ⟨s.rb, 0, none⟩
  have HA := Lib.hid (ramAhead h)
  clear h
  go_enter Tryz.func74, Tryz.ntmps74
  go_wp2_with ((go_at_call 133; ((with_reducible refine HA.out.mono ?_)); (rintro e w' ⟨rfl, rfl⟩)))
  go_ret
  exact ⟨rfl, rfl⟩
set_option maxRecDepth 100000 in
theorem shape_ok (h : Ram B s w) (p q r : Int) (h1 : 0 ≤ p ∧ p < (s.bl : Int) - 5) (h2 : 0 ≤ q ∧ q < (s.pg : Int)) (h3 : 0 ≤ r ∧ r < (s.n : Int) - 1) :
    Calls Tryz.prog 55 #[.iface 51 (.pointer (some ⟨s.rb, 0, none⟩)), .agg #[.int .i64 p, .int .i64 q, .int .i64 r]] w fun e w' => e = .returned (.tuple #[.agg #[.int .i64 (s.n : Int), .int .i64 (s.bl : Int), .int .i64 (s.pg : Int), .int .i64 (s.sz : Int)], .int .i64 0]) ∧ Below w.heap.size w w' := by
  have tm := fun k => m_geo k ⟨s.rb, 0, none⟩
  have HG := Lib.hid fun (x : World) (hx : Below w.heap.size w x) => ramGeo (h.step hx)
  have HN := Lib.hid fun (x : World) => geoNum_ok (s.n : Int) (s.bl : Int) (s.pg : Int) (s.sz : Int) p q r x h.geo h1 h2 h3
  have hnum : ((NumOf s.n s.pg p q r : Int) == 0) = false := by
    have := num_bd h.geo h1 h2
    unfold NumOf
    simp
    omega
  clear h h1 h2 h3
  go_enter Tryz.func55, Tryz.ntmps55
  go_wp2_with fail
  obtain ⟨w0, hw0⟩ : ∃ x, x = (w.alloc (.cells #[.int .i64 p, .int .i64 q, .int .i64 r] 130)).alloc (.cells #[.int .i64 0, .int .i64 0, .int .i64 0, .int .i64 0] 49) := ⟨_, rfl⟩
  have k0 : Below w.heap.size w w0 ∧ w0.heap.size = w.heap.size + 2 ∧ w0.heap[w.heap.size]? = some (.cells #[.int .i64 p, .int .i64 q, .int .i64 r] 130 (0, 0)) ∧ w0.heap[w.heap.size + 1]? = some (.cells #[.int .i64 0, .int .i64 0, .int .i64 0, .int .i64 0] 49 (0, 0)) := by
    rw [hw0]
    refine ⟨bel_alloc (bel_alloc (Below.refl _ w) _) _, by simp, ?_, ?_⟩
    · rw [heap_alloc_old' (by simp)]; exact heap_alloc_new w _
    · have := heap_alloc_new (w.alloc (.cells #[.int .i64 p, .int .i64 q, .int .i64 r] 130)) (.cells #[.int .i64 0, .int .i64 0, .int .i64 0, .int .i64 0] 49)
      simpa using this
  rw [← hw0]
  clear hw0
  obtain ⟨k1, k2, k3, k4⟩ := k0
  ((with_reducible refine (HG.out _ k1).mono ?_))
  rintro e w1 ⟨rfl, hb1⟩
  have K := Lib.hid (And.intro (bel_trans k1 hb1) (And.intro ((hb1.block _ (by omega)).trans k3) (And.intro ((hb1.block _ (by omega)).trans k4) (show w.heap.size + 2 ≤ w1.heap.size by have := hb1.size; omega))))
  clear hb1 k1 k2 k3 k4
  obtain ⟨w2, hw2⟩ : ∃ x, x = w1.alloc (.cells #[.int .i64 (s.n : Int), .int .i64 (s.bl : Int), .int .i64 (s.pg : Int), .int .i64 (s.sz : Int)] 49) := ⟨_, rfl⟩
  have j0 : Below w.heap.size w w2 ∧ w2.heap[w.heap.size]? = some (.cells #[.int .i64 p, .int .i64 q, .int .i64 r] 130 (0, 0)) ∧ w2.heap[w.heap.size + 1]? = some (.cells #[.int .i64 0, .int .i64 0, .int .i64 0, .int .i64 0] 49 (0, 0)) ∧ w2.heap[w1.heap.size]? = some (.cells #[.int .i64 (s.n : Int), .int .i64 (s.bl : Int), .int .i64 (s.pg : Int), .int .i64 (s.sz : Int)] 49 (0, 0)) := by
    have := K.out.2.2.2
    rw [hw2]
    exact ⟨bel_alloc K.out.1 _, (heap_alloc_old' (by omega) _).trans K.out.2.1, (heap_alloc_old' (by omega) _).trans K.out.2.2.1, heap_alloc_new w1 _⟩
  have J := Lib.hid j0
  obtain ⟨j1, j2, j3⟩ := three_at j0.2.1
  obtain ⟨i0, i1, i2, i3⟩ := four_at j0.2.2.2
  clear j0
  go_upto_region 4 with fail
  rw [← hw2]
  clear hw2
  go_wp2_with fail
  ((with_reducible refine (HN.out _).mono ?_))
  rintro e w3 ⟨rfl, hb3⟩
  have L0 : Below w.heap.size w w3 ∧ w3.heap[w.heap.size + 1]? = some (.cells #[.int .i64 0, .int .i64 0, .int .i64 0, .int .i64 0] 49 (0, 0)) ∧ w3.heap[w1.heap.size]? = some (.cells #[.int .i64 (s.n : Int), .int .i64 (s.bl : Int), .int .i64 (s.pg : Int), .int .i64 (s.sz : Int)] 49 (0, 0)) := by
    refine ⟨bel_trans J.out.1 hb3, (hb3.block _ ?_).trans J.out.2.2.1, (hb3.block _ ?_).trans J.out.2.2.2⟩
    · exact (Array.getElem?_eq_some_iff.1 J.out.2.2.1).1
    · exact (Array.getElem?_eq_some_iff.1 J.out.2.2.2).1
  have L := Lib.hid L0
  obtain ⟨z0, z1, z2, z3⟩ := four_at L0.2.1
  obtain ⟨g0, g1, g2, g3⟩ := four_at L0.2.2
  have zf := free_at L0.2.1
  clear L0 hb3 j1 j2 j3 i0 i1 i2 i3
  go_wp2
  refine bodyPost_ret (v := .tuple #[.agg #[.int .i64 (s.n : Int), .int .i64 (s.bl : Int), .int .i64 (s.pg : Int), .int .i64 (s.sz : Int)], .int .i64 0]) (by simp [results, Tryz.results55, go_sem, z0, z1, z2, z3]) rfl ⟨rfl, ?_⟩
  exact (((L.out.1.setCell (p := ⟨w.heap.size + 1, 0, none⟩) (by simp) _).setCell (p := ⟨w.heap.size + 1, 1, none⟩) (by simp) _).setCell (p := ⟨w.heap.size + 1, 2, none⟩) (by simp) _).setCell (p := ⟨w.heap.size + 1, 3, none⟩) (by simp) _
end
end Go.Proofs.YthgcjiocelcblaaGreat

namespace Go.Proofs.YthgcjiocelcblaaGreat
open Go.RowKit Go.Deep

def rangeL (from' n : Nat) : List Nat := (List.range n).map (from' + ·)
/-- The order: the one that is to be ahead first, if it is among them. -/
def ordL (from' n : Nat) (first : Int) : List Nat :=
  if (from' : Int) ≤ first ∧ first < (from' : Int) + (n : Int) then first.toNat :: (rangeL from' n).eraseIdx (first.toNat - from') else rangeL from' n
theorem rangeL_len (f n : Nat) : (rangeL f n).length = n := by simp [rangeL]
theorem rangeL_succ (f k : Nat) : rangeL f (k + 1) = rangeL f k ++ [f + k] := by simp [rangeL, List.range_succ]
theorem rangeL_at (f n k : Nat) (h : k < n) : (rangeL f n).getD k 0 = f + k := by simp [rangeL, List.getD, h]
theorem ordL_len (f n : Nat) (x : Int) : (ordL f n x).length = n := by
  unfold ordL
  split
  · rename_i h
    rw [List.length_cons, List.length_eraseIdx, rangeL_len, if_pos (by omega)]
    omega
  · exact rangeL_len f n
/-- Cells that are written one behind the other. -/
def setA : Array Value → Nat → List Value → Array Value
  | cs, _, [] => cs
  | cs, o, v :: r => setA (cs.setIfInBounds o v) (o + 1) r
theorem heap_setCells {b : Nat} {t : TypeId} : ∀ (vs : List Value) (o : Nat) (x : World) (cs : Array Value), x.heap[b]? = some (.cells cs t (0, 0)) → (x.setCells b o vs).heap[b]? = some (.cells (setA cs o vs) t (0, 0))
  | [], _, _, _, h => h
  | v :: r, o, w, cs, h => heap_setCells r (o + 1) _ _ (heap_setCell_same w b o cs t v h)
theorem setA_size : ∀ (vs : List Value) (o : Nat) (cs : Array Value), (setA cs o vs).size = cs.size
  | [], _, _ => rfl
  | v :: r, o, cs => (setA_size r (o + 1) _).trans (by simp)
theorem setA_get : ∀ (vs : List Value) (o : Nat) (cs : Array Value) (k : Nat), k < cs.size → (setA cs o vs)[k]? = if o ≤ k ∧ k < o + vs.length then vs[k - o]? else cs[k]?
  | [], o, cs, k, _ => by rw [if_neg (by simp)]; rfl
  | v :: r, o, cs, k, hk => by
    rw [setA, setA_get r (o + 1) _ k (by simpa using hk)]
    by_cases h1 : k = o
    · subst h1
      rw [if_neg (by omega), if_pos (by simp)]
      simp [hk]
    · by_cases h2 : o + 1 ≤ k ∧ k < o + 1 + r.length
      · rw [if_pos h2, if_pos (by simp; omega)]
        rw [show k - o = (k - (o + 1)) + 1 by omega]
        simp
      · rw [if_neg h2, if_neg (by simp; omega)]
        rw [Array.getElem?_setIfInBounds_ne (by omega)]
theorem below_setCells' {B b : Nat} {a : World} (hb : B ≤ b) : ∀ (vs : List Value) (o : Nat) (x : World), Below B a x → Below B a (x.setCells b o vs)
  | [], _, _, h => h
  | v :: r, o, _, h => below_setCells' hb r (o + 1) _ (h.setCell (p := ⟨b, o, none⟩) hb v)
theorem oneCellI (x : Int) : (Value.int .i64 x).oneCell' = true := rfl
/-- The cells that Delete and Insert leave. -/
theorem ord_cells (f n p : Nat) (hp : p < n) (hn : 2 ≤ n) (cs : Array Value) (hs : n ≤ cs.size) :
    ∀ k, k < n → (setA (setA (setA cs 0 ((((rangeL f n).map Int.ofNat).take p ++ ((rangeL f n).map Int.ofNat).drop (p + 1) ++ List.replicate 1 0).map (Value.int .i64))) 1 (((rangeL f n).eraseIdx p).map fun (x : Nat) => Value.int .i64 (x : Int))) 0 [Value.int .i64 ((f + p : Nat) : Int)])[k]? =
      some (.int .i64 (((f + p) :: (rangeL f n).eraseIdx p).getD k 0 : Nat)) := by
  intro k hk
  have hl : ((rangeL f n).eraseIdx p).length = n - 1 := by rw [List.length_eraseIdx, rangeL_len, if_pos hp]
  rw [setA_get _ _ _ _ (by rw [setA_size, setA_size]; omega)]
  cases k with
  | zero => simp
  | succ k =>
    rw [if_neg (by simp), setA_get _ _ _ _ (by rw [setA_size]; omega), if_pos (by rw [List.length_map, hl]; omega)]
    have hk' : k < ((rangeL f n).eraseIdx p).length := by omega
    simp [List.getD, hk']
/-- A slice of ints that is read. -/
def CellsI (w : World) (a : Option Addr) (l : List Nat) : Prop := 0 < l.length → ∃ b off, a = some ⟨b, off, none⟩ ∧ ∀ i, i < l.length → w.cell? ⟨b, off + i, none⟩ = some (.int .i64 (l.getD i 0 : Int))
def OrdRet (from' n : Nat) (first : Int) (w : World) (e : Ending) (w' : World) : Prop :=
  ∃ a c, e = .returned (.slice a n c) ∧ CellsI w' a (ordL from' n first) ∧ (∀ x, a = some x → w.heap.size ≤ x.block) ∧ Below w.heap.size w w'
section
variable {B : Nat} {s : RS} {w : World}
set_option maxRecDepth 100000 in
set_option maxHeartbeats 1000000 in
theorem order_any (h : Ram B s w) (f n : Nat) (hf : f ≤ 1000) (hn2 : 2 ≤ n) (hn : n ≤ 1000) :
    Calls Tryz.prog 58 #[.iface 51 (.pointer (some ⟨s.rb, 0, none⟩)), .int .i64 (f : Int), .int .i64 (n : Int)] w (OrdRet f n s.first w) := by
  have HAH := Lib.hid fun (x : World) (hx : Below w.heap.size w x) => ahead_any (h.step hx)
  have hgt : decide ((2147483647 : Int) < (n : Int)) = false := by simp; omega
  obtain ⟨z, hz0⟩ : ∃ z, z = s.first := ⟨_, rfl⟩
  rw [← hz0] at HAH ⊢
  clear h hz0
  go_enter Tryz.func58, Tryz.ntmps58
  go_wp2_with fail
  go_loopw [7, 14] (fun v i wr => ∃ k : Nat, k ≤ n ∧ i = .int .i64 (k : Int) ∧ wr.ownsRow w.heap.size 3 1 v k (vals (rangeL f k)) ∧ Below w.heap.size w wr) (fun _ i _ => (n - intOf i).toNat)
  case atStart => exact ⟨0, Nat.zero_le _, rfl, World.ownsRow_nil w _ _ 1, Below.refl _ _⟩
  case round =>
    obtain ⟨k, hk, rfl, ho, hb⟩ := hrel
    have hz := hb.size
    by_cases hlt : k < n
    · have HO := Lib.hid ho
      have HB := Lib.hid hb
      clear ho hb
      have hlt' : decide (k < n) = true := by simpa using hlt
      go_wp2_with (at_builtin; refine wpList_appI rfl _ _ rfl w.heap.size _ (rangeL f k) rfl (by rw [rangeL_len]; exact HO.out.alloc _) ⟨wr.heap.size, 0, none⟩ (f + k) 1 rfl (cell_new1 _ _ _) (by simp; omega) (by rw [rangeL_len]; omega) ?_)
      intro nv w2 own grow wh
      have HR := Lib.hid (And.intro (show w2.ownsRow w.heap.size 3 1 nv (k + 1) (vals (rangeL f (k + 1))) by rw [← rangeL_succ, rangeL_len] at own; exact own) ((bel_alloc HB.out _).grown grow (Nat.le_trans hz (by simp)) (fun x hx => (HO.out.lt x hx).1)))
      clear own grow wh hlt'
      go_wp2
      go_roundw
      case rel => exact ⟨k + 1, by omega, by go_num, HR.out.1, HR.out.2⟩
      case measure => simp [intOf]; omega
    · obtain rfl : k = n := by omega
      rcases ho.2 with ⟨_, h0⟩ | ⟨g, c, cur, e, hg, hbk, hkc, hcm, hcs, hct⟩
      · omega
      subst e
      rw [Nat.mul_one] at hcs hct
      have hcell : ∀ j, j < ((rangeL f k).map Int.ofNat).length → wr.cell? ⟨g, 0 + j, none⟩ = some (.int .i64 (((rangeL f k).map Int.ofNat).getD j 0)) := fun j hj => by
        have hj' : j < k := by simpa [rangeL_len] using hj
        have h1 : cur.toList[j]? = (vals (rangeL f k))[j]? := by rw [← hct, List.getElem?_take, if_pos hj']
        have h2 : (vals (rangeL f k))[j]? = some (.int .i64 ((f + j : Nat) : Int)) := by simp [vals, rangeL, hj']
        have h3 : ((rangeL f k).map Int.ofNat).getD j 0 = ((f + j : Nat) : Int) := by simp [List.getD, rangeL, hj']
        rw [Nat.zero_add, h3, cell_of_row wr g j cur _ _ hbk]
        rw [← h2, ← h1]
        simp
      have hzl : ((rangeL f k).map Int.ofNat).length = k := by simp [rangeL_len]
      have hzt : ((rangeL f k).map Int.ofNat).take k = (rangeL f k).map Int.ofNat := List.take_of_length_le (by omega)
      have HIX := Lib.hid (Tryz.slices_Index_int g 0 k c ((rangeL f k).map Int.ofNat) z wr (by omega) (by omega) hcell)
      have HB := Lib.hid hb
      have HK := Lib.hid (And.intro hg (And.intro hbk (And.intro hkc (And.intro hcm (And.intro hcs hct)))))
      have hlt' : decide (k < k) = false := by simp
      have hkb : k ≤ 1000 := hn
      have HCE := Lib.hid hcell
      clear ho hb hg hbk hkc hcm hcs hct hcell
      by_cases hin : (f : Int) ≤ z ∧ z < (f : Int) + (k : Int)
      · obtain ⟨p, hzp⟩ : ∃ p : Nat, z = ((f + p : Nat) : Int) := ⟨(z - f).toNat, by omega⟩
        have hp : p < k := by omega
        have hidx : Lib.idxOf (((rangeL f k).map Int.ofNat).take k) z = ((p : Nat) : Int) := by
          rw [hzt, hzp, Lib.idxOf, Lib.idxFrom_hit _ _ p 0 (by omega) (by simp [List.getD, rangeL, hp]) (fun j hj => by simp [List.getD, rangeL, Nat.lt_trans hj hp]; omega)]
          simp
        rw [hidx] at HIX
        have q1 : decide ((0 : Int) ≤ z) = true := by rw [hzp, decide_eq_true_eq]; omega
        have q2 : decide ((0 : Int) ≤ (p : Int)) = true := by simp
        have hw : IntKind.i64.wrap ((p : Int) + 1) = ((p + 1 : Nat) : Int) := by rw [IntWalk.i64_in _ (by omega)]; omega
        have HZ := Lib.hid hzp
        have HIN := Lib.hid hin
        clear hzp hin hidx
        go_wp2_with fail
        ((with_reducible refine (HAH.out _ HB.out).mono ?_))
        rintro e w' ⟨rfl, rfl⟩
        go_wp2_with fail
        ((with_reducible refine HIX.out.mono ?_))
        rintro e w' ⟨rfl, rfl⟩
        have HDE := Tryz.slices_Delete_int_cells g 0 k c p (p + 1) ((rangeL f k).map Int.ofNat) w' (by omega) HK.out.2.2.1 (by have := HK.out.2.2.2.1; unfold maxLen at this; omega) (by omega) (by omega) HCE.out (fun j _ => free_at HK.out.2.1 _)
        rw [show (((p + 1 : Nat) : Nat) : Int) = (p : Int) + 1 from by omega, hzt] at HDE
        have HD := Lib.hid HDE
        clear HDE
        go_wp2_with fail
        ((with_reducible refine HD.out.mono ?_))
        rintro e w1 ⟨rfl, q, hw1⟩
        have hk1 : k - (p + 1 - p) = k - 1 := by omega
        rw [hk1, show p + 1 - p = 1 by omega] at *
        have hb1 : w1.heap[g]? = some (.cells (setA cur 0 ((((rangeL f k).map Int.ofNat).take p ++ ((rangeL f k).map Int.ofNat).drop (p + 1) ++ List.replicate 1 0).map (Value.int .i64))) 3 (0, 0)) := by
          rw [hw1]; exact heap_setCells _ _ _ _ HK.out.2.1
        have hbb : Below w.heap.size w w1 := by rw [hw1]; exact below_setCells' HK.out.1 _ _ _ (HB.out.trans ⟨rfl, rfl, rfl, Nat.le_refl _, fun _ _ => rfl⟩)
        have hgl : g < w1.heap.size := (Array.getElem?_eq_some_iff.1 hb1).1
        obtain ⟨A1, hA1⟩ : ∃ A1, A1 = setA cur 0 ((((rangeL f k).map Int.ofNat).take p ++ ((rangeL f k).map Int.ofNat).drop (p + 1) ++ List.replicate 1 0).map (Value.int .i64)) := ⟨_, rfl⟩
        have hA1s : A1.size = c := by rw [hA1, setA_size]; exact HK.out.2.2.2.2.1
        have hA1g : ∀ (j : Nat) (v : Value), (((rangeL f k).eraseIdx p).map fun (x : Nat) => Value.int .i64 (x : Int))[j]? = some v → A1[j]? = some v := by
          intro j v hj
          have hjl : j < (((rangeL f k).eraseIdx p).map fun (x : Nat) => Value.int .i64 (x : Int)).length := (List.getElem?_eq_some_iff.1 hj).1
          have hjk : j < k - 1 := by rwa [List.length_map, List.length_eraseIdx, rangeL_len, if_pos hp] at hjl
          rw [hA1, setA_get _ _ _ _ (by rw [HK.out.2.2.2.2.1]; have := HK.out.2.2.1; omega), if_pos (by simp [rangeL_len]; omega), ← hj, List.eraseIdx_eq_take_drop_succ]
          rw [Nat.sub_zero, List.map_append, List.getElem?_append_left (by simp [rangeL_len]; omega)]
          simp [Function.comp_def]
        rw [← hA1] at hb1
        have hsz1 : ∀ o, (w1.alloc o).heap[g]? = w1.heap[g]? := fun o => heap_alloc_old' hgl o
        have hIN := Tryz.slices_Insert_int_shift g 0 (k - 1) c 0 w1.heap.size 0 1 1 (((rangeL f k).eraseIdx p).map fun (x : Nat) => Value.int .i64 (x : Int)) [.int .i64 z] (w1.alloc (.cells #[.int .i64 z] 3))
          (by omega) (by omega) (by have := HK.out.2.2.1; omega) (by have := HK.out.2.2.2.1; unfold maxLen at this; omega) (by omega) (by rw [List.length_map, List.length_eraseIdx, rangeL_len, if_pos hp]) rfl
          (fun j v hj => by rw [Nat.zero_add, cell_of_row _ g j A1 _ _ ((hsz1 _).trans hb1)]; exact hA1g j v hj)
          (fun j hj => by rw [Nat.zero_add, cell_of_row _ g j A1 _ _ ((hsz1 _).trans hb1)]; simp; have := HK.out.2.2.1; omega)
          (fun j _ => free_at ((hsz1 _).trans hb1) _)
          (fun j v hj => by
            cases j with
            | zero => simp only [List.getElem?_cons_zero, Option.some.injEq] at hj; subst hj; exact cell_new1 _ _ _
            | succ j => simp at hj)
          (fun v hv => by rw [List.mem_map] at hv; obtain ⟨x, _, rfl⟩ := hv; rfl) (fun v hv => by rw [List.mem_singleton] at hv; subst hv; rfl)
          3 3 1 c (by unfold World.shape?; rw [heap_alloc_new]; rfl) (by unfold World.shape?; rw [(hsz1 _).trans hb1]; simp only [hA1s]) (by have := HK.out.2.2.1; omega)
          (free_at (heap_alloc_new w1 _) _) (free_at (heap_alloc_new w1 _) _)
        rw [show k - 1 + 1 = k by omega, show ((0 : Nat) : Int) = 0 from rfl] at hIN
        have HIN2 := Lib.hid hIN
        have HW1 := Lib.hid (And.intro hb1 (And.intro hbb (And.intro hgl hA1)))
        clear hIN hb1 hbb hgl hA1 hA1s hA1g hsz1 hw1 hk1
        go_wp2_with fail
        ((with_reducible refine HIN2.out.mono ?_))
        rintro e w3 ⟨rfl, hw3⟩
        have H3 : Hid (CellsI w3 (some ⟨g, 0, none⟩) (ordL f k z) ∧ Below w.heap.size w w3) := by
          refine Lib.hid ⟨fun _ => ⟨g, 0, rfl, fun i hi => ?_⟩, ?_⟩
          · have hi' : i < k := by rwa [ordL_len] at hi
            have hb3 : w3.heap[g]? = some (.cells (setA (setA A1 1 (((rangeL f k).eraseIdx p).map fun (x : Nat) => Value.int .i64 (x : Int))) 0 [.int .i64 z]) 3 (0, 0)) := by
              rw [hw3]
              exact heap_setCells _ _ _ _ (heap_setCells _ _ _ _ ((heap_alloc_old' HW1.out.2.2.1 _).trans HW1.out.1))
            rw [Nat.zero_add, cell_of_row _ g i _ _ _ hb3, HW1.out.2.2.2, HZ.out]
            have := ord_cells f k p hp (by omega) cur (by rw [HK.out.2.2.2.2.1]; exact HK.out.2.2.1) i hi'
            rw [this]
            unfold ordL
            rw [if_pos (by rw [← HZ.out]; exact HIN.out), Int.toNat_natCast, Nat.add_sub_cancel_left]
          · rw [hw3]
            exact below_setCells' HK.out.1 _ _ _ (below_setCells' HK.out.1 _ _ _ (bel_alloc HW1.out.2.1 _).drew)
        clear hw3
        go_wp2
        go_ret
        exact ⟨some ⟨g, 0, none⟩, c, rfl, H3.out.1, fun x hx => by cases hx; exact HK.out.1, H3.out.2⟩
      · have hidx : Lib.idxOf (((rangeL f k).map Int.ofNat).take k) z = -1 := by
          rw [hzt, Lib.idxOf, Lib.idxFrom_miss _ _ _ (fun j hj => by
            have hj' : j < k := by omega
            simp [List.getD, rangeL, hj']
            omega)]
        rw [hidx] at HIX
        have HIN := Lib.hid hin
        have HE : Hid (CellsI wr (some ⟨g, 0, none⟩) (ordL f k z)) := Lib.hid fun _ => ⟨g, 0, rfl, fun i hi => by
          have hi' : i < k := by rwa [ordL_len] at hi
          have := HCE.out i (by omega)
          rw [this]
          unfold ordL
          rw [if_neg HIN.out]
          simp [List.getD, rangeL, hi']⟩
        clear hin hidx
        by_cases hz0 : 0 ≤ z
        · have q1 : decide ((0 : Int) ≤ z) = true := by simpa using hz0
          go_wp2_with fail
          ((with_reducible refine (HAH.out _ HB.out).mono ?_))
          rintro e w' ⟨rfl, rfl⟩
          go_wp2_with fail
          ((with_reducible refine HIX.out.mono ?_))
          rintro e w' ⟨rfl, rfl⟩
          go_wp2
          go_ret
          exact ⟨some ⟨g, 0, none⟩, c, rfl, HE.out, fun x hx => by cases hx; exact HK.out.1, HB.out⟩
        · have q1 : decide ((0 : Int) ≤ z) = false := by simpa using hz0
          go_wp2_with fail
          ((with_reducible refine (HAH.out _ HB.out).mono ?_))
          rintro e w' ⟨rfl, rfl⟩
          go_wp2_with fail
          ((with_reducible refine HIX.out.mono ?_))
          rintro e w' ⟨rfl, rfl⟩
          go_wp2
          go_ret
          exact ⟨some ⟨g, 0, none⟩, c, rfl, HE.out, fun x hx => by cases hx; exact HK.out.1, HB.out⟩
end
end Go.Proofs.YthgcjiocelcblaaGreat

namespace Go.Proofs.YthgcjiocelcblaaGreat
open Go.RowKit Go.Deep

/-- A page of data, with its header. -/
structure SP where
  h : RH
  d : PS
def SP.nil : SP := ⟨RH.zero, PS.nil⟩
def SP.cells (p : SP) : Array Value := #[.int .u8 (p.h.ki : Int), .int .u32 (p.h.ep : Int), .int .u32 (p.h.ba : Int), .int .u16 (p.h.ix : Int), .int .u16 (p.h.ct : Int), .int .u32 (p.h.bl : Int), .int .u32 (p.h.mo : Int), .slice p.d.a p.d.n p.d.c]
def SPat (p : SP) (b o : Nat) (w : World) : Prop :=
  w.cell? ⟨b, o, none⟩ = some (.int .u8 (p.h.ki : Int)) ∧ w.cell? ⟨b, o + 1, none⟩ = some (.int .u32 (p.h.ep : Int)) ∧ w.cell? ⟨b, o + 2, none⟩ = some (.int .u32 (p.h.ba : Int)) ∧ w.cell? ⟨b, o + 3, none⟩ = some (.int .u16 (p.h.ix : Int)) ∧
    w.cell? ⟨b, o + 4, none⟩ = some (.int .u16 (p.h.ct : Int)) ∧ w.cell? ⟨b, o + 5, none⟩ = some (.int .u32 (p.h.bl : Int)) ∧ w.cell? ⟨b, o + 6, none⟩ = some (.int .u32 (p.h.mo : Int)) ∧ w.cell? ⟨b, o + 7, none⟩ = some (.slice p.d.a p.d.n p.d.c)
def CellsSP (w : World) (a : Option Addr) (L : List SP) : Prop := 0 < L.length → ∃ b off, a = some ⟨b, off, none⟩ ∧ ∀ i, i < L.length → SPat (L.getD i SP.nil) b (off + i * 8) w
theorem SPat.step {p : SP} {b o : Nat} {x y : World} (h : SPat p b o x) (hb : Below x.heap.size x y) : SPat p b o y := by
  obtain ⟨h0, h1, h2, h3, h4, h5, h6, h7⟩ := h
  exact ⟨cell_step h0 hb, cell_step h1 hb, cell_step h2 hb, cell_step h3 hb, cell_step h4 hb, cell_step h5 hb, cell_step h6 hb, cell_step h7 hb⟩
theorem CellsSP.step {x y : World} {a : Option Addr} {L : List SP} (h : CellsSP x a L) (hb : Below x.heap.size x y) : CellsSP y a L := fun h0 => by
  obtain ⟨b, off, e, hc⟩ := h h0
  exact ⟨b, off, e, fun i hi => (hc i hi).step hb⟩
/-- Pages that are read. -/
def PagesSP (w : World) (a : Option Addr) (L : List SP) : Prop := CellsSP w a L ∧ ∀ p ∈ L, PartOk w p.d ∧ p.h.Fits
theorem PagesSP.step {x y : World} {a : Option Addr} {L : List SP} (h : PagesSP x a L) (hb : Below x.heap.size x y) : PagesSP y a L := ⟨h.1.step hb, fun p hp => ⟨(h.2 p hp).1.step hb, (h.2 p hp).2⟩⟩
set_option maxRecDepth 100000 in
theorem fits1_any (p : SP) (G sz : Nat) (w : World) (hg : w.cell? ⟨G, 3, none⟩ = some (.int .i64 (sz : Int))) (hn : p.d.n = sz) :
    Calls Tryz.prog 69 #[.agg #[.int .u8 (p.h.ki : Int), .int .u32 (p.h.ep : Int), .int .u32 (p.h.ba : Int), .int .u16 (p.h.ix : Int), .int .u16 (p.h.ct : Int), .int .u32 (p.h.bl : Int), .int .u32 (p.h.mo : Int), .slice p.d.a p.d.n p.d.c], .pointer (some ⟨G, 0, none⟩)] w fun e w' => e = .returned (.bool false) ∧ Below w.heap.size w w' := by
  have hlt := World.block_lt_of_cell? w _ hg
  simp only at hlt
  rw [hn]
  have q : ((sz : Int) != (sz : Int)) = false := by simp
  clear hn
  go_enter Tryz.func69, Tryz.ntmps69
  go_wp2
  go_ret
  exact ⟨rfl, bel_alloc (Below.refl _ _) _⟩
set_option maxRecDepth 100000 in
theorem spIndexFunc_any (a : Option Addr) (n c : Nat) (L : List SP) (G sz : Nat) (w : World) (hn : n = L.length) (hL : CellsSP w a L) (hm : n ≤ 1000) (hg : w.cell? ⟨G, 3, none⟩ = some (.int .i64 (sz : Int))) (hd : ∀ p ∈ L, p.d.n = sz) :
    Calls Tryz.prog 88 #[.slice a n c, .func (.func 69) #[] #[.pointer (some ⟨G, 0, none⟩)]] w fun e w' => e = .returned (.int .i64 (-1)) ∧ Below w.heap.size w w' := by
  have HL := Lib.hid hL
  have HG := Lib.hid hg
  have HD := Lib.hid hd
  have HN := Lib.hid hn
  clear hL hg hd hn
  go_enter Tryz.func88, Tryz.ntmps88
  go_wp2_with fail
  go_loopw [8] (fun i wr => ∃ k : Nat, k ≤ n ∧ i = .int .i64 (k : Int) ∧ Below w.heap.size w wr) (fun i _ => (n - intOf i).toNat)
  case atStart => exact ⟨0, Nat.zero_le _, rfl, Below.refl _ _⟩
  case round =>
    obtain ⟨k, hk, rfl, hb⟩ := hrel
    by_cases hlt : k < n
    · have hlt' : decide (k < n) = true := by simpa using hlt
      obtain ⟨b, off, ha, hc⟩ := HL.out (by rw [← HN.out]; omega)
      obtain ⟨p, hp⟩ : ∃ p, p = L.getD k SP.nil := ⟨_, rfl⟩
      have hat := (hc k (by rw [← HN.out]; exact hlt)).step hb
      rw [← hp] at hat
      obtain ⟨h0, h1, h2, h3, h4, h5, h6, h7⟩ := hat
      have hpd : p.d.n = sz := HD.out p (by rw [hp]; simp [List.getD, show k < L.length by rw [← HN.out]; exact hlt])
      have HF := Lib.hid (fits1_any p G sz wr (cell_step HG.out hb) hpd)
      have HB := Lib.hid hb
      have i0 : (0 : Int) ≤ (k : Int) := by omega
      have i1 : (k : Int) < (n : Int) := by omega
      subst ha
      clear hb hc hp hpd
      go_wp2_with fail
      ((with_reducible refine HF.out.mono ?_))
      rintro e w2 ⟨rfl, hb2⟩
      have HB2 := Lib.hid (bel_trans HB.out hb2)
      clear hb2 h0 h1 h2 h3 h4 h5 h6 h7
      go_wp2
      go_roundw
      case rel => exact ⟨k + 1, by omega, by go_num, HB2.out⟩
      case measure => simp [intOf]; omega
    · obtain rfl : k = n := by omega
      have hlt' : decide (k < k) = false := by simp
      have HB := Lib.hid hb
      clear hb
      go_wp2
      go_ret
      exact ⟨rfl, HB.out⟩
set_option maxRecDepth 100000 in
theorem spContains_any (a : Option Addr) (n c : Nat) (L : List SP) (G sz : Nat) (w : World) (hn : n = L.length) (hL : CellsSP w a L) (hm : n ≤ 1000) (hg : w.cell? ⟨G, 3, none⟩ = some (.int .i64 (sz : Int))) (hd : ∀ p ∈ L, p.d.n = sz) :
    Calls Tryz.prog 68 #[.slice a n c, .func (.func 69) #[] #[.pointer (some ⟨G, 0, none⟩)]] w fun e w' => e = .returned (.bool false) ∧ Below w.heap.size w w' := by
  have H := Lib.hid (spIndexFunc_any a n c L G sz w hn hL hm hg hd)
  clear hn hL hg hd
  go_enter Tryz.func68, Tryz.ntmps68
  go_wp2_with fail
  ((with_reducible refine H.out.mono ?_))
  rintro e w2 ⟨rfl, hb2⟩
  have HB2 := Lib.hid hb2
  clear hb2
  go_wp2
  go_ret
  exact ⟨rfl, HB2.out⟩
set_option maxRecDepth 100000 in
theorem fits_yes (g0 g1 g2 : Int) (sz : Nat) (a : Option Addr) (n c : Nat) (L : List SP) (w : World) (hn : n = L.length) (hL : CellsSP w a L) (hm : n ≤ 999) (h0 : g0 = (n : Int) + 1) (h3 : 3 ≤ g0) (hd : ∀ p ∈ L, p.d.n = sz) :
    Calls Tryz.prog 56 #[.agg #[.int .i64 g0, .int .i64 g1, .int .i64 g2, .int .i64 (sz : Int)], .slice a n c] w fun e w' => e = .returned (.bool true) ∧ Below w.heap.size w w' := by
  have hg1 : g0 ≤ 1000 := by omega
  have HW := Lib.hid fun (x : World) => width_any g0 g1 g2 (sz : Int) x h3 hg1
  have HCF := Lib.hid fun (x : World) (hb : Below w.heap.size w x) (hg : x.cell? ⟨w.heap.size, 3, none⟩ = some (.int .i64 (sz : Int))) => spContains_any a n c L w.heap.size sz x hn (hL.step hb) (Nat.le_trans hm (by decide)) hg hd
  have hq : ((n : Int) == g0 - 1) = true := by rw [h0]; simp
  have hg := gs_new w g0 g1 g2 (sz : Int)
  have HG := Lib.hid hg
  clear hn hL hd hg h0
  go_enter Tryz.func56, Tryz.ntmps56
  go_wp2_with fail
  ((with_reducible refine (HW.out _).mono ?_))
  rintro e w2 ⟨rfl, hb2⟩
  have h2 := HG.out.step hb2
  have HB2 := Lib.hid h2.2.2.2.2
  have H2 := Lib.hid h2.2.2.2.1
  clear hb2 h2
  go_wp2_with fail
  ((with_reducible refine (HCF.out _ HB2.out H2.out).mono ?_))
  rintro e w3 ⟨rfl, hb3⟩
  have HB3 := Lib.hid (bel_trans HB2.out hb3)
  clear hb3
  go_wp2
  go_ret
  exact ⟨rfl, HB3.out⟩
end Go.Proofs.YthgcjiocelcblaaGreat
