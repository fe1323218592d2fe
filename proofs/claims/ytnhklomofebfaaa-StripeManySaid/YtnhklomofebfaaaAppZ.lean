/- append of noughts (made on the spot) onto bytes of the call's own. -/
import Derived.Test.YtnhklomofebfaaaAppend
import Derived.Lib.AppendZeros
namespace Go.Proofs.Ytnhklomofebfaaa
open Go.RowKit

theorem zeroCells_u8 (m : Nat) : (Builtin.zeroCells (Value.int .u8 0).cells m).toList = List.replicate m (Value.int .u8 0) := by
  apply List.ext_getElem
  · simp [Builtin.zeroCells, Value.cells]
  · intro j h1 h2
    simp [Builtin.zeroCells, Value.cells, Nat.mod_one]
section
variable (w : World)
theorem run_append_zeros_room (ty : TypeId) (i : TypeInfo) (hi : Try.prog.info? 5 = some i) (hz : i.zero = some (.int .u8 0)) (hs : i.size = 1) (hb : i.bytes = 1)
    (g n cap m : Nat) (cur : Array Value) (hg : w.heap[g]? = some (.cells cur 5 (0, 0))) (hm : 0 < m) (hm2 : m ≤ 100000) (hroom : n + m ≤ cap) (hfit : n + m ≤ cur.size) :
    (Builtin.append_ #[23, 3] ty #[.slice (some ⟨g, 0, none⟩) n cap, .int .i64 (m : Int)]).run Try.prog w =
      .ok (.slice (some ⟨g, 0, none⟩) (n + m) cap) (w.setRow g (cur.toList.take n ++ List.replicate m (Value.int .u8 0) ++ cur.toList.drop (n + m)).toArray) := by
  have hzc := zeroCells_u8 m
  have hst := run_storeCells_at Try.prog g n 5 (List.replicate m (Value.int .u8 0)) 0 cur w hg (by simpa using hfit) (fun u hu => by rw [List.eq_of_mem_replicate hu]; rfl)
  simp only [Nat.add_zero, List.length_replicate] at hst
  have hw : IntKind.i64.wrap (m : Int) = (m : Int) := by rw [IntKind.wrap_i64]; omega
  have hneg : ¬ ((m : Int) < 0) := by omega
  have h48 : ¬ (281474976710656 < (m : Int)) := by omega
  have hne : ¬ (m = 0) := by omega
  simp [Builtin.append_, run_underlying Try.underlying23, run_underlying Try.underlying3, sizeOf, typeInfo, zeroValue, hi, hz, hs, hb, asInt, asIntOf, hw, hneg, h48, hne, hroom, hzc, Addr.add_lit, hst]

theorem run_append_zeros_grow (ty : TypeId) (i : TypeInfo) (hi : Try.prog.info? 5 = some i) (hz : i.zero = some (.int .u8 0)) (hs : i.size = 1) (hb : i.bytes = 1)
    (g n cap m : Nat) (olds : List Value) (hlo : olds.length = n) (holds : ∀ j v, olds[j]? = some v → w.cell? ((⟨g, 0, none⟩ : Addr).add j) = some v) (hm : 0 < m) (hm2 : m ≤ 100000) (hn : n ≤ 1000000) (hg : cap < n + m) :
    (Builtin.append_ #[23, 3] ty #[.slice (some ⟨g, 0, none⟩) n cap, .int .i64 (m : Int)]).run Try.prog w =
      .ok (.slice (some ⟨w.heap.size, 0, none⟩) (n + m) (grownCap w (n + m) cap 5))
        (w.drew.alloc (.cells (olds.toArray ++ (List.replicate m (Value.int .u8 0)).toArray ++ Builtin.zeroCells (Value.int .u8 0).cells (grownCap w (n + m) cap 5 - (n + m))) 5)) := by
  have hzc : Builtin.zeroCells (Value.int .u8 0).cells m = (List.replicate m (Value.int .u8 0)).toArray := by
    apply Array.ext'
    rw [zeroCells_u8]
  have hw : IntKind.i64.wrap (m : Int) = (m : Int) := by rw [IntKind.wrap_i64]; omega
  have hneg : ¬ ((m : Int) < 0) := by omega
  have h48 : ¬ (281474976710656 < (m : Int)) := by omega
  have hne : ¬ (m = 0) := by omega
  have hnr : ¬ (n + m ≤ cap) := by omega
  have h63 : ¬ (9223372036854775807 < ((n : Int) + (m : Int))) := by omega
  have hfit : Builtin.nextslicecap (n + m) cap * 1 ≤ 281474976710656 := growslice_fits (need := n + m) (old := cap) (bytes := 1) (by omega) (by omega)
  have h49 : ¬ (281474976710656 < Builtin.nextslicecap (n + m) cap) := by omega
  have hfo := run_firstCells_some (P := Try.prog) w.drew 1 n ⟨g, 0, none⟩ n cap olds (by omega) (by simpa using holds)
  simp [Builtin.append_, run_underlying Try.underlying23, run_underlying Try.underlying3, sizeOf, typeInfo, zeroValue, hi, hz, hs, hb, asInt, asIntOf, hw, hneg, h48, hne, hnr, h63, h49, Question.forced, hfo, hzc, newRow, grownCap]
  try (congr 2; apply Array.ext'; simp [List.append_assoc])
end

theorem wpList_appZ {w : World} {ops : Array Oper} {rest : List Oper} {o : Oper} {a : Act} {Q : Exit → Act → World → Prop} (hgd : o.guard = none) (s x : Operand)
    (ho : o.op = .call { callee := .builtin .append, args := #[s, x], argTypes := #[23, 3] })
    (B : Nat) (sv : Value) (bs : List Nat) (hs : a.eval s = sv) (hown : Own B w sv bs) (h0 : 0 < bs.length) (m : Nat) (hx : a.eval x = .int .i64 (m : Int)) (hm : 0 < m) (hm2 : m ≤ 100000)
    (hB : B ≤ w.heap.size) (hlen : bs.length ≤ 1000000)
    (h : ∀ v' w', Apd B w sv (bs ++ List.replicate m 0) v' w' → wpList Try.prog ops Q rest (a.put o.dst v') w') : wpList Try.prog ops Q (o :: rest) a w := by
  obtain ⟨i0, hi, hz0, hz1, hz2⟩ := info_parts info_u8
  obtain ⟨hrow, hby⟩ := hown
  have hmap : (bs ++ List.replicate m 0).map u8v = bs.map u8v ++ List.replicate m (Value.int .u8 0) := by
    rw [List.map_append, List.map_replicate]; rfl
  have hlt : ∀ y ∈ bs ++ List.replicate m 0, y < 256 := fun y hy => by
    rcases List.mem_append.1 hy with hy | hy
    · exact hby y hy
    · rw [List.eq_of_mem_replicate hy]; omega
  have hll : ((bs ++ List.replicate m 0).map u8v).length = (bs ++ List.replicate m 0).length * 1 := by simp
  have hlm : (bs ++ List.replicate m 0).length = bs.length + m := by simp
  rcases hrow.2 with ⟨_, e⟩ | ⟨g, cap, cur, rfl, hbg, hg, hnc, hcm, hcs, htake⟩
  · omega
  rw [Nat.mul_one] at hcs htake
  by_cases hroom : bs.length + m ≤ cap
  · refine Lib.wpList_append_run w hgd s x _ _ ho _ _ hs hx _ _ (run_append_zeros_room w o.type i0 hi hz0 hz1 hz2 g bs.length cap m cur hg hm hm2 hroom (by omega)) (h _ _ ⟨⟨⟨hll, .inr ⟨g, cap, _, ?_, hbg, setRow_heap w g cur _ 5 _ hg, ?_, hcm, ?_, ?_⟩⟩, hlt⟩, ⟨rfl, rfl, rfl, by simp, fun k _ hk => setRow_other w g k _ (fun e => hk (by simp [Value.ownBlock, e]))⟩, .inl rfl, ?_⟩)
    · rw [hlm]
    · rw [hlm]; exact hroom
    · simp only [List.size_toArray, List.length_append, List.length_take, List.length_drop, Array.length_toList, List.length_replicate]
      omega
    · rw [hlm, hmap, ← htake, Nat.mul_one]
      have hl1 : (cur.toList.take bs.length ++ List.replicate m (Value.int .u8 0)).length = bs.length + m := by
        simp only [List.length_append, List.length_take, Array.length_toList, List.length_replicate]; omega
      rw [← hl1]
      exact List.take_left
    · exact (Below.refl B w).grown (row := some g) ⟨rfl, rfl, rfl, by simp, fun k _ hk => setRow_other w g k _ (fun e => hk (by rw [e]))⟩ hB (fun k hk => by cases hk; exact hbg)
  · have holds : ∀ j u, (bs.map u8v)[j]? = some u → w.cell? ((⟨g, 0, none⟩ : Addr).add j) = some u := hrow.cells (g := g) rfl
    have hge := grownCap_ge w (bs.length + m) cap 5
    have hcm2 := grownCap_le_maxLen w (bs.length + m) cap 5 (by unfold maxLen; omega)
    refine Lib.wpList_append_run w hgd s x _ _ ho _ _ hs hx _ _ (run_append_zeros_grow w o.type i0 hi hz0 hz1 hz2 g bs.length cap m (bs.map u8v) (by simp) holds hm hm2 hlen (by omega)) (h _ _ ⟨⟨⟨hll, .inr ⟨w.heap.size, _, _, ?_, hB, heap_alloc_new w.drew _, ?_, hcm2, ?_, ?_⟩⟩, hlt⟩, ⟨rfl, rfl, rfl, by simp, fun k hk _ => heap_alloc_old w.drew _ hk⟩, .inr rfl, ?_⟩)
    · rw [hlm]
    · rw [hlm]; exact hge
    · simp only [Array.size_append, List.size_toArray, size_zeroCells, List.length_map, List.length_replicate, Value.cells]
      simp
      omega
    · rw [hlm, hmap, Nat.mul_one]
      simp only [Array.toList_append, List.append_assoc]
      have hl1 : (bs.map u8v ++ List.replicate m (Value.int .u8 0)).length = bs.length + m := by simp
      rw [← List.append_assoc, ← hl1]
      exact List.take_left
    · exact (Below.refl B w).grown (row := none) ⟨rfl, rfl, rfl, by simp, fun k hk _ => heap_alloc_old w.drew _ hk⟩ hB (fun k hk => by cases hk)

end Go.Proofs.Ytnhklomofebfaaa
