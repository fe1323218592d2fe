/- A map's entry that is made and then stored; members whose map of the dead is fresh; two die. -/
import Derived.Test.YtpmlbfpneenacaaStgKill
import Derived.WideKeyEntry
namespace Go.Proofs.Ytpmlbfpneenacaa
open Go.RowKit Go.Deep
open Go.ChangeMaps (setBlock)

theorem setBlock_two (w : World) (b : Nat) (o o' : Obj) : setBlock (setBlock w b o) b o' = setBlock w b o' := by
  simp [setBlock]
/-- An entry that isn't there is made, and stored. -/
theorem entry_new {es : Array MapEntry} {clock b : Nat} {w : World} (hb : w.heap[b]? = some (.map es clock)) (hst : MapKept.Stamped es clock) (hk : ∀ e ∈ es.toList, ∃ y, ok1 y ∧ e.key = kv1 y) {x : Nat} (hx : ok1 x) (hne : ∀ e ∈ es.toList, e.key ≠ kv1 x) (v : Value) :
    (Instr.mapEntry 64 (.map (some b)) (kv1 x)).run Try.prog w = .ok (.tuple #[.int .i64 0, .int .i64 (clock : Int)]) (setBlock w b (.map (es.push ⟨kv1 x, .int .i64 0, clock⟩) (clock + 1))) ∧
    (Instr.entryStore 64 (.map (some b)) (.int .i64 (clock : Int)) v).run Try.prog (setBlock w b (.map (es.push ⟨kv1 x, .int .i64 0, clock⟩) (clock + 1))) = .ok () (setBlock w b (.map (es.push ⟨kv1 x, v, clock⟩) (clock + 1))) := by
  obtain ⟨l, hl⟩ := keyF1.read x hx
  obtain ⟨s1, s2, _⟩ := hst
  have hf := keyF1.K.find w hl es.toList (fun e he => by obtain ⟨y, hy, hk⟩ := hk e he; obtain ⟨m, hm⟩ := keyF1.read y hy; exact ⟨m, by rw [hk]; exact hm⟩)
  have h1 : (Instr.findKey 3 (kv1 x) es.toList).run Try.prog w = .ok none w := by
    rcases hf with ⟨q1, _⟩ | ⟨j, e0, q1, q2, q3⟩
    · exact q1
    · exact absurd q3 (hne e0 (List.mem_of_getElem? q2))
  have hz := zeroI w
  have hw2 : (setBlock w b (.map (es.push ⟨kv1 x, .int .i64 0, clock⟩) (clock + 1))).heap[b]? = some (.map (es.push ⟨kv1 x, .int .i64 0, clock⟩) (clock + 1)) := ChangeMaps.heap_setBlock_same hb _
  constructor
  · simp [Instr.mapEntry, run_underlying Try.underlying64, MapKept.run_getObj_map hb, keyF1.K.check w false hl, h1, hz, MapKept.run_setObj_map _ hb, Result.andThen, setBlock, goInt]
  · have hidx : (es.push ⟨kv1 x, .int .i64 0, clock⟩).findIdx? (fun e => ((e.born : Nat) : Int) == ((clock : Nat) : Int)) = some es.size := by
      rw [WideElems.findIdx_arr]
      exact WideElems.findIdx_born (l := (es.push ⟨kv1 x, .int .i64 0, clock⟩).toList) (j := es.size) (e0 := ⟨kv1 x, .int .i64 0, clock⟩) (by
        simp only [Array.toList_push, List.map_append, List.map_cons, List.map_nil]
        refine List.nodup_append.2 ⟨s2, by simp, fun a ha c hc e1 => ?_⟩
        simp only [List.mem_singleton] at hc
        obtain ⟨y, hy, rfl⟩ := List.mem_map.1 ha
        have := s1 y hy
        omega) (by simp)
    have hmod : (es.push ⟨kv1 x, .int .i64 0, clock⟩).modify es.size (fun e => { e with val := v }) = es.push ⟨kv1 x, v, clock⟩ := by
      apply Array.ext'
      rw [Array.toList_modify, Array.toList_push, Array.toList_push, ← Array.length_toList, WideElems.modify_last]
    have key : ∀ w2 : World, w2.heap[b]? = some (.map (es.push ⟨kv1 x, .int .i64 0, clock⟩) (clock + 1)) → (Instr.entryStore 64 (.map (some b)) (.int .i64 (clock : Int)) v).run Try.prog w2 = .ok () (setBlock w2 b (.map (es.push ⟨kv1 x, v, clock⟩) (clock + 1))) := fun w2 h2 => by
      simp [Instr.entryStore, MapKept.run_getObj_map h2, asInt, asIntOf, hidx, hmod, MapKept.run_setObj_map _ h2, Result.andThen, setBlock]
    have h3 := key _ hw2
    rw [setBlock_two] at h3
    exact h3
/-- Two die that were alive, whose map is fresh. -/
theorem two_die {B : Nat} {s : RS} {w : World} (h : Ram B s w) (hz : ∀ m, s.gone m = 0) (hb : w.heap[s.gb]? = some (.map #[] 0)) (m : Nat) (hm : m + 1 ≤ 100000) :
    ∃ w1 w2 w3 w4, (Instr.mapEntry 64 (.map (some s.gb)) (.int .i64 (m : Int))).run Try.prog w = .ok (.tuple #[.int .i64 0, .int .i64 0]) w1 ∧
      (Instr.entryStore 64 (.map (some s.gb)) (.int .i64 0) (.int .i64 1)).run Try.prog w1 = .ok () w2 ∧
      (Instr.mapEntry 64 (.map (some s.gb)) (.int .i64 ((m : Int) + 1))).run Try.prog w2 = .ok (.tuple #[.int .i64 0, .int .i64 1]) w3 ∧
      (Instr.entryStore 64 (.map (some s.gb)) (.int .i64 1) (.int .i64 1)).run Try.prog w3 = .ok () w4 ∧
      (w1.cell? ⟨s.rb, 5, none⟩ = some (.map (some s.gb)) ∧ w2.cell? ⟨s.rb, 5, none⟩ = some (.map (some s.gb)) ∧ w3.cell? ⟨s.rb, 5, none⟩ = some (.map (some s.gb)) ∧ w4.cell? ⟨s.rb, 5, none⟩ = some (.map (some s.gb))) ∧
      Ram B ((s.kill m).kill (m + 1)) w4 ∧ RStep s w ((s.kill m).kill (m + 1)) w4 := by
  have c0 := h.c.2.2.2.2.2.1
  have hsep : s.rb ≠ s.gb := h.sep.2.1
  have hcell : ∀ o, (setBlock w s.gb o).cell? ⟨s.rb, 5, none⟩ = some (.map (some s.gb)) := fun o => (World.cell?_of_block (w := w) (a := ⟨s.rb, 5, none⟩) (ChangeMaps.heap_setBlock_other hb _ hsep)).trans c0
  have hk1 : ok1 m := by unfold ok1; omega
  have hk2 : ok1 (m + 1) := hm
  obtain ⟨a1, a2⟩ := entry_new hb (MapKept.stamped_empty 0) (by simp) hk1 (by simp) (.int .i64 1)
  have hb2 : (setBlock w s.gb (.map (#[].push ⟨kv1 m, .int .i64 1, 0⟩) (0 + 1))).heap[s.gb]? = some (.map (#[].push ⟨kv1 m, .int .i64 1, 0⟩) (0 + 1)) := ChangeMaps.heap_setBlock_same hb _
  have hst2 : MapKept.Stamped (#[].push (⟨kv1 m, .int .i64 1, 0⟩ : MapEntry)) (0 + 1) := MapKept.stamped_push (MapKept.stamped_empty 0) (by simp)
  have hne : kv1 m ≠ kv1 (m + 1) := fun e => by have := keyF1.inj m (m + 1) hk1 hk2 e; omega
  obtain ⟨a3, a4⟩ := entry_new hb2 hst2 (fun e he => ⟨m, hk1, by simp at he; rw [he]⟩) hk2 (fun e he => by simp at he; rw [he]; exact hne) (.int .i64 1)
  simp only [setBlock_two] at a3 a4
  have m2 : MapF ok1 kv1 s.gb (fun j => if j = m then some (.int .i64 1) else s.goneV j) (setBlock w s.gb (.map (#[].push ⟨kv1 m, .int .i64 1, 0⟩) (0 + 1))) := by
    refine ⟨_, _, hb2, fun e he => ⟨m, hk1, by simp at he; rw [he], by simp at he; rw [he]; simp⟩, fun y v _ hy => ?_, by simp⟩
    replace hy : (if y = m then some (Value.int .i64 1) else s.goneV y) = some v := hy
    by_cases e : y = m
    · subst e; simp at hy; exact ⟨⟨kv1 y, .int .i64 1, 0⟩, by simp, rfl, hy⟩
    · rw [if_neg e] at hy; unfold RS.goneV at hy; rw [if_pos (hz y)] at hy; cases hy
  have grow : ∀ (x : World) (e1 : Array MapEntry) (c1 : Nat) (o : Obj), x.heap[s.gb]? = some (.map e1 c1) → x.grownBy (setBlock x s.gb o) (some s.gb) := fun x e1 c1 o hx => ⟨rfl, rfl, rfl, by simp [setBlock], fun i _ hi => ChangeMaps.heap_setBlock_other hx _ (fun e => hi (by rw [e]))⟩
  obtain ⟨k1, k2⟩ := ram_kill h _ m m2 (grow w _ _ _ hb)
  have hb4 : (setBlock w s.gb (.map ((#[].push ⟨kv1 m, .int .i64 1, 0⟩).push ⟨kv1 (m + 1), .int .i64 1, 0 + 1⟩) (0 + 1 + 1))).heap[s.gb]? = some (.map ((#[].push ⟨kv1 m, .int .i64 1, 0⟩).push ⟨kv1 (m + 1), .int .i64 1, 0 + 1⟩) (0 + 1 + 1)) := ChangeMaps.heap_setBlock_same hb _
  have m4 : MapF ok1 kv1 s.gb (fun j => if j = m + 1 then some (.int .i64 1) else (s.kill m).goneV j) (setBlock w s.gb (.map ((#[].push ⟨kv1 m, .int .i64 1, 0⟩).push ⟨kv1 (m + 1), .int .i64 1, 0 + 1⟩) (0 + 1 + 1))) := by
    rw [kill_goneV]
    refine ⟨_, _, hb4, fun e he => ?_, fun y v _ hy => ?_, by simpa using hne⟩
    · simp at he
      rcases he with rfl | rfl
      · exact ⟨m, hk1, rfl, by simp⟩
      · exact ⟨m + 1, hk2, rfl, by simp⟩
    · replace hy : (if y = m + 1 then some (Value.int .i64 1) else if y = m then some (Value.int .i64 1) else s.goneV y) = some v := hy
      by_cases e2 : y = m + 1
      · subst e2; simp at hy; exact ⟨⟨kv1 (m + 1), .int .i64 1, 0 + 1⟩, by simp, rfl, hy⟩
      · rw [if_neg e2] at hy
        by_cases e : y = m
        · subst e; simp at hy; exact ⟨⟨kv1 y, .int .i64 1, 0⟩, by simp, rfl, hy⟩
        · rw [if_neg e] at hy; unfold RS.goneV at hy; rw [if_pos (hz y)] at hy; cases hy
  have g4 : (setBlock w s.gb (.map (#[].push ⟨kv1 m, .int .i64 1, 0⟩) (0 + 1))).grownBy (setBlock w s.gb (.map ((#[].push ⟨kv1 m, .int .i64 1, 0⟩).push ⟨kv1 (m + 1), .int .i64 1, 0 + 1⟩) (0 + 1 + 1))) (some s.gb) := by
    have := grow _ _ _ (.map ((#[].push ⟨kv1 m, .int .i64 1, 0⟩).push ⟨kv1 (m + 1), .int .i64 1, 0 + 1⟩) (0 + 1 + 1)) hb2
    rw [setBlock_two] at this
    exact this
  obtain ⟨k3, k4⟩ := ram_kill k1 _ (m + 1) m4 g4
  have e : (Instr.mapEntry 64 (.map (some s.gb)) (.int .i64 ((m : Int) + 1))) = Instr.mapEntry 64 (.map (some s.gb)) (kv1 (m + 1)) := by
    unfold kv1
    rw [show ((m + 1 : Nat) : Int) = (m : Int) + 1 by omega]
  rw [← e] at a3
  exact ⟨_, _, _, _, a1, a2, a3, a4, ⟨hcell _, hcell _, hcell _, hcell _⟩, k3, k2.trans k4⟩
theorem third_new (w : World) (o1 o2 o3 o4 : Obj) : ((((w.alloc o1).alloc o2).alloc o3).alloc o4).heap[w.heap.size + 1 + 1]? = some o3 := by
  have s2 : ((w.alloc o1).alloc o2).heap.size = w.heap.size + 1 + 1 := by simp
  have s3 : (((w.alloc o1).alloc o2).alloc o3).heap.size = w.heap.size + 1 + 1 + 1 := by simp
  rw [heap_alloc_old' (show w.heap.size + 1 + 1 < (((w.alloc o1).alloc o2).alloc o3).heap.size by omega), ← s2]
  exact (MapKept.heap_alloc _ _).1
/-- New members: their map of the dead is fresh. -/
def NewRetZ (n bl pg sz : Nat) (w : World) (e : Ending) (w' : World) : Prop :=
  ∃ rb pb gb, e = .returned (.pointer (some ⟨rb, 0, none⟩)) ∧ Ram w.heap.size (rsNew rb pb gb n bl pg sz) w' ∧ w'.heap[gb]? = some (.map #[] 0) ∧ Below w.heap.size w w'
set_option maxRecDepth 100000 in
theorem ramNewZ_any (n bl pg sz : Nat) (w : World) (hg : GoodG n bl pg sz) :
    Calls Try.prog 26 #[.agg #[.int .i64 (n : Int), .int .i64 (bl : Int), .int .i64 (pg : Int), .int .i64 (sz : Int)]] w (NewRetZ n bl pg sz w) := by
  have HG := Lib.hid hg
  clear hg
  have hm1 : ∀ w, (Instr.makeMap 63 none).run Try.prog w = .ok (.map (some w.heap.size)) (w.alloc (.map #[] 0)) := fun w => by simp [Instr.makeMap]
  have hm2 : ∀ w, (Instr.makeMap 64 none).run Try.prog w = .ok (.map (some w.heap.size)) (w.alloc (.map #[] 0)) := fun w => by simp [Instr.makeMap]
  go_enter Try.func26, Try.ntmps26
  go_wp2
  refine bodyPost_ret (v := .pointer (some ⟨w.heap.size + 1 + 1 + 1, 0, none⟩)) (by simp [results, Try.results26, go_sem]) rfl ?_
  exact ⟨_, _, _, rfl, (ramNew_ok n bl pg sz w HG.out).1, third_new w _ _ _ _, (ramNew_ok n bl pg sz w HG.out).2⟩
end Go.Proofs.Ytpmlbfpneenacaa
