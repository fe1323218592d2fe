/- gabionref10: New. -/
import Derived.Test.YtnhklomofebfaaaFPage
namespace Go.Proofs.Ytnhklomofebfaaa
open Go.RowKit Go.Deep

/-- Members that hold nothing. -/
def rsNew (rb pb gb n bl pg sz : Nat) : RS := ⟨rb, pb, gb, n, bl, pg, sz, fun _ => none, fun _ => 0, -1, .slice none 0 0, []⟩
def NewRet (n bl pg sz : Nat) (w : World) (e : Ending) (w' : World) : Prop :=
  ∃ rb pb gb, e = .returned (.pointer (some ⟨rb, 0, none⟩)) ∧ Ram w.heap.size (rsNew rb pb gb n bl pg sz) w' ∧ Below w.heap.size w w'
theorem ramNew_ok (n bl pg sz : Nat) (w : World) (hg : GoodG n bl pg sz) :
    Ram w.heap.size (rsNew (w.heap.size + 1 + 1 + 1) (w.heap.size + 1) (w.heap.size + 1 + 1) n bl pg sz) ((((w.alloc (.cells #[.int .i64 (n : Int), .int .i64 (bl : Int), .int .i64 (pg : Int), .int .i64 (sz : Int)] 28)).alloc (.map #[] 0)).alloc (.map #[] 0)).alloc (.cells #[.int .i64 (n : Int), .int .i64 (bl : Int), .int .i64 (pg : Int), .int .i64 (sz : Int), .map (some (w.heap.size + 1)), .map (some (w.heap.size + 1 + 1)), .int .i64 (-1), .slice none 0 0] 53)) ∧ Below w.heap.size w ((((w.alloc (.cells #[.int .i64 (n : Int), .int .i64 (bl : Int), .int .i64 (pg : Int), .int .i64 (sz : Int)] 28)).alloc (.map #[] 0)).alloc (.map #[] 0)).alloc (.cells #[.int .i64 (n : Int), .int .i64 (bl : Int), .int .i64 (pg : Int), .int .i64 (sz : Int), .map (some (w.heap.size + 1)), .map (some (w.heap.size + 1 + 1)), .int .i64 (-1), .slice none 0 0] 53)) := by
  obtain ⟨w1, h1⟩ : ∃ x, x = w.alloc (.cells #[.int .i64 (n : Int), .int .i64 (bl : Int), .int .i64 (pg : Int), .int .i64 (sz : Int)] 28) := ⟨_, rfl⟩
  have s1 : w1.heap.size = w.heap.size + 1 := by rw [h1]; simp
  have b1 : Below w.heap.size w w1 := by rw [h1]; exact bel_alloc (Below.refl _ w) _
  rw [← h1]
  obtain ⟨w2, h2⟩ : ∃ x, x = w1.alloc (.map #[] 0) := ⟨_, rfl⟩
  have s2 : w2.heap.size = w.heap.size + 1 + 1 := by rw [h2]; simp [s1]
  have m2 : MapF ok3 kv3 (w.heap.size + 1) (fun _ => none) w2 := by rw [h2, ← s1]; exact mapF_new w1
  have b2 : Below w.heap.size w w2 := by rw [h2]; exact bel_alloc b1 _
  rw [← h2]
  obtain ⟨w3, h3⟩ : ∃ x, x = w2.alloc (.map #[] 0) := ⟨_, rfl⟩
  have s3 : w3.heap.size = w.heap.size + 1 + 1 + 1 := by rw [h3]; simp [s2]
  have m3 : MapF ok1 kv1 (w.heap.size + 1 + 1) (fun _ => none) w3 := by rw [h3, ← s2]; exact mapF_new w2
  have n3 : w3.heap[w.heap.size + 1]? = w2.heap[w.heap.size + 1]? := by rw [h3]; exact heap_alloc_old' (show w.heap.size + 1 < w2.heap.size by omega) _
  have b3 : Below w.heap.size w w3 := by rw [h3]; exact bel_alloc b2 _
  rw [← h3]
  obtain ⟨w4, h4⟩ : ∃ x, x = w3.alloc (.cells #[.int .i64 (n : Int), .int .i64 (bl : Int), .int .i64 (pg : Int), .int .i64 (sz : Int), .map (some (w.heap.size + 1)), .map (some (w.heap.size + 1 + 1)), .int .i64 (-1), .slice none 0 0] 53) := ⟨_, rfl⟩
  have x4 := heap_alloc_new w3 (.cells #[.int .i64 (n : Int), .int .i64 (bl : Int), .int .i64 (pg : Int), .int .i64 (sz : Int), .map (some (w.heap.size + 1)), .map (some (w.heap.size + 1 + 1)), .int .i64 (-1), .slice none 0 0] 53)
  rw [← h4, s3] at x4
  have n4 : w4.heap[w.heap.size + 1]? = w3.heap[w.heap.size + 1]? := by rw [h4]; exact heap_alloc_old' (show w.heap.size + 1 < w3.heap.size by omega) _
  have n5 : w4.heap[w.heap.size + 1 + 1]? = w3.heap[w.heap.size + 1 + 1]? := by rw [h4]; exact heap_alloc_old' (show w.heap.size + 1 + 1 < w3.heap.size by omega) _
  have b4 : Below w.heap.size w w4 := by rw [h4]; exact bel_alloc b3 _
  rw [← h4]
  clear h1 h2 h3 h4
  have e1 : (rsNew (w.heap.size + 1 + 1 + 1) (w.heap.size + 1) (w.heap.size + 1 + 1) n bl pg sz).pageV = fun _ => none := rfl
  have e2 : (rsNew (w.heap.size + 1 + 1 + 1) (w.heap.size + 1) (w.heap.size + 1 + 1) n bl pg sz).goneV = fun _ => none := by funext m; rfl
  refine ⟨⟨x4, ⟨by show _ ≤ w.heap.size + 1 + 1 + 1; omega, by show _ ≤ w.heap.size + 1; omega, by show _ ≤ w.heap.size + 1 + 1; omega⟩, ?_, ?_, fun k p hk hF => (by cases hF), ⟨rfl, .inl ⟨rfl, rfl⟩⟩, ⟨by show w.heap.size + 1 + 1 + 1 ≠ w.heap.size + 1; omega, by show w.heap.size + 1 + 1 + 1 ≠ w.heap.size + 1 + 1; omega, by show w.heap.size + 1 ≠ w.heap.size + 1 + 1; omega, (by intro h; cases h), (by intro h; cases h), (by intro h; cases h)⟩, hg⟩, b4⟩
  · rw [e1]; exact (m2.same n3).same n4
  · rw [e2]; exact m3.same n5
set_option maxRecDepth 100000 in
theorem ramNew_any (n bl pg sz : Nat) (w : World) (hg : GoodG n bl pg sz) :
    Calls Try.prog 6 #[.agg #[.int .i64 (n : Int), .int .i64 (bl : Int), .int .i64 (pg : Int), .int .i64 (sz : Int)]] w (NewRet n bl pg sz w) := by
  have HG := Lib.hid hg
  clear hg
  have hm1 : ∀ w, (Instr.makeMap 49 none).run Try.prog w = .ok (.map (some w.heap.size)) (w.alloc (.map #[] 0)) := fun w => by simp [Instr.makeMap]
  have hm2 : ∀ w, (Instr.makeMap 50 none).run Try.prog w = .ok (.map (some w.heap.size)) (w.alloc (.map #[] 0)) := fun w => by simp [Instr.makeMap]
  go_enter Try.func6, Try.ntmps6
  go_wp2
  refine bodyPost_ret (v := .pointer (some ⟨w.heap.size + 1 + 1 + 1, 0, none⟩)) (by simp [results, Try.results6, go_sem]) rfl ?_
  exact ⟨_, _, _, rfl, (ramNew_ok n bl pg sz w HG.out).1, (ramNew_ok n bl pg sz w HG.out).2⟩
end Go.Proofs.Ytnhklomofebfaaa
