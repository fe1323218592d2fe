/- Parts of the proof: AppZ, ParMiss. -/
import Derived.Test.YthgcjiocelcblaaGreatK00
import Derived.Lib.AppendZeros
import Derived.Test.YthgcjiocelcblaaGreatK16
import Derived.Test.YthgcjiocelcblaaGreatK17
namespace Go.Proofs.YthgcjiocelcblaaGreat
open Go.RowKit

theorem zeroCells_u8 (m : Nat) : (Builtin.zeroCells (Value.int .u8 0).cells m).toList = List.replicate m (Value.int .u8 0) := by
  apply List.ext_getElem
  · simp [Builtin.zeroCells, Value.cells]
  · intro j h1 h2
    simp [Builtin.zeroCells, Value.cells, Nat.mod_one]
section
variable (w : World)
theorem run_append_zeros_room (ty : TypeId) (i : TypeInfo) (hi : Tryz.prog.info? 5 = some i) (hz : i.zero = some (.int .u8 0)) (hs : i.size = 1) (hb : i.bytes = 1)
    (g n cap m : Nat) (cur : Array Value) (hg : w.heap[g]? = some (.cells cur 5 (0, 0))) (hm : 0 < m) (hm2 : m ≤ 100000) (hroom : n + m ≤ cap) (hfit : n + m ≤ cur.size) :
    (Builtin.append_ #[28, 3] ty #[.slice (some ⟨g, 0, none⟩) n cap, .int .i64 (m : Int)]).run Tryz.prog w =
      .ok (.slice (some ⟨g, 0, none⟩) (n + m) cap) (w.setRow g (cur.toList.take n ++ List.replicate m (Value.int .u8 0) ++ cur.toList.drop (n + m)).toArray) := by
  have hzc := zeroCells_u8 m
  have hst := run_storeCells_at Tryz.prog g n 5 (List.replicate m (Value.int .u8 0)) 0 cur w hg (by simpa using hfit) (fun u hu => by rw [List.eq_of_mem_replicate hu]; rfl)
  simp only [Nat.add_zero, List.length_replicate] at hst
  have hw : IntKind.i64.wrap (m : Int) = (m : Int) := by rw [IntKind.wrap_i64]; omega
  have hneg : ¬ ((m : Int) < 0) := by omega
  have h48 : ¬ (281474976710656 < (m : Int)) := by omega
  have hne : ¬ (m = 0) := by omega
  simp [Builtin.append_, run_underlying Tryz.underlying28, run_underlying Tryz.underlying3, sizeOf, typeInfo, zeroValue, hi, hz, hs, hb, asInt, asIntOf, hw, hneg, h48, hne, hroom, hzc, Addr.add_lit, hst]

theorem run_append_zeros_grow (ty : TypeId) (i : TypeInfo) (hi : Tryz.prog.info? 5 = some i) (hz : i.zero = some (.int .u8 0)) (hs : i.size = 1) (hb : i.bytes = 1)
    (g n cap m : Nat) (olds : List Value) (hlo : olds.length = n) (holds : ∀ j v, olds[j]? = some v → w.cell? ((⟨g, 0, none⟩ : Addr).add j) = some v) (hm : 0 < m) (hm2 : m ≤ 100000) (hn : n ≤ 1000000) (hg : cap < n + m) :
    (Builtin.append_ #[28, 3] ty #[.slice (some ⟨g, 0, none⟩) n cap, .int .i64 (m : Int)]).run Tryz.prog w =
      .ok (.slice (some ⟨w.heap.size, 0, none⟩) (n + m) (grownCap w (n + m) cap 5))
        (w.drew.alloc (.cells (olds.toArray ++ (List.replicate m (Value.int .u8 0)).toArray ++ Builtin.zeroCells (Value.int .u8 0).cells (grownCap w (n + m) cap 5 - (n + m))) 5)) := by
  have hzc : Builtin.zeroCells (Value.int .u8 0).cells m = (List.replicate m (Value.int .u8 0)).toArray := by
    apply Array.ext'
    rw [zeroCells_u8]
  have hw : IntKind.i64.wrap (m : Int) = (m : Int) := by rw [IntKind.wrap_i64]; omega
  have hneg : ¬ ((m : Int) < 0) := by omega
  have h48 : ¬ (281474976710656 < (m : Int)) := by omega
  have hne : ¬ (m = 0) := by omega
  have hnr : ¬ (n + m ≤ cap) := by omega
  have h63 : ¬ (9223372036854775807 < ((n : Int) + (m : Int))) := by omega
  have hfit : Builtin.nextslicecap (n + m) cap * 1 ≤ 281474976710656 := growslice_fits (need := n + m) (old := cap) (bytes := 1) (by omega) (by omega)
  have h49 : ¬ (281474976710656 < Builtin.nextslicecap (n + m) cap) := by omega
  have hfo := run_firstCells_some (P := Tryz.prog) w.drew 1 n ⟨g, 0, none⟩ n cap olds (by omega) (by simpa using holds)
  simp [Builtin.append_, run_underlying Tryz.underlying28, run_underlying Tryz.underlying3, sizeOf, typeInfo, zeroValue, hi, hz, hs, hb, asInt, asIntOf, hw, hneg, h48, hne, hnr, h63, h49, Question.forced, hfo, hzc, newRow, grownCap]
  try (congr 2; apply Array.ext'; simp [List.append_assoc])
end

theorem wpList_appZ {w : World} {ops : Array Oper} {rest : List Oper} {o : Oper} {a : Act} {Q : Exit → Act → World → Prop} (hgd : o.guard = none) (s x : Operand)
    (ho : o.op = .call { callee := .builtin .append, args := #[s, x], argTypes := #[28, 3] })
    (B : Nat) (sv : Value) (bs : List Nat) (hs : a.eval s = sv) (hown : Own B w sv bs) (h0 : 0 < bs.length) (m : Nat) (hx : a.eval x = .int .i64 (m : Int)) (hm : 0 < m) (hm2 : m ≤ 100000)
    (hB : B ≤ w.heap.size) (hlen : bs.length ≤ 1000000)
    (h : ∀ v' w', Apd B w sv (bs ++ List.replicate m 0) v' w' → wpList Tryz.prog ops Q rest (a.put o.dst v') w') : wpList Tryz.prog ops Q (o :: rest) a w := by
  obtain ⟨i0, hi, hz0, hz1, hz2⟩ := info_parts info_u8
  obtain ⟨hrow, hby⟩ := hown
  have hmap : (bs ++ List.replicate m 0).map u8v = bs.map u8v ++ List.replicate m (Value.int .u8 0) := by
    rw [List.map_append, List.map_replicate]; rfl
  have hlt : ∀ y ∈ bs ++ List.replicate m 0, y < 256 := fun y hy => by
    rcases List.mem_append.1 hy with hy | hy
    · exact hby y hy
    · rw [List.eq_of_mem_replicate hy]; omega
  have hll : ((bs ++ List.replicate m 0).map u8v).length = (bs ++ List.replicate m 0).length * 1 := by simp
  have hlm : (bs ++ List.replicate m 0).length = bs.length + m := by simp
  rcases hrow.2 with ⟨_, e⟩ | ⟨g, cap, cur, rfl, hbg, hg, hnc, hcm, hcs, htake⟩
  · omega
  rw [Nat.mul_one] at hcs htake
  by_cases hroom : bs.length + m ≤ cap
  · refine Lib.wpList_append_run w hgd s x _ _ ho _ _ hs hx _ _ (run_append_zeros_room w o.type i0 hi hz0 hz1 hz2 g bs.length cap m cur hg hm hm2 hroom (by omega)) (h _ _ ⟨⟨⟨hll, .inr ⟨g, cap, _, ?_, hbg, setRow_heap w g cur _ 5 _ hg, ?_, hcm, ?_, ?_⟩⟩, hlt⟩, ⟨rfl, rfl, rfl, by simp, fun k _ hk => setRow_other w g k _ (fun e => hk (by simp [Value.ownBlock, e]))⟩, .inl rfl, ?_⟩)
    · rw [hlm]
    · rw [hlm]; exact hroom
    · simp only [List.size_toArray, List.length_append, List.length_take, List.length_drop, Array.length_toList, List.length_replicate]
      omega
    · rw [hlm, hmap, ← htake, Nat.mul_one]
      have hl1 : (cur.toList.take bs.length ++ List.replicate m (Value.int .u8 0)).length = bs.length + m := by
        simp only [List.length_append, List.length_take, Array.length_toList, List.length_replicate]; omega
      rw [← hl1]
      exact List.take_left
    · exact (Below.refl B w).grown (row := some g) ⟨rfl, rfl, rfl, by simp, fun k _ hk => setRow_other w g k _ (fun e => hk (by rw [e]))⟩ hB (fun k hk => by cases hk; exact hbg)
  · have holds : ∀ j u, (bs.map u8v)[j]? = some u → w.cell? ((⟨g, 0, none⟩ : Addr).add j) = some u := hrow.cells (g := g) rfl
    have hge := grownCap_ge w (bs.length + m) cap 5
    have hcm2 := grownCap_le_maxLen w (bs.length + m) cap 5 (by unfold maxLen; omega)
    refine Lib.wpList_append_run w hgd s x _ _ ho _ _ hs hx _ _ (run_append_zeros_grow w o.type i0 hi hz0 hz1 hz2 g bs.length cap m (bs.map u8v) (by simp) holds hm hm2 hlen (by omega)) (h _ _ ⟨⟨⟨hll, .inr ⟨w.heap.size, _, _, ?_, hB, heap_alloc_new w.drew _, ?_, hcm2, ?_, ?_⟩⟩, hlt⟩, ⟨rfl, rfl, rfl, by simp, fun k hk _ => heap_alloc_old w.drew _ hk⟩, .inr rfl, ?_⟩)
    · rw [hlm]
    · rw [hlm]; exact hge
    · simp only [Array.size_append, List.size_toArray, size_zeroCells, List.length_map, List.length_replicate, Value.cells]
      simp
      omega
    · rw [hlm, hmap, Nat.mul_one]
      simp only [Array.toList_append, List.append_assoc]
      have hl1 : (bs.map u8v ++ List.replicate m (Value.int .u8 0)).length = bs.length + m := by simp
      rw [← List.append_assoc, ← hl1]
      exact List.take_left
    · exact (Below.refl B w).grown (row := none) ⟨rfl, rfl, rfl, by simp, fun k hk _ => heap_alloc_old w.drew _ hk⟩ hB (fun k hk => by cases hk)

end Go.Proofs.YthgcjiocelcblaaGreat

namespace Go.Proofs.YthgcjiocelcblaaGreat
open Go.RowKit

/-- Bytes of the call's own are a part. -/
theorem part_own {B : Nat} {w : World} {sv : Value} {bs : List Nat} (h : Own B w sv bs) : ∃ p : PS, sv = .slice p.a p.n p.c ∧ p.l = bs ∧ p.n = bs.length ∧ PartOk w p ∧ Far B p := by
  have h' := h
  obtain ⟨a, c, rfl, hr, hm⟩ := row_of_own h
  have hf : ∀ x, a = some x → B ≤ x.block := fun x hx => (own_base h' x.block (by rw [hx]; rfl)).1
  rcases h'.1.2 with ⟨e, h0⟩ | ⟨g, cap, cur, e, _, _, hc, hm2, _⟩
  · simp only [Value.slice.injEq] at e
    obtain ⟨rfl, _, rfl⟩ := e
    exact ⟨⟨none, bs.length, 0, bs⟩, rfl, rfl, rfl, ⟨hr, by simp only; omega, Nat.zero_le _, fun _ => rfl⟩, hf⟩
  · simp only [Value.slice.injEq] at e
    obtain ⟨rfl, _, rfl⟩ := e
    exact ⟨⟨_, bs.length, c, bs⟩, rfl, rfl, rfl, ⟨hr, hc, hm2, fun h => by cases h⟩, hf⟩
/-- What record.Open says of parts. -/
theorem open_parts (x : World) (D O : PS) (hd : PartOk x D) (ho : PartOk x O) (hn : D.n ≤ 1000) : ∃ (H : RH) (b : Bool), H = openH D.l O.l ∧ b = decide (OpenOk D.l O.l) ∧
    Calls Tryz.prog 111 #[.slice D.a D.n D.c, .slice O.a O.n O.c] x fun e w' => e = .returned (.tuple #[.agg #[.int .u8 (H.ki : Int), .int .u32 (H.ep : Int), .int .u32 (H.ba : Int), .int .u16 (H.ix : Int), .int .u16 (H.ct : Int), .int .u32 (H.bl : Int), .int .u32 (H.mo : Int)], .bool b]) ∧ Below x.heap.size x w' :=
  ⟨_, _, rfl, rfl, open_any D.a D.n D.c D.l O.a O.n O.c O.l x hd.1 (by omega) ho.1 ho.2.1 ho.2.2.1⟩
/-- What stands beside a page from its 32nd byte on. -/
def PS.tail (p : PS) (b off : Nat) : PS := ⟨some ⟨b, off + 32, none⟩, 32, p.c - 32, p.l.drop 32⟩
theorem tail_ok {W : World} {p : PS} (h : PartOk W p) (hn : p.n = 64) : ∃ b off, p.a = some ⟨b, off, none⟩ ∧ PartOk W (p.tail b off) := by
  obtain ⟨⟨h1, h2, h3⟩, h4, h5, h6⟩ := h
  obtain ⟨b, off, e, hc⟩ := h3 (by omega)
  refine ⟨b, off, e, ⟨⟨?_, fun x hx => h2 x (List.mem_of_mem_drop hx), fun _ => ⟨b, off + 32, rfl, fun i hi => ?_⟩⟩, ?_, ?_, fun h => by cases h⟩⟩
  · simp only [PS.tail, List.length_drop]; omega
  · simp only [PS.tail] at hi ⊢
    rw [Nat.add_assoc, hc (32 + i) (by omega)]
    simp [List.getD]
  · simp only [PS.tail]; omega
  · simp only [PS.tail]; unfold maxLen at h5 ⊢; omega
theorem tail_at {W : World} {p : PS} (h : PartOk W p) (hn : p.n = 64) {b off : Nat} (ha : p.a = some ⟨b, off, none⟩) : PartOk W (p.tail b off) := by
  obtain ⟨b', off', e, h'⟩ := tail_ok h hn
  rw [ha] at e
  cases e
  exact h'
theorem PartOk.grown {w w' : World} {p : PS} {row : Option Nat} (h : PartOk w p) (hg : w.grownBy w' row) (hne : ∀ x, p.a = some x → some x.block ≠ row) : PartOk w' p := ⟨row_grown h.1 hg hne, h.2⟩
theorem lgL_mem {l : List (List Nat)} {x : List Nat} (h : x ∈ l) : x.length ≤ lgL l := by
  induction l with
  | nil => cases h
  | cons y t ih =>
    rw [lgL]
    rcases List.mem_cons.1 h with rfl | h
    · omega
    · have := ih h; omega
/-- What is there while a page is made anew. -/
def MS (g : PG) (T : TypeId) (a : Option Addr) (G : List PG) (w : World) (x : World) : Prop :=
  x.heap[w.heap.size]? = some (.cells #[.slice g.d.a g.d.n g.d.c, .slice g.o.a g.o.n g.o.c] T (0, 0)) ∧ x.heap[w.heap.size + 1]? = some (.cells #[.slice none 0 0, .slice none 0 0] T (0, 0)) ∧ PageOk x g ∧ PagesL x a G ∧ Below w.heap.size w x
theorem MS.step {g : PG} {T : TypeId} {a : Option Addr} {G : List PG} {w x y : World} (h : MS g T a G w x) (hb : Below x.heap.size x y) : MS g T a G w y :=
  ⟨blk_step h.1 hb, blk_step h.2.1 hb, h.2.2.1.keep hb (Nat.le_refl _), h.2.2.2.1.step hb, bel_trans h.2.2.2.2 hb⟩
theorem MS.pages {g : PG} {T : TypeId} {a : Option Addr} {G : List PG} {w x : World} (h : MS g T a G w x) : PagesL x a G := h.2.2.2.1
theorem MS.page {g : PG} {T : TypeId} {a : Option Addr} {G : List PG} {w x : World} (h : MS g T a G w x) : PageOk x g := h.2.2.1
theorem MS.bel {g : PG} {T : TypeId} {a : Option Addr} {G : List PG} {w x : World} (h : MS g T a G w x) : Below w.heap.size w x := h.2.2.2.2
theorem ms_new (g : PG) (a : Option Addr) (G : List PG) (w : World) (hg : PageOk w g) (hp : PagesL w a G) :
    MS g 137 a G w ((w.alloc (.cells #[.slice g.d.a g.d.n g.d.c, .slice g.o.a g.o.n g.o.c] 137)).alloc (.cells #[.slice none 0 0, .slice none 0 0] 137)) := by
  have h1 := heap_alloc_new w (.cells #[.slice g.d.a g.d.n g.d.c, .slice g.o.a g.o.n g.o.c] 137)
  have h2 := heap_alloc_new (w.alloc (.cells #[.slice g.d.a g.d.n g.d.c, .slice g.o.a g.o.n g.o.c] 137)) (.cells #[.slice none 0 0, .slice none 0 0] 137)
  rw [World.size_alloc] at h2
  have hb : Below w.heap.size w ((w.alloc (.cells #[.slice g.d.a g.d.n g.d.c, .slice g.o.a g.o.n g.o.c] 137)).alloc (.cells #[.slice none 0 0, .slice none 0 0] 137)) := bel_alloc (bel_alloc (Below.refl _ w) _) _
  exact ⟨blk_step h1 (bel_alloc (Below.refl _ _) _), h2, hg.keep hb (Nat.le_refl _), hp.keep hb (Nat.le_refl _), hb⟩
/-- The page's bytes that come out; those beside it. -/
def outD (g : PG) (G : List PG) : List Nat := xorL (dsOf G ++ [g.d.l])
def outO (g : PG) (G : List PG) : List Nat := xorL (hsOf G ++ [g.o.l.drop 32]) ++ List.replicate 32 0
/-- A page that is handed back. -/
def MissRet (g : PG) (G : List PG) (w : World) (e : Ending) (w' : World) : Prop :=
  ∃ D O : PS, e = .returned (.tuple #[.agg #[.slice D.a D.n D.c, .slice O.a O.n O.c], .int .i64 0]) ∧ D.l = outD g G ∧ O.l = outO g G ∧ PartOk w' D ∧ PartOk w' O ∧ Below w.heap.size w w'

set_option maxRecDepth 100000 in
set_option maxHeartbeats 3200000 in
theorem missing_yes (g : PG) (a : Option Addr) (n c : Nat) (G : List PG) (w : World) (hn : n = G.length) (hg : PageOk w g) (hp : PagesL w a G) (hm : n ≤ 1000) (hgl : g.d.n ≤ 1000 ∧ g.o.n = 64) (hl : ∀ g ∈ G, g.d.n ≤ 1000 ∧ g.o.n ≤ 1000)
    (hok : OpenOk g.d.l g.o.l) (hki : (takeH g.o.l).ki = 5) (hok2 : OpenOk (outD g G) (outO g G)) :
    Calls Tryz.prog 102 #[.agg #[.slice g.d.a g.d.n g.d.c, .slice g.o.a g.o.n g.o.c], .slice a n c] w (MissRet g G w) := by
  have HM0 := Lib.hid (ms_new g a G w hg hp)
  have HN := Lib.hid hn
  have HL := Lib.hid hl
  have HGL := Lib.hid hgl
  have HOK2 := Lib.hid hok2
  have HH : Hid (decide (OpenOk g.d.l g.o.l) = true ∧ (openH g.d.l g.o.l).ki = 5) := Lib.hid ⟨decide_eq_true hok, by unfold openH; rw [if_pos hok]; exact hki⟩
  clear hn hg hp hgl hl hok hki hok2
  go_enter Tryz.func102, Tryz.ntmps102
  go_upto_region 1 with fail
  obtain ⟨w0, hw0⟩ : ∃ x, x = (w.alloc (.cells #[.slice g.d.a g.d.n g.d.c, .slice g.o.a g.o.n g.o.c] 137)).alloc (.cells #[.slice none 0 0, .slice none 0 0] 137) := ⟨_, rfl⟩
  rw [← hw0] at HM0 ⊢
  clear hw0
  obtain ⟨H, b, hH, hb, hop⟩ := open_parts w0 g.d g.o HM0.out.page.1 HM0.out.page.2 HGL.out.1
  rw [HH.out.1] at hb
  subst hb
  have hk5 : H.ki = 5 := by rw [hH]; exact HH.out.2
  have HOP := Lib.hid hop
  clear hop hH HH
  obtain ⟨⟨p0, p1⟩, _⟩ := page_at HM0.out.1
  go_wp2_with fail
  ((with_reducible refine HOP.out.mono ?_))
  rintro e w1 ⟨rfl, hb1⟩
  have HM1 := Lib.hid (HM0.out.step hb1)
  clear hb1 HOP p0 p1
  have t5 : ((H.ki : Int) != 5) = false := by rw [hk5]; rfl
  clear hk5
  have hhd := hdr_new H w1
  go_upto_region 4 with fail
  obtain ⟨wq, hwq⟩ : ∃ x, x = w1.alloc (.cells #[.int .u8 (H.ki : Int), .int .u32 (H.ep : Int), .int .u32 (H.ba : Int), .int .u16 (H.ix : Int), .int .u16 (H.ct : Int), .int .u32 (H.bl : Int), .int .u32 (H.mo : Int)] 93) := ⟨_, rfl⟩
  have HMq : Hid (MS g 137 a G w wq) := Lib.hid (by rw [hwq]; exact HM1.out.step (bel_alloc (Below.refl _ _) _))
  rw [← hwq]
  clear hwq hhd t5 HM0 HM1
  go_wp2_with fail
  ((with_reducible refine (parts_any a n c G wq HN.out HMq.out.pages (by omega) (fun g hg => Nat.le_trans (HL.out g hg).2 (by omega))).mono ?_))
  intro e w2 hq
  obtain ⟨u, v, rfl, hu, hv, hns, hb⟩ := hq
  have HU2 := Lib.hid hu
  have HV2 := Lib.hid hv
  have HNS := Lib.hid hns
  have HB2 : Hid (Below wq.heap.size wq w2) := Lib.hid hb
  have HM2 := Lib.hid (HMq.out.step hb)
  have HVL := Lib.hid HV2.out.lt
  clear hu hv hns hb
  obtain ⟨⟨p0, p1⟩, _⟩ := page_at HM2.out.1
  have hlen1 : (G.map PG.d).length ≤ 1000000 - 1 := by rw [List.length_map, ← HN.out]; omega
  obtain ⟨L1, hL1⟩ : ∃ L1, L1 = G.map PG.d ++ [g.d] := ⟨_, rfl⟩
  have HL1 := Lib.hid hL1
  have hll1 : L1.length = n + 1 := by rw [hL1, List.length_append, List.length_map, HN.out]; rfl
  have HLL1 := Lib.hid hll1
  clear hll1
  go_wp2_with (at_builtin; refine wpList_appL rfl _ _ rfl wq.heap.size u _ rfl (HU2.out.alloc _) _ 1 1 [g.d] rfl rfl (cells_one w2 g.d) (fun h => by cases h) (Nat.le_trans HB2.out.size (by simp)) (by omega) ?_; intro u' w3 hap; rw [← hL1] at hap; have HU3 := Lib.hid hap.own; have HV3 : Hid (OwnL wq.heap.size w3 v _) := Lib.hid ((HV2.out.alloc _).kept hap.grown HNS.out.ne); have HB3 := Lib.hid ((bel_alloc HB2.out _).trans hap.below); have HW23 : Hid (w2.heap.size ≤ w3.heap.size) := Lib.hid (Nat.le_trans (by simp) hap.below.size); clear hap p0 p1; obtain ⟨ua, uc, rfl, hcu, _, _, _⟩ := cellsL_own HU3.out; have HCU := Lib.hid hcu; rw [HLL1.out]; clear hcu hL1)
  have HM3 : Hid (MS g 137 a G w w3) := Lib.hid (HMq.out.step HB3.out)
  have HPL : Hid (PartsL w3 ua L1) := Lib.hid (partsL_of HCU.out fun p hp => by
    rw [HL1.out] at hp
    rcases List.mem_append.1 hp with hp | hp
    · exact dsOk HM3.out.pages p hp
    · rw [List.mem_singleton.1 hp]; exact HM3.out.page.1)
  have HPN : Hid (∀ p ∈ L1, p.n ≤ 1000) := Lib.hid fun p hp => by
    rw [HL1.out] at hp
    rcases List.mem_append.1 hp with hp | hp
    · rw [List.mem_map] at hp
      obtain ⟨q, hq, rfl⟩ := hp
      exact (HL.out q hq).1
    · rw [List.mem_singleton.1 hp]; exact HGL.out.1
  ((with_reducible refine (xorL_any ua uc L1 (n + 1) _ HLL1.out.symm HPL.out (by omega) (fun p hp => Nat.le_trans (HPN.out p hp) (by omega))).mono ?_))
  intro e w4 hr
  obtain ⟨D, rfl, hDl, hDn, hDk, hb, hfar⟩ := part_ret' hr
  have HDL : Hid (D.l = outD g G) := Lib.hid (by rw [hDl, HL1.out, List.map_append, ds_map]; rfl)
  have HDN : Hid (D.n ≤ 1000) := Lib.hid (by rw [hDn, xorL_len]; exact lgL_parts (partsL_mem HPL.out) HPN.out)
  have HD4 := Lib.hid hDk
  have HM4 := Lib.hid (HM3.out.step hb)
  have HV4 := Lib.hid (HV3.out.below hb)
  have HB4 : Hid (Below wq.heap.size wq w4) := Lib.hid (HB3.out.trans (hb.mono HB3.out.size))
  have HDF : Hid (Far (w.heap.size + 2) D) := Lib.hid fun x hx => Nat.le_trans (by
    have := World.block_lt_of_cell? w3 _ (page_at HM3.out.2.1).1.1
    simp at this; omega) (hfar x hx)
  have HVF : Hid (∀ x, D.a = some x → some x.block ≠ v.ownBlock) := Lib.hid fun x hx e => by
    have h1 := hfar x hx
    have h2 := (HVL.out x.block e.symm).2
    have h3 := HW23.out
    omega
  clear hr hDl hDn hDk hb hfar HCU HPL HU2
  obtain ⟨ob, oo, hoa, htk⟩ := tail_ok HM4.out.page.2 HGL.out.2
  obtain ⟨⟨_, p1⟩, _⟩ := page_at HM4.out.1
  rw [hoa, HGL.out.2] at p1
  have hc64 : 64 ≤ g.o.c := by have h := HM4.out.page.2.2.1; rw [HGL.out.2] at h; exact h
  have hcmx : g.o.c ≤ maxLen := HM4.out.page.2.2.2.1
  have HOA := Lib.hid hoa
  obtain ⟨T, hT⟩ : ∃ T, T = g.o.tail ob oo := ⟨_, rfl⟩
  have HTT := Lib.hid hT
  have HTE : Hid (T.l = g.o.l.drop 32 ∧ T.n = 32 ∧ Value.slice T.a T.n T.c = .slice (some ⟨ob, oo + 32, none⟩) 32 (g.o.c - 32)) := Lib.hid (by rw [hT]; exact ⟨rfl, rfl, rfl⟩)
  rw [← hT] at htk
  have HT4 := Lib.hid htk
  clear htk hT hoa
  obtain ⟨oc, hoc⟩ : ∃ oc, oc = g.o.c := ⟨_, rfl⟩
  rw [← hoc] at p1 hc64 hcmx HTE
  unfold maxLen at hcmx
  clear hoc
  have hcn : ¬ (oc = 32) := by omega
  have hc1 : (32 : Int) ≤ (oc : Int) := by omega
  have hc2 : (64 : Int) ≤ (oc : Int) := by omega
  have hlen2 : (G.map fun g => g.o.head).length ≤ 1000000 - 1 := by rw [List.length_map, ← HN.out]; omega
  obtain ⟨L2, hL2⟩ : ∃ L2, L2 = (G.map fun g => g.o.head) ++ [T] := ⟨_, rfl⟩
  have HL2 := Lib.hid hL2
  have hll2 : L2.length = n + 1 := by rw [hL2, List.length_append, List.length_map, HN.out]; rfl
  have HLL2 := Lib.hid hll2
  have HC1 := Lib.hid (cells_one w4 T)
  rw [HTE.out.2.2] at HC1
  clear hll2
  go_wp2_with (at_builtin; refine wpList_appL rfl _ _ rfl wq.heap.size v _ rfl (HV4.out.alloc _) _ 1 1 [T] rfl rfl HC1.out (fun h => by cases h) (Nat.le_trans HB4.out.size (by simp)) (by omega) ?_; intro v' w5 hap; rw [← hL2] at hap; have HV5 := Lib.hid hap.own; have HB5 := Lib.hid ((bel_alloc HB4.out _).trans hap.below); have HD5 : Hid (PartOk w5 D) := Lib.hid ((HD4.out.step (bel_alloc (Below.refl _ w4) _)).grown hap.grown HVF.out); clear hap p1; obtain ⟨va, vc, rfl, hcv, _, _, _⟩ := cellsL_own HV5.out; have HCV := Lib.hid hcv; rw [HLL2.out]; clear hcv hL2)
  have HM5 : Hid (MS g 137 a G w w5) := Lib.hid (HMq.out.step HB5.out)
  have HPL5 : Hid (PartsL w5 va L2) := Lib.hid (partsL_of HCV.out fun p hp => by
    rw [HL2.out] at hp
    rcases List.mem_append.1 hp with hp | hp
    · exact hsOk HM5.out.pages p hp
    · rw [List.mem_singleton.1 hp, HTT.out]; exact tail_at HM5.out.page.2 HGL.out.2 HOA.out)
  have HPN5 : Hid (∀ p ∈ L2, p.n ≤ 1000) := Lib.hid fun p hp => by
    rw [HL2.out] at hp
    rcases List.mem_append.1 hp with hp | hp
    · rw [List.mem_map] at hp
      obtain ⟨q, hq, rfl⟩ := hp
      exact head_le (HL.out q hq).2
    · rw [List.mem_singleton.1 hp, HTE.out.2.1]; omega
  ((with_reducible refine (xorL_any va vc L2 (n + 1) _ HLL2.out.symm HPL5.out (by omega) (fun p hp => Nat.le_trans (HPN5.out p hp) (by omega))).mono ?_))
  intro e w6 hr
  obtain ⟨X, rfl, hox, hb⟩ := hr
  obtain ⟨xb, hxb⟩ : ∃ xb, xb = xorL (L2.map PS.l) := ⟨_, rfl⟩
  rw [← hxb] at hox
  have hxl : xb.length = lgL (L2.map PS.l) := by rw [hxb, xorL_len]
  have HXL1 : Hid (0 < xb.length ∧ xb.length ≤ 1000) := Lib.hid (by
    rw [hxl]
    refine ⟨?_, lgL_parts (partsL_mem HPL5.out) HPN5.out⟩
    have h1 : T.l ∈ L2.map PS.l := by rw [HL2.out]; simp
    have h2 := lgL_mem h1
    have h3 : T.l.length = 32 := by rw [(HT4.out.1).1, HTE.out.2.1]
    omega)
  have HXB : Hid (xb ++ List.replicate 32 0 = outO g G) := Lib.hid (by
    rw [hxb, HL2.out, List.map_append, hs_map]
    simp only [List.map_cons, List.map_nil, HTE.out.1]
    rfl)
  have HOX := Lib.hid hox
  have HB6 := Lib.hid hb
  clear hox hb hxb hxl
  have hx1 := HXL1.out.1
  have hx2 := HXL1.out.2
  go_wp2_with (at_builtin; refine wpList_appZ rfl _ _ rfl w5.heap.size _ xb rfl HOX.out hx1 32 rfl (by omega) (by omega) HB6.out.size (by omega) ?_; intro y w7 hap; rw [HXB.out] at hap; have HB7 := Lib.hid (HB6.out.trans hap.below); obtain ⟨O, rfl, hOl, hOn, hOk, hOf⟩ := part_own hap.own; have HOL := Lib.hid hOl; have HO7 := Lib.hid hOk; have HOF := Lib.hid hOf; clear hap hx1 hx2 hOl hOn hOk hOf)
  have HD7 : Hid (PartOk w7 D) := Lib.hid (HD5.out.keep HB7.out (Nat.le_refl _))
  have HM7 : Hid (MS g 137 a G w w7) := Lib.hid (HM5.out.step HB7.out)
  have hw57 : w.heap.size + 2 ≤ w5.heap.size := by
    have := World.block_lt_of_cell? w5 _ (page_at HM5.out.2.1).1.1
    simp at this; omega
  have HOF2 : Hid (Far (w.heap.size + 2) O) := Lib.hid fun x hx => Nat.le_trans hw57 (HOF.out x hx)
  obtain ⟨H2, b2, hH2, hb2, hop⟩ := open_parts w7 D O HD7.out HO7.out HDN.out
  rw [HDL.out, HOL.out, decide_eq_true HOK2.out] at hb2
  subst hb2
  ((with_reducible refine hop.mono ?_))
  rintro e w8 ⟨rfl, hb8⟩
  have HM8 := Lib.hid ((HM7.out.step hb8).step (bel_alloc (Below.refl _ w8) (.cells #[.int .u8 (H2.ki : Int), .int .u32 (H2.ep : Int), .int .u32 (H2.ba : Int), .int .u16 (H2.ix : Int), .int .u16 (H2.ct : Int), .int .u32 (H2.bl : Int), .int .u32 (H2.mo : Int)] 93)))
  have HD8 := Lib.hid ((HD7.out.step hb8).step (bel_alloc (Below.refl _ w8) (.cells #[.int .u8 (H2.ki : Int), .int .u32 (H2.ep : Int), .int .u32 (H2.ba : Int), .int .u16 (H2.ix : Int), .int .u16 (H2.ct : Int), .int .u32 (H2.bl : Int), .int .u32 (H2.mo : Int)] 93)))
  have HO8 := Lib.hid ((HO7.out.step hb8).step (bel_alloc (Below.refl _ w8) (.cells #[.int .u8 (H2.ki : Int), .int .u32 (H2.ep : Int), .int .u32 (H2.ba : Int), .int .u16 (H2.ix : Int), .int .u16 (H2.ct : Int), .int .u32 (H2.bl : Int), .int .u32 (H2.mo : Int)] 93)))
  clear hb8 hop hH2 hw57
  go_upto_region 8 with fail
  obtain ⟨w9, hw9⟩ : ∃ x, x = w8.alloc (.cells #[.int .u8 (H2.ki : Int), .int .u32 (H2.ep : Int), .int .u32 (H2.ba : Int), .int .u16 (H2.ix : Int), .int .u16 (H2.ct : Int), .int .u32 (H2.bl : Int), .int .u32 (H2.mo : Int)] 93) := ⟨_, rfl⟩
  rw [← hw9] at HM8 HD8 HO8 ⊢
  clear hw9
  obtain ⟨⟨p0, p1⟩, z0, z1⟩ := page_at HM8.out.2.1
  go_wp2
  refine bodyPost_ret (v := .tuple #[.agg #[.slice D.a D.n D.c, .slice O.a O.n O.c], .int .i64 0]) ?_ rfl ⟨D, O, rfl, HDL.out, HOL.out, ?_, ?_, ?_⟩
  · simp [results, Tryz.results102, go_sem, p0, p1]
  · exact (HD8.out.set HDF.out (by omega)).set HDF.out (by omega)
  · exact (HO8.out.set HOF2.out (by omega)).set HOF2.out (by omega)
  · exact (HM8.out.bel.setCell (p := ⟨w.heap.size + 1, 0, none⟩) (by simp) _).setCell (p := ⟨w.heap.size + 1, 1, none⟩) (by simp) _

end Go.Proofs.YthgcjiocelcblaaGreat
