/- member.take: the set that bytes are, where they don't run out. -/
import Derived.Test.YtdljihemnfpkaaaMemPage
import Derived.Test.YtdljihemnfpkaaaReadRel
import Derived.Test.YtdljihemnfpkaaaEnds
import Derived.Deep.AppendLies
import Derived.Deep.RegionLaw
namespace Go.Proofs.Ytdljihemnfpkaaa
open Go.RowKit Go.Deep

/-- A store into a block that holds no byte leaves the reader. -/
theorem rd_no8 {wr : World} {pr pg c b j : Nat} {a : Option Addr} {bs : List Nat} (h : RD wr pr pg a c bs) (hb : b ≠ pr) (hno : ∀ o (q : Nat), wr.cell? ⟨b, o, none⟩ ≠ some (.int .u8 (q : Int))) (v : Value) : RD (wr.setCell ⟨b, j, none⟩ v) pr pg a c bs := by
  have hk : ∀ k, k ≠ b → (wr.setCell ⟨b, j, none⟩ v).heap[k]? = wr.heap[k]? := fun k hk => Below.heap_setCell _ _ _ _ hk
  obtain ⟨r1, r2, r3, r4, r5, r6⟩ := h
  refine ⟨by rw [hk pr (fun e => hb e.symm)]; exact r1, ⟨r2.1, r2.2.1, fun h0 => ?_⟩, r3, r4, r5, r6⟩
  obtain ⟨b', o, e, hcs⟩ := r2.2.2 h0
  have hne : b' ≠ b := fun e2 => by
    have h1 := hcs 0 h0
    rw [e2] at h1
    exact hno _ _ h1
  refine ⟨b', o, e, fun i hi => ?_⟩
  rw [World.cell?_of_block (w := wr) (a := ⟨b', o + i, none⟩) (hk b' hne)]
  exact hcs i hi
structure TkI (w W : World) (p pr pg : Nat) (S G : Array Value) (k : Bool) (wr : World) (bs : List Nat) : Prop where
  rd : ∃ a c, RD wr pr pg a c bs
  sc : wr.heap[p]? = some (.cells S 31 (0, 0))
  gc : wr.heap[p + 1]? = some (.cells G 27 (0, 0))
  kc : wr.heap[p + 2]? = some (.cells #[.bool k] 4 (0, 0))
  inner : Inner w.heap.size W pr wr
  bel : Below p w wr
section
variable {w W : World} {p pr pg : Nat} {S G : Array Value} {k : Bool} {wr : World} {bs : List Nat}
theorem TkI.num {rc s : Nat} {v : Value} {e : Ending} {w' : World} (hI : TkI w W p pr pg S G k wr bs) (hp : p + 2 < pr) (hr : NumRet wr pr pg rc bs s v e w') : e = .returned v ∧ TkI w W p pr pg S G k w' (bs.drop s) ∧ w'.heap.size = wr.heap.size ∧ (∀ j, j ≠ pr → w'.heap[j]? = wr.heap[j]?) ∧ ∀ (B : Nat) (u : Value) (l : List Int), pr < B → OwnI B wr u l → OwnI B w' u l := by
  obtain ⟨a2, rfl, rfl, hrd⟩ := hr
  have hk : ∀ j, j ≠ pr → (wr.setCell ⟨pr, 0, none⟩ (.slice a2 (bs.length - s) (rc - s))).heap[j]? = wr.heap[j]? := fun j hj => Below.heap_setCell _ _ _ _ hj
  refine ⟨rfl, ⟨⟨_, _, hrd⟩, by rw [hk p (by omega)]; exact hI.sc, by rw [hk (p + 1) (by omega)]; exact hI.gc, by rw [hk (p + 2) (by omega)]; exact hI.kc, ⟨by simpa [World.setCell] using hI.inner.1, fun j k1 k2 k3 => by rw [hk j k3]; exact hI.inner.2 j k1 k2 k3⟩, hI.bel.setCell (p := ⟨pr, 0, none⟩) (by show p ≤ pr; omega) _⟩, by simp [World.setCell], hk, fun B u l hB ho => ownsRow_setCell_below (a := ⟨pr, 0, none⟩) ho hB _⟩
theorem ownI_slice {B : Nat} {x : World} {v : Value} {l : List Int} (h : OwnI B x v l) : ∃ a n c, v = .slice a n c := by
  rcases h.2 with ⟨e, _⟩ | ⟨g, c, _, e, _⟩
  · exact ⟨_, _, _, e⟩
  · exact ⟨_, _, _, e⟩
/-- A store into one of the three. -/
theorem TkI.set_aux (hI : TkI w W p pr pg S G k wr bs) (hp : p + 2 < pr) (hw : w.heap.size = p + 3) (b j : Nat) (v : Value) (hb : p ≤ b ∧ b ≤ p + 2) (hno : ∀ o (q : Nat), wr.cell? ⟨b, o, none⟩ ≠ some (.int .u8 (q : Int))) :
    (∃ a c, RD (wr.setCell ⟨b, j, none⟩ v) pr pg a c bs) ∧ Inner w.heap.size W pr (wr.setCell ⟨b, j, none⟩ v) ∧ Below p w (wr.setCell ⟨b, j, none⟩ v) ∧ ∀ x, x ≠ b → (wr.setCell ⟨b, j, none⟩ v).heap[x]? = wr.heap[x]? := by
  have hk : ∀ x, x ≠ b → (wr.setCell ⟨b, j, none⟩ v).heap[x]? = wr.heap[x]? := fun x hx => Below.heap_setCell _ _ _ _ hx
  obtain ⟨a, c, hrd⟩ := hI.rd
  exact ⟨⟨a, c, rd_no8 hrd (by omega) hno v⟩, ⟨by simpa [World.setCell] using hI.inner.1, fun x k1 k2 k3 => by rw [hk x (by omega)]; exact hI.inner.2 x k1 k2 k3⟩, hI.bel.setCell (p := ⟨b, j, none⟩) hb.1 _, hk⟩
theorem no8_cells {x : World} {b : Nat} {cs : Array Value} {t : TypeId} (h : x.heap[b]? = some (.cells cs t (0, 0))) (hc : ∀ v ∈ cs, ∀ q : Nat, v ≠ .int .u8 (q : Int)) : ∀ o (q : Nat), x.cell? ⟨b, o, none⟩ ≠ some (.int .u8 (q : Int)) := by
  intro o q e
  simp only [World.cell?, h] at e
  exact hc _ (Array.mem_of_getElem? e) q rfl
theorem TkI.setS (hI : TkI w W p pr pg S G k wr bs) (hp : p + 2 < pr) (hw : w.heap.size = p + 3) (j : Nat) (v : Value) (S' : Array Value) (hS : S.setIfInBounds j v = S') (hc : ∀ v ∈ S, ∀ q : Nat, v ≠ .int .u8 (q : Int)) :
    TkI w W p pr pg S' G k (wr.setCell ⟨p, j, none⟩ v) bs := by
  obtain ⟨h1, h2, h3, h4⟩ := hI.set_aux hp hw p j v (by omega) (no8_cells hI.sc hc)
  have hx := heap_setCell_same wr p j S 31 v hI.sc
  rw [hS] at hx
  exact ⟨h1, hx, by rw [h4 _ (by omega)]; exact hI.gc, by rw [h4 _ (by omega)]; exact hI.kc, h2, h3⟩
theorem TkI.setG (hI : TkI w W p pr pg S G k wr bs) (hp : p + 2 < pr) (hw : w.heap.size = p + 3) (j : Nat) (v : Value) (G' : Array Value) (hG : G.setIfInBounds j v = G') (hc : ∀ v ∈ G, ∀ q : Nat, v ≠ .int .u8 (q : Int)) :
    TkI w W p pr pg S G' k (wr.setCell ⟨p + 1, j, none⟩ v) bs := by
  obtain ⟨h1, h2, h3, h4⟩ := hI.set_aux hp hw (p + 1) j v (by omega) (no8_cells hI.gc hc)
  have hx := heap_setCell_same wr (p + 1) j G 27 v hI.gc
  rw [hG] at hx
  exact ⟨h1, by rw [h4 _ (by omega)]; exact hI.sc, hx, by rw [h4 _ (by omega)]; exact hI.kc, h2, h3⟩
theorem TkI.setK (hI : TkI w W p pr pg S G k wr bs) (hp : p + 2 < pr) (hw : w.heap.size = p + 3) (z : Bool) :
    TkI w W p pr pg S G z (wr.setCell ⟨p + 2, 0, none⟩ (.bool z)) bs := by
  obtain ⟨h1, h2, h3, h4⟩ := hI.set_aux hp hw (p + 2) 0 (.bool z) (by omega) (no8_cells hI.kc (by simp))
  have hx := heap_setCell_same wr (p + 2) 0 #[.bool k] 4 (.bool z) hI.kc
  exact ⟨h1, by rw [h4 _ (by omega)]; exact hI.sc, by rw [h4 _ (by omega)]; exact hI.gc, by simpa using hx, h2, h3⟩
theorem TkI.step (hI : TkI w W p pr pg S G k wr bs) (hp : p + 2 < pr) {y : World} (hb : Below wr.heap.size wr y) : TkI w W p pr pg S G k y bs := by
  obtain ⟨a, c, hrd⟩ := hI.rd
  have hpl := (Array.getElem?_eq_some_iff.1 hrd.1).1
  have hlt : p + 2 < wr.heap.size := by omega
  exact ⟨⟨a, c, rd_below hrd hb⟩, (hb.block _ (by omega)).trans hI.sc, (hb.block _ (by omega)).trans hI.gc, (hb.block _ (by omega)).trans hI.kc, ⟨Nat.le_trans hI.inner.1 hb.size, fun j k1 k2 k3 => (hb.block _ (Nat.lt_of_lt_of_le k2 hI.inner.1)).trans (hI.inner.2 j k1 k2 k3)⟩, hI.bel.trans (hb.mono (by omega))⟩
end
/-- The reader, and that its row lies below H. -/
def RdB (H : Nat) (x : World) (pr pg : Nat) (bs : List Nat) : Prop := ∃ a c, RD x pr pg a c bs ∧ ∀ z, a = some z → z.block < H
theorem rdB_of {x : World} {pr pg c : Nat} {a : Option Addr} {bs : List Nat} (h : RD x pr pg a c bs) (h0 : 0 < bs.length) : RdB x.heap.size x pr pg bs := by
  refine ⟨a, c, h, fun z hz => ?_⟩
  obtain ⟨b, o, e, hc⟩ := h.2.1.2.2 h0
  rw [e] at hz
  cases hz
  exact World.block_lt_of_cell? x _ (hc 0 h0)
theorem rd_low {H : Nat} {x y : World} {pr pg c : Nat} {a : Option Addr} {bs : List Nat} (h : RD x pr pg a c bs) (hz : ∀ z, a = some z → z.block < H) (hp : pr < H) (hb : Below H x y) : RD y pr pg a c bs := by
  obtain ⟨r1, r2, r3, r4, r5, r6⟩ := h
  refine ⟨(hb.block pr hp).trans r1, ⟨r2.1, r2.2.1, fun h0 => ?_⟩, r3, r4, r5, r6⟩
  obtain ⟨b, o, e, hcs⟩ := r2.2.2 h0
  refine ⟨b, o, e, fun i hi => ?_⟩
  rw [World.cell?_of_block (w := x) (a := ⟨b, o + i, none⟩) (hb.block b (hz _ e))]
  exact hcs i hi
theorem TkI.low {w W x y : World} {p pr pg : Nat} {S G : Array Value} {k : Bool} {bs : List Nat} (hI : TkI w W p pr pg S G k x bs) (hp : p + 2 < pr) (hpr : pr < W.heap.size) (hr : RdB W.heap.size x pr pg bs) (hb : Below W.heap.size x y) : TkI w W p pr pg S G k y bs ∧ RdB W.heap.size y pr pg bs := by
  obtain ⟨a, c, h1, h2⟩ := hr
  have h3 := rd_low h1 h2 hpr hb
  exact ⟨⟨⟨a, c, h3⟩, (hb.block _ (by omega)).trans hI.sc, (hb.block _ (by omega)).trans hI.gc, (hb.block _ (by omega)).trans hI.kc, ⟨Nat.le_trans hI.inner.1 hb.size, fun j k1 k2 k3 => (hb.block _ k2).trans (hI.inner.2 j k1 k2 k3)⟩, hI.bel.trans (hb.mono (by omega))⟩, ⟨a, c, h3, h2⟩⟩
def sqP (bs : List Nat) : Nat := leVal (bs.take 4)
def nP (bs : List Nat) : Nat := bs.getD 4 0
def chP (bs : List Nat) : List Nat := (bs.drop 5).take (nP bs)
def atP (bs : List Nat) (j : Nat) : Nat := bs.getD (5 + nP bs + j) 0
def twoP (bs : List Nat) (j : Nat) : Nat := leVal ((bs.drop (5 + nP bs + j)).take 2)
def okP (bs : List Nat) : Bool := zeros (bs.drop (14 + nP bs))
def setA (bs : List Nat) (cv : Value) : Array Value := #[.int .u32 (sqP bs : Int), cv, .int .i64 (atP bs 0 : Int), .int .i64 (atP bs 1 : Int), .int .i64 (atP bs 2 : Int)]
def geoA (bs : List Nat) : Array Value := #[.int .i64 (nP bs : Int), .int .i64 (twoP bs 3 : Int), .int .i64 (twoP bs 5 : Int), .int .i64 (twoP bs 7 : Int)]
theorem leVal_lt2 {l : List Nat} (h : ∀ x ∈ l, x < 256) (m : Nat) : leVal ((l.drop m).take 2) < 65536 := by
  have h1 := leVal_lt ((l.drop m).take 2) (fun y hy => h y (List.mem_of_mem_drop (List.mem_of_mem_take hy)))
  have h2 : ((l.drop m).take 2).length ≤ 2 := by rw [List.length_take]; omega
  have h3 : 256 ^ ((l.drop m).take 2).length ≤ 256 ^ 2 := Nat.pow_le_pow_right (by decide) h2
  omega
set_option maxRecDepth 100000 in
set_option maxHeartbeats 4000000 in
theorem memTakeBy (w W : World) (p pr pg c : Nat) (a : Option Addr) (bs : List Nat) (hl : 14 + nP bs ≤ bs.length) (hl2 : bs.length ≤ 1000) (hp : w.heap.size = p + 3) (hr : RD W pr pg a c bs) (hb : Below w.heap.size w W) (hpr : w.heap.size + 3 ≤ pr)
    (h0 : w.heap[p]? = some (.cells #[.int .u32 0, .slice none 0 0, .int .i64 0, .int .i64 0, .int .i64 0] 31 (0, 0))) (h1 : w.heap[p + 1]? = some (.cells #[.int .i64 0, .int .i64 0, .int .i64 0, .int .i64 0] 27 (0, 0))) (h2 : w.heap[p + 2]? = some (.cells #[.bool false] 4 (0, 0))) :
    Calls Try.prog 46 #[.pointer (some ⟨pr, 0, none⟩), .pointer (some ⟨p, 0, none⟩), .pointer (some ⟨p + 1, 0, none⟩), .pointer (some ⟨p + 2, 0, none⟩)] W fun e W' => e = .returned (.tuple #[]) ∧ Inner w.heap.size W pr W' ∧ (∃ cv, W'.heap[p]? = some (.cells (setA bs cv) 31 (0, 0)) ∧ OwnI (w.heap.size + 3) W' cv (intsN (chP bs)))
      ∧ W'.heap[p + 1]? = some (.cells (geoA bs) 27 (0, 0)) ∧ W'.heap[p + 2]? = some (.cells #[.bool (okP bs)] 4 (0, 0)) ∧ Below p w W' := by
  have hpp : p + 2 < pr := by omega
  have hI0 : TkI w W p pr pg #[.int .u32 0, .slice none 0 0, .int .i64 0, .int .i64 0, .int .i64 0] #[.int .i64 0, .int .i64 0, .int .i64 0, .int .i64 0] false W bs := ⟨⟨a, c, hr⟩, (hb.block p (by omega)).trans h0, (hb.block _ (by omega)).trans h1, (hb.block _ (by omega)).trans h2, ⟨Nat.le_refl _, fun _ _ _ _ => rfl⟩, hb.mono (by omega)⟩
  have hbb : ∀ x ∈ bs, x < 256 := hr.2.1.2.1
  clear hr h0 h1 h2 hb
  have HL := Lib.hid hl
  have HBB := Lib.hid hbb
  clear hl hbb
  go_enter Try.func46, Try.ntmps46
  obtain ⟨ra0, rc0, hrd0⟩ := hI0.rd
  go_wp2_with fail
  refine (rU32_ok hrd0 (by have := HL.out; omega)).mono ?_
  intro e w1 hn0
  obtain ⟨rfl, hI1, hs1, _, _⟩ := hI0.num hpp hn0
  clear hrd0 hn0 hI0
  obtain ⟨sq, hsq⟩ : ∃ x, x = leVal (bs.take 4) := ⟨_, rfl⟩
  rw [← hsq]
  have HSQ : Hid (sq = sqP bs) := Lib.hid hsq
  clear hsq
  have c0 := (five_at hI1.sc).1
  have f0 := mfree_at hI1.sc 0
  have hI2 := hI1.setS hpp hp 0 (.int .u32 (sq : Int)) #[.int .u32 (sq : Int), .slice none 0 0, .int .i64 0, .int .i64 0, .int .i64 0] rfl (by simp)
  have hs2 : (w1.setCell ⟨p, 0, none⟩ (.int .u32 (sq : Int))).heap.size = W.heap.size := by simp [World.setCell]; exact hs1
  clear hI1 hs1
  obtain ⟨ra2, rc2, hrd2⟩ := hI2.rd
  go_wp2_with fail
  refine (rU8_ok hrd2 (by rw [List.length_drop]; have := HL.out; omega)).mono ?_
  intro e w3 hn2
  obtain ⟨rfl, hI3, hs3, _, _⟩ := hI2.num hpp hn2
  rw [hs2] at hs3
  clear hrd2 hn2 hI2 c0 f0 hs2
  obtain ⟨n, hn⟩ : ∃ x, x = (bs.drop 4).getD 0 0 := ⟨_, rfl⟩
  rw [← hn]
  have hnP : n = nP bs := by rw [hn]; simp [nP, List.getD]
  have hn256 : n < 256 := by rw [hnP]; exact getD_lt HBB.out 4
  have HNP := Lib.hid hnP
  clear hn hnP
  rw [List.drop_drop] at hI3
  have g0 := (mfour_at hI3.gc).1
  have gf := mfree_at hI3.gc 0
  have hwn : IntKind.i64.wrap (n : Int) = (n : Int) := by rw [IntKind.wrap_i64]; omega
  have hI4 := hI3.setG hpp hp 0 (.int .i64 (n : Int)) #[.int .i64 (n : Int), .int .i64 0, .int .i64 0, .int .i64 0] rfl (by simp)
  have hs4 : (w3.setCell ⟨p + 1, 0, none⟩ (.int .i64 (n : Int))).heap.size = W.heap.size := by simp [World.setCell]; exact hs3
  clear hI3 hs3
  have g1 := (mfour_at hI4.gc).1
  go_wp2_with fail
  have hB4 : RdB W.heap.size (w3.setCell ⟨p + 1, 0, none⟩ (.int .i64 (n : Int))) pr pg (bs.drop (4 + 1)) := by
    obtain ⟨a4, c4, h4⟩ := hI4.rd
    have := rdB_of h4 (by rw [List.length_drop]; have := HL.out; omega)
    rw [hs4] at this
    exact this
  have hprW : pr < W.heap.size := by
    obtain ⟨a4, c4, h4⟩ := hI4.rd
    have := (Array.getElem?_eq_some_iff.1 h4.1).1
    omega
  have HI4 := Lib.hid hI4
  have HB4 := Lib.hid hB4
  have HPW := Lib.hid hprW
  have HS4 := Lib.hid hs4
  obtain ⟨w4, hw4⟩ : ∃ x, x = w3.setCell ⟨p + 1, 0, none⟩ (.int .i64 (n : Int)) := ⟨_, rfl⟩
  rw [← hw4] at HI4 HB4 HS4 ⊢
  clear hI4 hB4 hprW hs4 hw4 g0 g1 gf hwn
  obtain ⟨i0, hi, hz0, hz1, hz2⟩ := info_parts info_int2
  go_loopw [14] (fun iv wr => ∃ (k : Nat) (v : Value), k ≤ n ∧ iv = .int .i64 (k : Int) ∧ OwnI W.heap.size wr v (intsN ((bs.drop 5).take k)) ∧ TkI w W p pr pg #[.int .u32 (sq : Int), v, .int .i64 0, .int .i64 0, .int .i64 0] #[.int .i64 (n : Int), .int .i64 0, .int .i64 0, .int .i64 0] false wr (bs.drop (5 + k)) ∧ RdB W.heap.size wr pr pg (bs.drop (5 + k))) (fun iv _ => n - (intOf iv).toNat)
  case atStart => exact ⟨0, _, Nat.zero_le _, rfl, ownI_nil _ _, HI4.out, HB4.out⟩
  case round =>
    obtain ⟨k, v, hk, rfl, hO, hI, hR⟩ := hrel
    obtain ⟨va, vn, vc, rfl⟩ := ownI_slice hO
    have HO := Lib.hid hO
    have HI := Lib.hid hI
    have HR := Lib.hid hR
    clear hO hI hR HI4 HB4 HS4
    have hd5 : (bs.drop 5).length = bs.length - 5 := List.length_drop
    by_cases hlt : k < n
    · have t1 : decide (k < n) = true := by simpa using hlt
      obtain ⟨x, hx⟩ : ∃ x, x = (bs.drop (5 + k)).getD 0 0 := ⟨_, rfl⟩
      have hx2 : x = (bs.drop 5).getD k 0 := by rw [hx]; simp [List.getD]
      have hx256 : x < 256 := by
        rw [hx2]; exact getD_lt (fun y hy => HBB.out y (List.mem_of_mem_drop hy)) k
      have htk : intsN ((bs.drop 5).take (k + 1)) = intsN ((bs.drop 5).take k) ++ [(x : Int)] := by
        rw [take_snoc_getD _ k (by rw [hd5]; have := HL.out; have := HNP.out; omega), ← hx2]; simp [intsN]
      have htl : (intsN ((bs.drop 5).take k)).length = k := by
        unfold intsN; rw [List.length_map, List.length_take, hd5]; have := HL.out; have := HNP.out; omega
      have HTK := Lib.hid htk
      have hwx : IntKind.i64.wrap (x : Int) = (x : Int) := by rw [IntKind.wrap_i64]; omega
      have z1 := (five_at HI.out.sc).2.1
      have hsz : W.heap.size ≤ wr.heap.size := HI.out.inner.1
      have HCALL : Hid (Calls Try.prog 48 #[.pointer (some ⟨pr, 0, none⟩)] wr.drew fun e w1 => e = .returned (.int .u8 (x : Int)) ∧ TkI w W p pr pg #[.int .u32 (sq : Int), .slice va vn vc, .int .i64 0, .int .i64 0, .int .i64 0] #[.int .i64 (n : Int), .int .i64 0, .int .i64 0, .int .i64 0] false w1 (bs.drop (5 + (k + 1))) ∧ RdB W.heap.size w1 pr pg (bs.drop (5 + (k + 1))) ∧ OwnI W.heap.size w1 (.slice va vn vc) (intsN ((bs.drop 5).take k))) := Lib.hid (by
        obtain ⟨a5, c5, h5, h6⟩ := HR.out
        have hId := HI.out.step hpp (y := wr.drew) (Below.refl _ _).drew
        have h5d := rd_below h5 (w' := wr.drew) (Below.refl _ _).drew
        refine (rU8_okR h5d (by rw [List.length_drop]; have := HL.out; have := HNP.out; omega)).mono ?_
        rintro e w1 ⟨a2, he, hw1, hrd, hrel2⟩
        have hnum : NumRet wr.drew pr pg c5 (bs.drop (5 + k)) 1 (.int .u8 (((bs.drop (5 + k)).getD 0 0 : Nat) : Int)) e w1 := ⟨a2, he, hw1, hrd⟩
        obtain ⟨he2, hJ, _, _, _⟩ := hId.num hpp hnum
        rw [List.drop_drop] at hJ hrd
        rw [show 5 + k + 1 = 5 + (k + 1) by omega] at hJ hrd
        refine ⟨by rw [he2, ← hx], hJ, ⟨a2, _, hrd, fun z hz => ?_⟩, ?_⟩
        · obtain ⟨z', hz', e'⟩ := hrel2 z hz
          rw [e']; exact h6 _ hz'
        · rw [hw1]
          exact ownsRow_setCell_below (a := ⟨pr, 0, none⟩) (ownI_below HO.out (Below.refl _ _).drew) HPW.out _)
      have HTL := Lib.hid htl
      clear hx hx2 hx256 htk
      go_upto_region 4 with fail
      go_region_law (first
        | (go_simp; go_at_call 48; ((with_reducible refine HCALL.out.mono ?_)); (intro e w1 hr; obtain ⟨rfl, hJ, hRB, hO1⟩ := hr; have HJ := Lib.hid hJ; have HRB := Lib.hid hRB; have HO1 := Lib.hid hO1; have z1 := (five_at hJ.sc).2.1; have z1a := cell_step z1 (bel_alloc (Below.refl _ w1) (.cells #[.int .i64 (x : Int)] 3)); have hs1 : W.heap.size ≤ w1.heap.size := hJ.inner.1; have hown : (w1.alloc (.cells #[.int .i64 (x : Int)] 3)).ownsRow W.heap.size 3 1 (.slice va vn vc) k (valz (intsN ((bs.drop 5).take k))) := (by have := ownI_below HO1.out (bel_alloc (Below.refl _ _) (.cells #[.int .i64 (x : Int)] 3)); unfold OwnI at this; rw [HTL.out] at this; exact this); clear hJ hRB hO1))
        | (refine step_append_lies _ (by rfl) _ _ _ (by rfl) W.heap.size 3 i0 _ 1 8 Try.underlying29 hi hz0 hz1 hz2 rfl (by decide) _ k _ (by rfl) hown ⟨w1.heap.size, 0, none⟩ 1 1 [.int .i64 (x : Int)] (by rfl) (by rfl) (World.news_of_block (cs := #[.int .i64 (x : Int)]) (t := 3) (fr := (0, 0)) (heap_alloc_new w1 _)) (by simp [Value.oneCell']) (by omega) (by unfold maxLen; omega) (by omega) (by simp; omega) (w1.heap.size + 1) (by simp) ?_; intro g2 c2 w5 hown1 hgrow hat hlt3; have hb5 : Below W.heap.size w1 w5 := (bel_alloc (Below.refl _ _) _ |>.mono hs1).trans ((Below.refl W.heap.size _).grown hgrow (by simp; omega) (fun q hq => (hown.lt q hq).1)); have h5 := HJ.out.low hpp HPW.out HRB.out hb5; have H5 := Lib.hid h5; have z1 := (five_at h5.1.sc).2.1; have zf := mfree_at h5.1.sc 1; clear h5 hgrow hat))
      all_goals
        have hpW : p < W.heap.size := by have := HPW.out; omega
        have hN : Hid (OwnI W.heap.size (w5.setCell ⟨p, 1, none⟩ (.slice (some ⟨g2, 0, none⟩) (k + 1) c2)) (.slice (some ⟨g2, 0, none⟩) (k + 1) c2) (intsN ((bs.drop 5).take (k + 1))) ∧ TkI w W p pr pg #[.int .u32 (sq : Int), .slice (some ⟨g2, 0, none⟩) (k + 1) c2, .int .i64 0, .int .i64 0, .int .i64 0] #[.int .i64 (n : Int), .int .i64 0, .int .i64 0, .int .i64 0] false (w5.setCell ⟨p, 1, none⟩ (.slice (some ⟨g2, 0, none⟩) (k + 1) c2)) (bs.drop (5 + (k + 1))) ∧ RdB W.heap.size (w5.setCell ⟨p, 1, none⟩ (.slice (some ⟨g2, 0, none⟩) (k + 1) c2)) pr pg (bs.drop (5 + (k + 1)))) := Lib.hid ⟨by
          unfold OwnI
          rw [HTK.out, List.length_append, HTL.out, show valz (intsN ((bs.drop 5).take k) ++ [(x : Int)]) = valz (intsN ((bs.drop 5).take k)) ++ [.int .i64 (x : Int)] by simp [valz]]
          exact ownsRow_setCell_below (a := ⟨p, 1, none⟩) hown1 hpW _, H5.out.1.setS hpp hp 1 _ _ rfl (by simp), by
          obtain ⟨a6, c6, q1, q2⟩ := H5.out.2
          exact ⟨a6, c6, rd_no8 q1 (by omega) (no8_cells H5.out.1.sc (by simp)) _, q2⟩⟩
        clear hown hown1 hlt3 hb5 z1 z1a zf hi hz0 hz1 hz2
        go_wp2_with fail
        go_roundw
        case rel => exact ⟨k + 1, _, by omega, by go_num, hN.out.1, hN.out.2.1, hN.out.2.2⟩
        case measure => simp [intOf]; omega
    · obtain rfl : k = n := by omega
      have t1 : decide (k < k) = false := by simp
      clear hi hz0 hz1 hz2 HR
      have hlen : bs.length = (bs.length - 14 - k) + 14 + k := by have := HL.out; have := HNP.out; omega
      have HLN := Lib.hid hlen
      clear hlen hd5
      obtain ⟨ra6, rc6, hrd6⟩ := (HI.out).rd
      go_wp2_with fail
      refine (rU8_ok hrd6 (by rw [List.length_drop]; have := HLN.out; omega)).mono ?_
      intro e w6 hn6
      obtain ⟨rfl, hI6, _, _, hown6⟩ := (HI.out).num hpp hn6
      have HO6 := Lib.hid (hown6 _ _ _ HPW.out HO.out)
      rw [List.drop_drop] at hI6
      obtain ⟨x0, hx0⟩ : ∃ x, x = (bs.drop (5 + k)).getD 0 0 := ⟨_, rfl⟩
      rw [← hx0]
      have HI6 := Lib.hid hI6
      have Hx0 := Lib.hid hx0
      have hlx0 : x0 < 256 := by rw [hx0]; exact getD_lt (fun y hy => HBB.out y (List.mem_of_mem_drop hy)) 0
      have qx0 : IntKind.i64.wrap (x0 : Int) = (x0 : Int) := by rw [IntKind.wrap_i64]; omega
      clear hrd6 hn6 hI6 hown6 hx0 hlx0
      obtain ⟨ra7, rc7, hrd7⟩ := (HI6.out).rd
      go_wp2_with fail
      refine (rU8_ok hrd7 (by rw [List.length_drop]; have := HLN.out; omega)).mono ?_
      intro e w7 hn7
      obtain ⟨rfl, hI7, _, _, hown7⟩ := (HI6.out).num hpp hn7
      have HO7 := Lib.hid (hown7 _ _ _ HPW.out HO6.out)
      rw [List.drop_drop] at hI7
      obtain ⟨x1, hx1⟩ : ∃ x, x = (bs.drop (5 + k + 1)).getD 0 0 := ⟨_, rfl⟩
      rw [← hx1]
      have HI7 := Lib.hid hI7
      have Hx1 := Lib.hid hx1
      have hlx1 : x1 < 256 := by rw [hx1]; exact getD_lt (fun y hy => HBB.out y (List.mem_of_mem_drop hy)) 0
      have qx1 : IntKind.i64.wrap (x1 : Int) = (x1 : Int) := by rw [IntKind.wrap_i64]; omega
      clear hrd7 hn7 hI7 hown7 hx1 hlx1
      obtain ⟨ra8, rc8, hrd8⟩ := (HI7.out).rd
      go_wp2_with fail
      refine (rU8_ok hrd8 (by rw [List.length_drop]; have := HLN.out; omega)).mono ?_
      intro e w8 hn8
      obtain ⟨rfl, hI8, _, _, hown8⟩ := (HI7.out).num hpp hn8
      have HO8 := Lib.hid (hown8 _ _ _ HPW.out HO7.out)
      rw [List.drop_drop] at hI8
      obtain ⟨x2, hx2⟩ : ∃ x, x = (bs.drop (5 + k + 1 + 1)).getD 0 0 := ⟨_, rfl⟩
      rw [← hx2]
      have HI8 := Lib.hid hI8
      have Hx2 := Lib.hid hx2
      have hlx2 : x2 < 256 := by rw [hx2]; exact getD_lt (fun y hy => HBB.out y (List.mem_of_mem_drop hy)) 0
      have qx2 : IntKind.i64.wrap (x2 : Int) = (x2 : Int) := by rw [IntKind.wrap_i64]; omega
      clear hrd8 hn8 hI8 hown8 hx2 hlx2
      have c9 := (five_at (HI8.out).sc).2.2.1
      have f9 := mfree_at (HI8.out).sc 2
      have HI9 := Lib.hid ((HI8.out).setS hpp hp 2 (.int .i64 (x0 : Int)) #[.int .u32 (sq : Int), .slice va vn vc, .int .i64 (x0 : Int), .int .i64 0, .int .i64 0] rfl (by simp))
      have HO9 := Lib.hid (ownsRow_setCell_below (a := ⟨p, 2, none⟩) HO8.out (by show p < _; have := HPW.out; omega) (.int .i64 (x0 : Int)))
      have c10 := (five_at (HI9.out).sc).2.2.2.1
      have f10 := mfree_at (HI9.out).sc 3
      have HI10 := Lib.hid ((HI9.out).setS hpp hp 3 (.int .i64 (x1 : Int)) #[.int .u32 (sq : Int), .slice va vn vc, .int .i64 (x0 : Int), .int .i64 (x1 : Int), .int .i64 0] rfl (by simp))
      have HO10 := Lib.hid (ownsRow_setCell_below (a := ⟨p, 3, none⟩) HO9.out (by show p < _; have := HPW.out; omega) (.int .i64 (x1 : Int)))
      have c11 := (five_at (HI10.out).sc).2.2.2.2
      have f11 := mfree_at (HI10.out).sc 4
      have HI11 := Lib.hid ((HI10.out).setS hpp hp 4 (.int .i64 (x2 : Int)) #[.int .u32 (sq : Int), .slice va vn vc, .int .i64 (x0 : Int), .int .i64 (x1 : Int), .int .i64 (x2 : Int)] rfl (by simp))
      have HO11 := Lib.hid (ownsRow_setCell_below (a := ⟨p, 4, none⟩) HO10.out (by show p < _; have := HPW.out; omega) (.int .i64 (x2 : Int)))
      obtain ⟨ra12, rc12, hrd12⟩ := (HI11.out).rd
      go_wp2_with fail
      refine (rU16_ok hrd12 (by rw [List.length_drop]; have := HLN.out; omega)).mono ?_
      intro e w12 hn12
      obtain ⟨rfl, hI12, _, _, hown12⟩ := (HI11.out).num hpp hn12
      have HO12 := Lib.hid (hown12 _ _ _ HPW.out HO11.out)
      rw [List.drop_drop] at hI12
      obtain ⟨y0, hy0⟩ : ∃ x, x = leVal ((bs.drop (5 + k + 1 + 1 + 1)).take 2) := ⟨_, rfl⟩
      rw [← hy0]
      have HI12 := Lib.hid hI12
      have Hy0 := Lib.hid hy0
      have hly0 : y0 < 65536 := by rw [hy0]; exact leVal_lt2 HBB.out _
      have qy0 : IntKind.i64.wrap (y0 : Int) = (y0 : Int) := by rw [IntKind.wrap_i64]; omega
      clear hrd12 hn12 hI12 hown12 hy0 hly0
      obtain ⟨ra13, rc13, hrd13⟩ := (HI12.out).rd
      go_wp2_with fail
      refine (rU16_ok hrd13 (by rw [List.length_drop]; have := HLN.out; omega)).mono ?_
      intro e w13 hn13
      obtain ⟨rfl, hI13, _, _, hown13⟩ := (HI12.out).num hpp hn13
      have HO13 := Lib.hid (hown13 _ _ _ HPW.out HO12.out)
      rw [List.drop_drop] at hI13
      obtain ⟨y1, hy1⟩ : ∃ x, x = leVal ((bs.drop (5 + k + 1 + 1 + 1 + 2)).take 2) := ⟨_, rfl⟩
      rw [← hy1]
      have HI13 := Lib.hid hI13
      have Hy1 := Lib.hid hy1
      have hly1 : y1 < 65536 := by rw [hy1]; exact leVal_lt2 HBB.out _
      have qy1 : IntKind.i64.wrap (y1 : Int) = (y1 : Int) := by rw [IntKind.wrap_i64]; omega
      clear hrd13 hn13 hI13 hown13 hy1 hly1
      obtain ⟨ra14, rc14, hrd14⟩ := (HI13.out).rd
      go_wp2_with fail
      refine (rU16_ok hrd14 (by rw [List.length_drop]; have := HLN.out; omega)).mono ?_
      intro e w14 hn14
      obtain ⟨rfl, hI14, _, _, hown14⟩ := (HI13.out).num hpp hn14
      have HO14 := Lib.hid (hown14 _ _ _ HPW.out HO13.out)
      rw [List.drop_drop] at hI14
      obtain ⟨y2, hy2⟩ : ∃ x, x = leVal ((bs.drop (5 + k + 1 + 1 + 1 + 2 + 2)).take 2) := ⟨_, rfl⟩
      rw [← hy2]
      have HI14 := Lib.hid hI14
      have Hy2 := Lib.hid hy2
      have hly2 : y2 < 65536 := by rw [hy2]; exact leVal_lt2 HBB.out _
      have qy2 : IntKind.i64.wrap (y2 : Int) = (y2 : Int) := by rw [IntKind.wrap_i64]; omega
      clear hrd14 hn14 hI14 hown14 hy2 hly2
      have c15 := (mfour_at (HI14.out).gc).2.1
      have f15 := mfree_at (HI14.out).gc 1
      have HI15 := Lib.hid ((HI14.out).setG hpp hp 1 (.int .i64 (y0 : Int)) #[.int .i64 (k : Int), .int .i64 (y0 : Int), .int .i64 0, .int .i64 0] rfl (by simp))
      have HO15 := Lib.hid (ownsRow_setCell_below (a := ⟨p + 1, 1, none⟩) HO14.out (by show p + 1 < _; have := HPW.out; omega) (.int .i64 (y0 : Int)))
      have c16 := (mfour_at (HI15.out).gc).2.2.1
      have f16 := mfree_at (HI15.out).gc 2
      have HI16 := Lib.hid ((HI15.out).setG hpp hp 2 (.int .i64 (y1 : Int)) #[.int .i64 (k : Int), .int .i64 (y0 : Int), .int .i64 (y1 : Int), .int .i64 0] rfl (by simp))
      have HO16 := Lib.hid (ownsRow_setCell_below (a := ⟨p + 1, 2, none⟩) HO15.out (by show p + 1 < _; have := HPW.out; omega) (.int .i64 (y1 : Int)))
      have c17 := (mfour_at (HI16.out).gc).2.2.2
      have f17 := mfree_at (HI16.out).gc 3
      have HI17 := Lib.hid ((HI16.out).setG hpp hp 3 (.int .i64 (y2 : Int)) #[.int .i64 (k : Int), .int .i64 (y0 : Int), .int .i64 (y1 : Int), .int .i64 (y2 : Int)] rfl (by simp))
      have HO17 := Lib.hid (ownsRow_setCell_below (a := ⟨p + 1, 3, none⟩) HO16.out (by show p + 1 < _; have := HPW.out; omega) (.int .i64 (y2 : Int)))
      obtain ⟨ra18, rc18, hrd18⟩ := (HI17.out).rd
      go_wp2_with fail
      refine (rZero_any hrd18).mono ?_
      rintro e w18 ⟨rfl, hb18⟩
      have HI18 := Lib.hid ((HI17.out).step hpp hb18)
      have HO18 := Lib.hid (ownI_below HO17.out hb18)
      have ck := cell_of_heap1 HI18.out.kc
      have fk := mfree_at HI18.out.kc 0
      have HE := Lib.hid (HI18.out.setK hpp hp (zeros (bs.drop (5 + k + 1 + 1 + 1 + 2 + 2 + 2))))
      have HOE := Lib.hid (ownsRow_setCell_below (a := ⟨p + 2, 0, none⟩) HO18.out (by show p + 2 < _; have := HPW.out; omega) (.bool (zeros (bs.drop (5 + k + 1 + 1 + 1 + 2 + 2 + 2)))))
      clear hrd18 hb18
      go_wp2
      go_end0
      have hws : w.heap.size + 3 ≤ W.heap.size := by have := HPW.out; omega
      have e0 : k = nP bs := HNP.out
      have eS : #[.int .u32 (sq : Int), .slice va vn vc, .int .i64 (x0 : Int), .int .i64 (x1 : Int), .int .i64 (x2 : Int)] = setA bs (.slice va vn vc) := by
        unfold setA atP; rw [HSQ.out, Hx0.out, Hx1.out, Hx2.out, ← e0]; simp [List.getD, Nat.add_assoc]
      have eG : #[.int .i64 (k : Int), .int .i64 (y0 : Int), .int .i64 (y1 : Int), .int .i64 (y2 : Int)] = geoA bs := by
        unfold geoA twoP; rw [Hy0.out, Hy1.out, Hy2.out, ← e0]
      have eK : zeros (bs.drop (5 + k + 1 + 1 + 1 + 2 + 2 + 2)) = okP bs := by
        unfold okP; rw [← e0, show 5 + k + 1 + 1 + 1 + 2 + 2 + 2 = 14 + k by omega]
      have hsc := HE.out.sc
      have hgc := HE.out.gc
      have hkc := HE.out.kc
      rw [eS] at hsc
      rw [eG] at hgc
      refine ⟨rfl, HE.out.inner, ⟨_, hsc, ?_⟩, hgc, by rw [← eK]; exact hkc, HE.out.bel⟩
      unfold chP
      rw [← e0]
      exact ownI_mono HOE.out hws
def MemTakeRet (w : World) (bs : List Nat) (e : Ending) (w' : World) : Prop :=
  ∃ cv, e = .returned (.tuple #[.agg (setA bs cv), .agg (geoA bs), .bool (okP bs)]) ∧ OwnI w.heap.size w' cv (intsN (chP bs)) ∧ Below w.heap.size w w'
set_option maxRecDepth 100000 in
set_option maxHeartbeats 2000000 in
theorem memTake_any (a : Option Addr) (len cap : Nat) (bs : List Nat) (w : World) (hr : Row w a len bs) (hn : a = none → cap = 0) (hl : 14 + nP bs ≤ bs.length) (hl2 : bs.length ≤ 1000) :
    Calls Try.prog 25 #[.slice a len cap] w (MemTakeRet w bs) := by
  have hmf : ∀ (fn : Fn) (first cap : Array Value) (w : World), (Instr.makeFunc fn first cap).run Try.prog w = .ok (.func fn first cap) w := fun _ _ _ _ => rfl
  go_enter Try.func25, Try.ntmps25
  go_wp2_with fail
  obtain ⟨wr, hwr⟩ : ∃ wr, wr = ((w.alloc (.cells #[.int .u32 0, .slice none 0 0, .int .i64 0, .int .i64 0, .int .i64 0] 31)).alloc (.cells #[.int .i64 0, .int .i64 0, .int .i64 0, .int .i64 0] 27)).alloc (.cells #[.bool false] 4) := ⟨_, rfl⟩
  have hs : wr.heap.size = w.heap.size + 3 := by rw [hwr]; simp
  have hb : Below w.heap.size w wr := by rw [hwr]; exact bel_alloc (bel_alloc (bel_alloc (Below.refl _ w) _) _) _
  have h0 : wr.heap[w.heap.size]? = some (.cells #[.int .u32 0, .slice none 0 0, .int .i64 0, .int .i64 0, .int .i64 0] 31 (0, 0)) := by
    rw [hwr, heap_alloc_oldm (by simp; omega), heap_alloc_oldm (by simp)]; exact heap_alloc_new w _
  have h1 : wr.heap[w.heap.size + 1]? = some (.cells #[.int .i64 0, .int .i64 0, .int .i64 0, .int .i64 0] 27 (0, 0)) := by
    rw [hwr, heap_alloc_oldm (by simp)]
    have := heap_alloc_new (w.alloc (.cells #[.int .u32 0, .slice none 0 0, .int .i64 0, .int .i64 0, .int .i64 0] 31)) (.cells #[.int .i64 0, .int .i64 0, .int .i64 0, .int .i64 0] 27)
    simpa using this
  have h2 : wr.heap[w.heap.size + 2]? = some (.cells #[.bool false] 4 (0, 0)) := by
    rw [hwr]
    have := heap_alloc_new ((w.alloc (.cells #[.int .u32 0, .slice none 0 0, .int .i64 0, .int .i64 0, .int .i64 0] 31)).alloc (.cells #[.int .i64 0, .int .i64 0, .int .i64 0, .int .i64 0] 27)) (.cells #[.bool false] 4)
    simpa using this
  rw [← hwr]
  have hrw := row_keep hr hb (Nat.le_refl _)
  have HS := Lib.hid hs
  have HB := Lib.hid hb
  have hll : bs.length = len := hr.1
  clear hwr hs hr hb
  have hcall : ∀ (args : Array Value) (wx : World), (callFunc 46 args).run Try.prog wx = .ok (.enter 46 args) wx := fun args wx => by simp [go_sem]
  have hby : ByOk 46 #[.pointer (some ⟨w.heap.size, 0, none⟩), .pointer (some ⟨w.heap.size + 1, 0, none⟩), .pointer (some ⟨w.heap.size + 1 + 1, 0, none⟩)] bs wr (fun W' => (∃ cv, W'.heap[w.heap.size]? = some (.cells (setA bs cv) 31 (0, 0)) ∧ OwnI (wr.heap.size + 3) W' cv (intsN (chP bs))) ∧ W'.heap[w.heap.size + 1]? = some (.cells (geoA bs) 27 (0, 0)) ∧ W'.heap[w.heap.size + 2]? = some (.cells #[.bool (okP bs)] 4 (0, 0)) ∧ Below w.heap.size wr W') := by
    intro W pr pg a' c hrd hb hpr
    exact memTakeBy wr W w.heap.size pr pg c a' bs hl hl2 HS.out hrd hb hpr h0 h1 h2
  have hrok := read_ok a len cap bs _ _ wr _ hrw hn (by omega) hcall hby
  with_reducible refine hrok.mono ?_
  rintro e w7 ⟨rfl, W2, ⟨⟨cv, hq0, hqo⟩, hq1, hq2, hqb⟩, hb57, hk57⟩
  have hb07 : Below w.heap.size w w7 := HB.out.trans ((hqb.mono (Nat.le_refl _)).trans (hb57.mono (by have := HS.out; omega)))
  have hs0 : w7.heap[w.heap.size]? = some (.cells (setA bs cv) 31 (0, 0)) := by rw [hb57.block _ (by have := HS.out; omega)]; exact hq0
  have hs1 : w7.heap[w.heap.size + 1]? = some (.cells (geoA bs) 27 (0, 0)) := by rw [hb57.block _ (by have := HS.out; omega)]; exact hq1
  have hs2 : w7.heap[w.heap.size + 1 + 1]? = some (.cells #[.bool (okP bs)] 4 (0, 0)) := by rw [hb57.block _ (by have := HS.out; omega)]; exact hq2
  have hO : OwnI (w.heap.size + 3) w7 cv (intsN (chP bs)) := by
    refine ⟨hqo.1, ?_⟩
    rcases hqo.2 with q | ⟨g, cp, cur, e1, e2, e3, e4⟩
    · exact .inl q
    · exact .inr ⟨g, cp, cur, e1, by have := HS.out; omega, (hk57 g e2 (Array.getElem?_eq_some_iff.1 e3).1).trans e3, e4⟩
  have HO := Lib.hid hO
  have HB7 := Lib.hid hb07
  obtain ⟨va, vn, vc, rfl⟩ := ownI_slice hO
  clear hrok hby hcall hq0 hqo hq1 hq2 hqb hb57 hk57 h0 h1 h2 hrw hO hb07
  obtain ⟨p, hp⟩ : ∃ p, p = w.heap.size := ⟨_, rfl⟩
  rw [← hp] at hs0 hs1 hs2 HO HB7 ⊢
  have HPP := Lib.hid hp
  clear hp
  unfold setA at hs0
  unfold geoA at hs1
  obtain ⟨c0, c1, c2, c3, c4⟩ := five_at hs0
  obtain ⟨d0, d1, d2, d3⟩ := mfour_at hs1
  have k0 := cell_of_heap1 hs2
  have fs := mfree_at hs0
  have fg := mfree_at hs1
  have fk := mfree_at hs2 0
  have f0 := fs 0
  have f1 := fs 1
  have f2 := fs 2
  have f3 := fs 3
  have f4 := fs 4
  have g0 := fg 0
  have g1 := fg 1
  have g2 := fg 2
  have g3 := fg 3
  clear fs fg
  obtain ⟨x0, hx0⟩ : ∃ x, x = sqP bs := ⟨_, rfl⟩
  rw [← hx0] at c0 hs0
  have Ex0 := Lib.hid hx0
  obtain ⟨x1, hx1⟩ : ∃ x, x = atP bs 0 := ⟨_, rfl⟩
  rw [← hx1] at c2 hs0
  have Ex1 := Lib.hid hx1
  obtain ⟨x2, hx2⟩ : ∃ x, x = atP bs 1 := ⟨_, rfl⟩
  rw [← hx2] at c3 hs0
  have Ex2 := Lib.hid hx2
  obtain ⟨x3, hx3⟩ : ∃ x, x = atP bs 2 := ⟨_, rfl⟩
  rw [← hx3] at c4 hs0
  have Ex3 := Lib.hid hx3
  obtain ⟨y0, hy0⟩ : ∃ x, x = nP bs := ⟨_, rfl⟩
  rw [← hy0] at d0 hs1
  have Ey0 := Lib.hid hy0
  obtain ⟨y1, hy1⟩ : ∃ x, x = twoP bs 3 := ⟨_, rfl⟩
  rw [← hy1] at d1 hs1
  have Ey1 := Lib.hid hy1
  obtain ⟨y2, hy2⟩ : ∃ x, x = twoP bs 5 := ⟨_, rfl⟩
  rw [← hy2] at d2 hs1
  have Ey2 := Lib.hid hy2
  obtain ⟨y3, hy3⟩ : ∃ x, x = twoP bs 7 := ⟨_, rfl⟩
  rw [← hy3] at d3 hs1
  have Ey3 := Lib.hid hy3
  obtain ⟨z, hz⟩ : ∃ x, x = okP bs := ⟨_, rfl⟩
  rw [← hz] at k0 hs2
  have Ez := Lib.hid hz
  clear hx0 hx1 hx2 hx3 hy0 hy1 hy2 hy3 hz hs0 hs1 hs2 hn hl hl2 hmf
  go_upto_region 2 with fail
  cases z with
  | true =>
    go_region
    go_wp2_with fail
    refine bodyPost_ret (v := .tuple #[.agg #[.int .u32 (x0 : Int), .slice va vn vc, .int .i64 (x1 : Int), .int .i64 (x2 : Int), .int .i64 (x3 : Int)], .agg #[.int .i64 (y0 : Int), .int .i64 (y1 : Int), .int .i64 (y2 : Int), .int .i64 (y3 : Int)], .bool (okP bs)]) ?_ rfl ⟨.slice va vn vc, ?_, ?_, ?_⟩
    · rw [← Ez.out]
      simp [results, Try.results25, go_sem, c0, c1, c2, c3, c4, d0, d1, d2, d3, k0]
    · unfold setA geoA; rw [← Ex0.out, ← Ex1.out, ← Ex2.out, ← Ex3.out, ← Ey0.out, ← Ey1.out, ← Ey2.out, ← Ey3.out]
    · rw [← HPP.out]
      exact ownI_mono (ownI_below (ownsRow_setCell_below (a := ⟨p + 1 + 1, 0, none⟩) (ownsRow_setCell_below (a := ⟨p + 1, 3, none⟩) (ownsRow_setCell_below (a := ⟨p + 1, 2, none⟩) (ownsRow_setCell_below (a := ⟨p + 1, 1, none⟩) (ownsRow_setCell_below (a := ⟨p + 1, 0, none⟩) (ownsRow_setCell_below (a := ⟨p, 4, none⟩) (ownsRow_setCell_below (a := ⟨p, 3, none⟩) (ownsRow_setCell_below (a := ⟨p, 2, none⟩) (ownsRow_setCell_below (a := ⟨p, 1, none⟩) (ownsRow_setCell_below (a := ⟨p, 0, none⟩) HO.out (by show p < p + 3; omega) (.int .u32 (x0 : Int))) (by show p < p + 3; omega) (.slice va vn vc)) (by show p < p + 3; omega) (.int .i64 (x1 : Int))) (by show p < p + 3; omega) (.int .i64 (x2 : Int))) (by show p < p + 3; omega) (.int .i64 (x3 : Int))) (by show p + 1 < p + 3; omega) (.int .i64 (y0 : Int))) (by show p + 1 < p + 3; omega) (.int .i64 (y1 : Int))) (by show p + 1 < p + 3; omega) (.int .i64 (y2 : Int))) (by show p + 1 < p + 3; omega) (.int .i64 (y3 : Int))) (by show p + 1 + 1 < p + 3; omega) (.bool true)) (Below.refl _ _).drew) (by omega)
    · rw [← HPP.out]
      exact ((Below.setCell (p := ⟨p + 1 + 1, 0, none⟩) (Below.setCell (p := ⟨p + 1, 3, none⟩) (Below.setCell (p := ⟨p + 1, 2, none⟩) (Below.setCell (p := ⟨p + 1, 1, none⟩) (Below.setCell (p := ⟨p + 1, 0, none⟩) (Below.setCell (p := ⟨p, 4, none⟩) (Below.setCell (p := ⟨p, 3, none⟩) (Below.setCell (p := ⟨p, 2, none⟩) (Below.setCell (p := ⟨p, 1, none⟩) (Below.setCell (p := ⟨p, 0, none⟩) HB7.out (by show p ≤ p; omega) _) (by show p ≤ p; omega) _) (by show p ≤ p; omega) _) (by show p ≤ p; omega) _) (by show p ≤ p; omega) _) (by show p ≤ p + 1; omega) _) (by show p ≤ p + 1; omega) _) (by show p ≤ p + 1; omega) _) (by show p ≤ p + 1; omega) _) (by show p ≤ p + 1 + 1; omega) _)).drew
  | false =>
    go_region
    go_wp2_with fail
    refine bodyPost_ret (v := .tuple #[.agg #[.int .u32 (x0 : Int), .slice va vn vc, .int .i64 (x1 : Int), .int .i64 (x2 : Int), .int .i64 (x3 : Int)], .agg #[.int .i64 (y0 : Int), .int .i64 (y1 : Int), .int .i64 (y2 : Int), .int .i64 (y3 : Int)], .bool (okP bs)]) ?_ rfl ⟨.slice va vn vc, ?_, ?_, ?_⟩
    · rw [← Ez.out]
      simp [results, Try.results25, go_sem, c0, c1, c2, c3, c4, d0, d1, d2, d3, k0]
    · unfold setA geoA; rw [← Ex0.out, ← Ex1.out, ← Ex2.out, ← Ex3.out, ← Ey0.out, ← Ey1.out, ← Ey2.out, ← Ey3.out]
    · rw [← HPP.out]
      exact ownI_mono (ownI_below (ownsRow_setCell_below (a := ⟨p + 1 + 1, 0, none⟩) (ownsRow_setCell_below (a := ⟨p + 1, 3, none⟩) (ownsRow_setCell_below (a := ⟨p + 1, 2, none⟩) (ownsRow_setCell_below (a := ⟨p + 1, 1, none⟩) (ownsRow_setCell_below (a := ⟨p + 1, 0, none⟩) (ownsRow_setCell_below (a := ⟨p, 4, none⟩) (ownsRow_setCell_below (a := ⟨p, 3, none⟩) (ownsRow_setCell_below (a := ⟨p, 2, none⟩) (ownsRow_setCell_below (a := ⟨p, 1, none⟩) (ownsRow_setCell_below (a := ⟨p, 0, none⟩) HO.out (by show p < p + 3; omega) (.int .u32 (x0 : Int))) (by show p < p + 3; omega) (.slice va vn vc)) (by show p < p + 3; omega) (.int .i64 (x1 : Int))) (by show p < p + 3; omega) (.int .i64 (x2 : Int))) (by show p < p + 3; omega) (.int .i64 (x3 : Int))) (by show p + 1 < p + 3; omega) (.int .i64 (y0 : Int))) (by show p + 1 < p + 3; omega) (.int .i64 (y1 : Int))) (by show p + 1 < p + 3; omega) (.int .i64 (y2 : Int))) (by show p + 1 < p + 3; omega) (.int .i64 (y3 : Int))) (by show p + 1 + 1 < p + 3; omega) (.bool false)) (Below.refl _ _).drew) (by omega)
    · rw [← HPP.out]
      exact ((Below.setCell (p := ⟨p + 1 + 1, 0, none⟩) (Below.setCell (p := ⟨p + 1, 3, none⟩) (Below.setCell (p := ⟨p + 1, 2, none⟩) (Below.setCell (p := ⟨p + 1, 1, none⟩) (Below.setCell (p := ⟨p + 1, 0, none⟩) (Below.setCell (p := ⟨p, 4, none⟩) (Below.setCell (p := ⟨p, 3, none⟩) (Below.setCell (p := ⟨p, 2, none⟩) (Below.setCell (p := ⟨p, 1, none⟩) (Below.setCell (p := ⟨p, 0, none⟩) HB7.out (by show p ≤ p; omega) _) (by show p ≤ p; omega) _) (by show p ≤ p; omega) _) (by show p ≤ p; omega) _) (by show p ≤ p; omega) _) (by show p ≤ p + 1; omega) _) (by show p ≤ p + 1; omega) _) (by show p ≤ p + 1; omega) _) (by show p ≤ p + 1; omega) _) (by show p ≤ p + 1 + 1; omega) _)).drew
end Go.Proofs.Ytdljihemnfpkaaa
