/- member.Parse of a page that Page laid. -/
import Derived.Test.YtdljihemnfpkaaaMemTake
import Derived.Test.YtdljihemnfpkaaaROpen
namespace Go.Proofs.Ytdljihemnfpkaaa
open Go.RowKit Go.Deep

/-- A set's page, part by part. -/
theorem page_parts (sq : Nat) (L : List Nat) (sp de dn : Nat) : ∃ Z : List Nat, (∀ z ∈ Z, z = 0) ∧ padTo (memB sq L sp de dn 20 6 256) 256 = Crc.les 4 sq ++ (L.length :: (L ++ ([sp, de, dn, 20, 0, 6, 0, 0, 1] ++ Z))) := by
  refine ⟨List.replicate (256 - (memB sq L sp de dn 20 6 256).length) 0, fun z hz => List.eq_of_mem_replicate hz, ?_⟩
  have h1 : Crc.les 2 20 = [20, 0] := by decide
  have h2 : Crc.les 2 6 = [6, 0] := by decide
  have h3 : Crc.les 2 256 = [0, 1] := by decide
  unfold padTo
  rw [show ((256 : Int)).toNat = 256 from rfl]
  generalize hZ : List.replicate (256 - (memB sq L sp de dn 20 6 256).length) 0 = Z
  unfold memB
  simp [h1, h2, h3]
theorem les_drop (sq : Nat) (R : List Nat) : (Crc.les 4 sq ++ R).drop 4 = R := by
  rw [List.drop_append_of_le_length (by rw [Crc.les_len]; exact Nat.le_refl _), List.drop_of_length_le (by rw [Crc.les_len]; exact Nat.le_refl _), List.nil_append]
section
variable (sq : Nat) (L : List Nat) (sp de dn : Nat)
theorem page_len (hL : L.length ≤ 200) : (padTo (memB sq L sp de dn 20 6 256) 256).length = 256 := by
  have hl : (memB sq L sp de dn 20 6 256).length = 14 + L.length := by unfold memB; simp [Crc.les_len]; omega
  unfold padTo; rw [List.length_append, List.length_replicate, hl]; show 14 + L.length + (256 - (14 + L.length)) = 256; omega
theorem page_sq (hq : sq < 4294967296) : sqP (padTo (memB sq L sp de dn 20 6 256) 256) = sq := by
  obtain ⟨Z, _, h⟩ := page_parts sq L sp de dn
  unfold sqP
  rw [h, List.take_append_of_le_length (by rw [Crc.les_len]; exact Nat.le_refl _), List.take_of_length_le (by rw [Crc.les_len]; exact Nat.le_refl _), leVal_les]
  exact Nat.mod_eq_of_lt hq
theorem page_n : nP (padTo (memB sq L sp de dn 20 6 256) 256) = L.length := by
  obtain ⟨Z, _, h⟩ := page_parts sq L sp de dn
  unfold nP
  rw [h, List.getD, List.getElem?_append_right (by rw [Crc.les_len]; exact Nat.le_refl _), Crc.les_len]
  rfl
theorem page_drop (m : Nat) : ∃ Z : List Nat, (∀ z ∈ Z, z = 0) ∧ (padTo (memB sq L sp de dn 20 6 256) 256).drop (5 + L.length + m) = ([sp, de, dn, 20, 0, 6, 0, 0, 1] ++ Z).drop m := by
  obtain ⟨Z, hZ, h⟩ := page_parts sq L sp de dn
  refine ⟨Z, hZ, ?_⟩
  have e1 : ∀ l : List Nat, l.drop (5 + L.length + m) = (((l.drop 4).drop 1).drop L.length).drop m := fun l => by simp only [List.drop_drop]
  rw [h, e1, les_drop, List.drop_succ_cons, List.drop_zero, List.drop_append_of_le_length (Nat.le_refl _), List.drop_length, List.nil_append]
theorem page_ch : chP (padTo (memB sq L sp de dn 20 6 256) 256) = L := by
  obtain ⟨Z, _, h⟩ := page_parts sq L sp de dn
  unfold chP
  have e1 : ∀ l : List Nat, l.drop 5 = (l.drop 4).drop 1 := fun l => by simp only [List.drop_drop]
  rw [page_n, h, e1, les_drop, List.drop_succ_cons, List.drop_zero, List.take_append_of_le_length (Nat.le_refl _), List.take_length]
theorem getD_drop (l : List Nat) (i : Nat) : l.getD i 0 = (l.drop i).getD 0 0 := by simp [List.getD]
theorem page_at0 : atP (padTo (memB sq L sp de dn 20 6 256) 256) 0 = sp := by
  obtain ⟨Z, _, h⟩ := page_drop sq L sp de dn 0
  unfold atP; rw [page_n, getD_drop, h]; rfl
theorem page_at1 : atP (padTo (memB sq L sp de dn 20 6 256) 256) 1 = de := by
  obtain ⟨Z, _, h⟩ := page_drop sq L sp de dn 1
  unfold atP; rw [page_n, getD_drop, h]; rfl
theorem page_at2 : atP (padTo (memB sq L sp de dn 20 6 256) 256) 2 = dn := by
  obtain ⟨Z, _, h⟩ := page_drop sq L sp de dn 2
  unfold atP; rw [page_n, getD_drop, h]; rfl
theorem page_two3 : twoP (padTo (memB sq L sp de dn 20 6 256) 256) 3 = 20 := by
  obtain ⟨Z, _, h⟩ := page_drop sq L sp de dn 3
  unfold twoP; rw [page_n, h]; simp [leVal]
theorem page_two5 : twoP (padTo (memB sq L sp de dn 20 6 256) 256) 5 = 6 := by
  obtain ⟨Z, _, h⟩ := page_drop sq L sp de dn 5
  unfold twoP; rw [page_n, h]; simp [leVal]
theorem page_two7 : twoP (padTo (memB sq L sp de dn 20 6 256) 256) 7 = 256 := by
  obtain ⟨Z, _, h⟩ := page_drop sq L sp de dn 7
  unfold twoP; rw [page_n, h]; simp [leVal]
theorem page_ok : okP (padTo (memB sq L sp de dn 20 6 256) 256) = true := by
  obtain ⟨Z, hZ, h⟩ := page_drop sq L sp de dn 9
  unfold okP
  rw [page_n, show 14 + L.length = 5 + L.length + 9 by omega, h]
  show zeros Z = true
  unfold zeros
  rw [List.all_eq_true]
  intro z hz
  simp [hZ z hz]
end
def MemParseRet (w : World) (sq : Nat) (L : List Nat) (sp de dn : Nat) (e : Ending) (w' : World) : Prop :=
  ∃ cv, e = .returned (.tuple #[.agg #[.int .u32 (sq : Int), cv, .int .i64 (sp : Int), .int .i64 (de : Int), .int .i64 (dn : Int)], .int .i64 0]) ∧ OwnI w.heap.size w' cv (intsN L) ∧ Below w.heap.size w w'
set_option maxRecDepth 100000 in
set_option maxHeartbeats 2000000 in
theorem memParse_ok (sq n : Nat) (L : List Nat) (sp de dn : Nat) (a a2 : Option Addr) (cap c2 : Nat) (w : World) (hq : sq < 4294967296) (hLl : L.length = n) (hn3 : 3 ≤ n) (hn16 : n ≤ 16) (hL : ∀ x ∈ L, x < 256) (hsp : sp < 256)
    (hok : setOk n 20 (intsN L) (sp : Int) (de : Int) (dn : Int)) (hD : Row w a 256 (padTo (memB sq L sp de dn 20 6 256) 256)) (hna : a = none → cap = 0) (hO : Row w a2 64 (sealB (memH sq) (padTo (memB sq L sp de dn 20 6 256) 256) [])) (hc2 : 64 ≤ c2) (hcm : c2 ≤ maxLen) :
    Calls Try.prog 9 #[.agg #[.int .i64 (n : Int), .int .i64 20, .int .i64 6, .int .i64 256], .slice a 256 cap, .slice a2 64 c2] w (MemParseRet w sq L sp de dn) := by
  have hgood : GoodG (n : Int) 20 6 256 := by unfold GoodG; omega
  obtain ⟨D, hDe⟩ : ∃ D, D = padTo (memB sq L sp de dn 20 6 256) 256 := ⟨_, rfl⟩
  rw [← hDe] at hD hO
  have hfit : (memH sq).Fits := ⟨by show 2 < _; omega, hq, by show 0 < _; omega, by show 0 < _; omega, by show 1 < _; omega, by show 0 < _; omega, by show 0 < _; omega⟩
  have hoo : OpenOk D (sealB (memH sq) D []) := (openOk_seal hfit D []).2 (by show 1 ≤ 2 ∧ 2 ≤ 6; omega)
  have hoh : openH D (sealB (memH sq) D []) = memH sq := openH_seal hfit D [] (by show 1 ≤ 2 ∧ 2 ≤ 6; omega)
  have HOP : Hid (∀ x : World, Below w.heap.size w x → Calls Try.prog 24 #[.slice a 256 cap, .slice a2 64 c2] x fun e w' => e = .returned (.tuple #[.agg #[.int .u8 2, .int .u32 (sq : Int), .int .u32 0, .int .u16 0, .int .u16 1, .int .u32 0, .int .u32 0], .bool true]) ∧ Below x.heap.size x w') := Lib.hid fun x hx => by
    have := open_any a 256 cap D a2 64 c2 (sealB (memH sq) D []) x (row_keep hD hx (Nat.le_refl _)) (by omega) (row_keep hO hx (Nat.le_refl _)) hc2 hcm
    rw [hoh, decide_eq_true hoo] at this
    exact this
  have hset : ∀ cv, setA D cv = #[.int .u32 (sq : Int), cv, .int .i64 (sp : Int), .int .i64 (de : Int), .int .i64 (dn : Int)] := fun cv => by
    unfold setA; rw [hDe, page_sq _ _ _ _ _ hq, page_at0, page_at1, page_at2]
  have hgeo : geoA D = #[.int .i64 (n : Int), .int .i64 20, .int .i64 6, .int .i64 256] := by
    unfold geoA; rw [hDe, page_n, page_two3, page_two5, page_two7, hLl]; rfl
  have HTK : Hid (∀ x : World, Below w.heap.size w x → Calls Try.prog 25 #[.slice a 256 cap] x fun e w' => ∃ cv, e = .returned (.tuple #[.agg #[.int .u32 (sq : Int), cv, .int .i64 (sp : Int), .int .i64 (de : Int), .int .i64 (dn : Int)], .agg #[.int .i64 (n : Int), .int .i64 20, .int .i64 6, .int .i64 256], .bool true]) ∧ OwnI x.heap.size w' cv (intsN L) ∧ Below x.heap.size x w') := Lib.hid fun x hx => by
    have := memTake_any a 256 cap D x (row_keep hD hx (Nat.le_refl _)) hna (by rw [hDe, page_n, page_len _ _ _ _ _ (by omega)]; omega) (by rw [hDe, page_len _ _ _ _ _ (by omega)]; omega)
    refine this.mono fun e w' h => ?_
    obtain ⟨cv, h1, h2, h3⟩ := h
    rw [hset, hgeo, hDe, page_ok] at h1
    rw [hDe, page_ch] at h2
    exact ⟨cv, h1, h2, h3⟩
  have HCK : Hid (∀ (x : World) (va : Option Addr) (vc : Nat), RowI x va n vc (intsN L) → Calls Try.prog 12 #[.agg #[.int .u32 (sq : Int), .slice va n vc, .int .i64 (sp : Int), .int .i64 (de : Int), .int .i64 (dn : Int)], .agg #[.int .i64 (n : Int), .int .i64 20, .int .i64 6, .int .i64 256]] x fun e w' => e = .returned (.int .i64 0) ∧ Below x.heap.size x w') := Lib.hid fun x va vc hr => setCheck_any sq va n vc _ _ _ n 20 6 256 (intsN L) x hr hgood (by unfold In64; omega) 0 (by rw [if_pos hok])
  have hz : ∀ z ∈ intsN L, -9223372036854775808 ≤ z ∧ z ≤ 9223372036854775807 := by
    intro z hz
    unfold intsN at hz
    rw [List.mem_map] at hz
    obtain ⟨y, hy, rfl⟩ := hz
    have := hL y hy
    omega
  have hil : (intsN L).length = n := by unfold intsN; rw [List.length_map, hLl]
  have HZ := Lib.hid (And.intro hz hil)
  clear hgood hDe hD hO hfit hoo hoh hset hgeo hok hL hz hil hna
  go_enter Try.func9, Try.ntmps9
  go_upto_region 1 with fail
  obtain ⟨w0, hw0⟩ : ∃ x, x = (w.alloc (.cells #[.int .i64 (n : Int), .int .i64 20, .int .i64 6, .int .i64 256] 27)).alloc (.cells #[.int .u32 0, .slice none 0 0, .int .i64 0, .int .i64 0, .int .i64 0] 31) := ⟨_, rfl⟩
  obtain ⟨b, hb⟩ : ∃ x, x = w.heap.size := ⟨_, rfl⟩
  have g0 : w0.heap[b]? = some (.cells #[.int .i64 (n : Int), .int .i64 20, .int .i64 6, .int .i64 256] 27 (0, 0)) := by
    rw [hw0, hb, heap_alloc_oldm (by simp)]; exact heap_alloc_new w _
  have r0 : w0.heap[b + 1]? = some (.cells #[.int .u32 0, .slice none 0 0, .int .i64 0, .int .i64 0, .int .i64 0] 31 (0, 0)) := by
    have := heap_alloc_new (w.alloc (.cells #[.int .i64 (n : Int), .int .i64 20, .int .i64 6, .int .i64 256] 27)) (.cells #[.int .u32 0, .slice none 0 0, .int .i64 0, .int .i64 0, .int .i64 0] 31)
    rw [hw0, hb]; simpa using this
  have HB0 : Hid (Below w.heap.size w w0) := Lib.hid (by rw [hw0]; exact bel_alloc (bel_alloc (Below.refl _ w) _) _)
  rw [← hw0, ← hb]
  have HBB := Lib.hid hb
  have G0 := Lib.hid (And.intro g0 r0)
  clear hw0 hb g0 r0
  go_wp2_with fail
  ((with_reducible refine (HOP.out _ HB0.out).mono ?_))
  rintro e w1 ⟨rfl, hb1⟩
  have G1 : Hid (w1.heap[b]? = some (.cells #[.int .i64 (n : Int), .int .i64 20, .int .i64 6, .int .i64 256] 27 (0, 0)) ∧ w1.heap[b + 1]? = some (.cells #[.int .u32 0, .slice none 0 0, .int .i64 0, .int .i64 0, .int .i64 0] 31 (0, 0))) := Lib.hid ⟨(hb1.block _ (Array.getElem?_eq_some_iff.1 G0.out.1).1).trans G0.out.1, (hb1.block _ (Array.getElem?_eq_some_iff.1 G0.out.2).1).trans G0.out.2⟩
  have HB1 : Hid (Below w.heap.size w w1) := Lib.hid (bel_trans HB0.out hb1)
  clear hb1 G0 HB0 HOP
  go_upto_region 4 with fail
  have h2 := heap_alloc_new w1 (.cells #[.int .u8 2, .int .u32 (sq : Int), .int .u32 0, .int .u16 0, .int .u16 1, .int .u32 0, .int .u32 0] 66)
  have hb2 := bel_alloc (Below.refl w1.heap.size w1) (.cells #[.int .u8 2, .int .u32 (sq : Int), .int .u32 0, .int .u16 0, .int .u16 1, .int .u32 0, .int .u32 0] 66)
  obtain ⟨w2, hw2⟩ : ∃ x, x = w1.alloc (.cells #[.int .u8 2, .int .u32 (sq : Int), .int .u32 0, .int .u16 0, .int .u16 1, .int .u32 0, .int .u32 0] 66) := ⟨_, rfl⟩
  obtain ⟨hbk, hhb⟩ : ∃ x, x = w1.heap.size := ⟨_, rfl⟩
  rw [← hw2] at h2 hb2 ⊢
  rw [← hhb] at h2 ⊢
  have H2 := Lib.hid h2
  have G2 : Hid (w2.heap[b]? = some (.cells #[.int .i64 (n : Int), .int .i64 20, .int .i64 6, .int .i64 256] 27 (0, 0)) ∧ w2.heap[b + 1]? = some (.cells #[.int .u32 0, .slice none 0 0, .int .i64 0, .int .i64 0, .int .i64 0] 31 (0, 0))) := Lib.hid ⟨(hb2.block _ (Array.getElem?_eq_some_iff.1 G1.out.1).1).trans G1.out.1, (hb2.block _ (Array.getElem?_eq_some_iff.1 G1.out.2).1).trans G1.out.2⟩
  have HB2 : Hid (Below w.heap.size w w2) := Lib.hid (bel_trans HB1.out hb2)
  clear h2 hb2 hw2 hhb G1 HB1
  go_wp2_with fail
  ((with_reducible refine (HTK.out _ HB2.out).mono ?_))
  rintro e w3 ⟨cv, rfl, ho3, hb3⟩
  obtain ⟨va, vc, rfl, hrow3, _⟩ := ownI_row ho3 HZ.out.1
  rw [HZ.out.2] at hrow3 ⊢
  have HR3 := Lib.hid hrow3
  have HO3 := Lib.hid ho3
  have G3 : Hid (w3.heap[b]? = some (.cells #[.int .i64 (n : Int), .int .i64 20, .int .i64 6, .int .i64 256] 27 (0, 0)) ∧ w3.heap[b + 1]? = some (.cells #[.int .u32 0, .slice none 0 0, .int .i64 0, .int .i64 0, .int .i64 0] 31 (0, 0)) ∧ w3.heap[hbk]? = some (.cells #[.int .u8 2, .int .u32 (sq : Int), .int .u32 0, .int .u16 0, .int .u16 1, .int .u32 0, .int .u32 0] 66 (0, 0))) := Lib.hid ⟨(hb3.block _ (Array.getElem?_eq_some_iff.1 G2.out.1).1).trans G2.out.1, (hb3.block _ (Array.getElem?_eq_some_iff.1 G2.out.2).1).trans G2.out.2, (hb3.block _ (Array.getElem?_eq_some_iff.1 H2.out).1).trans H2.out⟩
  have HB3 : Hid (Below w.heap.size w w3 ∧ w.heap.size ≤ w2.heap.size ∧ b + 1 < w2.heap.size) := Lib.hid ⟨bel_trans HB2.out hb3, HB2.out.size, (Array.getElem?_eq_some_iff.1 G2.out.2).1⟩
  clear ho3 hrow3 hb3 G2 H2 HB2 HTK
  go_upto_region 5 with fail
  have s4 : ((w3.alloc (.cells #[.int .u32 (sq : Int), .slice va n vc, .int .i64 (sp : Int), .int .i64 (de : Int), .int .i64 (dn : Int)] 31)).alloc (.cells #[.int .i64 (n : Int), .int .i64 20, .int .i64 6, .int .i64 256] 27)).heap[w3.heap.size]? = some (.cells #[.int .u32 (sq : Int), .slice va n vc, .int .i64 (sp : Int), .int .i64 (de : Int), .int .i64 (dn : Int)] 31 (0, 0)) := by
    rw [heap_alloc_oldm (by simp)]; exact heap_alloc_new w3 _
  have k4 : ((w3.alloc (.cells #[.int .u32 (sq : Int), .slice va n vc, .int .i64 (sp : Int), .int .i64 (de : Int), .int .i64 (dn : Int)] 31)).alloc (.cells #[.int .i64 (n : Int), .int .i64 20, .int .i64 6, .int .i64 256] 27)).heap[w3.heap.size + 1]? = some (.cells #[.int .i64 (n : Int), .int .i64 20, .int .i64 6, .int .i64 256] 27 (0, 0)) := by
    have := heap_alloc_new (w3.alloc (.cells #[.int .u32 (sq : Int), .slice va n vc, .int .i64 (sp : Int), .int .i64 (de : Int), .int .i64 (dn : Int)] 31)) (.cells #[.int .i64 (n : Int), .int .i64 20, .int .i64 6, .int .i64 256] 27)
    simpa using this
  have hb4 := bel_alloc (bel_alloc (Below.refl w3.heap.size w3) (.cells #[.int .u32 (sq : Int), .slice va n vc, .int .i64 (sp : Int), .int .i64 (de : Int), .int .i64 (dn : Int)] 31)) (.cells #[.int .i64 (n : Int), .int .i64 20, .int .i64 6, .int .i64 256] 27)
  obtain ⟨w4, hw4⟩ : ∃ x, x = (w3.alloc (.cells #[.int .u32 (sq : Int), .slice va n vc, .int .i64 (sp : Int), .int .i64 (de : Int), .int .i64 (dn : Int)] 31)).alloc (.cells #[.int .i64 (n : Int), .int .i64 20, .int .i64 6, .int .i64 256] 27) := ⟨_, rfl⟩
  obtain ⟨q, hq4⟩ : ∃ x, x = w3.heap.size := ⟨_, rfl⟩
  rw [← hw4] at s4 k4 hb4 ⊢
  rw [← hq4] at s4 k4 ⊢
  have HB4 := Lib.hid hb4
  have HS4 := Lib.hid s4
  have HK4 := Lib.hid k4
  have HG4 : Hid (w4.heap[b]? = some (.cells #[.int .i64 (n : Int), .int .i64 20, .int .i64 6, .int .i64 256] 27 (0, 0)) ∧ w4.heap[b + 1]? = some (.cells #[.int .u32 0, .slice none 0 0, .int .i64 0, .int .i64 0, .int .i64 0] 31 (0, 0)) ∧ w4.heap[hbk]? = some (.cells #[.int .u8 2, .int .u32 (sq : Int), .int .u32 0, .int .u16 0, .int .u16 1, .int .u32 0, .int .u32 0] 66 (0, 0))) := Lib.hid ⟨(hb4.block _ (Array.getElem?_eq_some_iff.1 G3.out.1).1).trans G3.out.1, (hb4.block _ (Array.getElem?_eq_some_iff.1 G3.out.2.1).1).trans G3.out.2.1, (hb4.block _ (Array.getElem?_eq_some_iff.1 G3.out.2.2).1).trans G3.out.2.2⟩
  have HR4 := Lib.hid (rowI_below HR3.out hb4)
  clear hw4 hq4 s4 k4 hb4 G3
  obtain ⟨z0, z1, z2, z3, z4⟩ := five_at HS4.out
  obtain ⟨k0, k1, k2, k3⟩ := mfour_at HK4.out
  obtain ⟨y0, y1, y2, y3⟩ := mfour_at HG4.out.1
  have hh1 := (hdr_cells (h := memH sq) HG4.out.2.2).2.1
  change w4.cell? ⟨hbk, 1, none⟩ = some (.int .u32 (sq : Int)) at hh1
  have tn : ((n : Int) != (n : Int)) = false := by simp
  have tq : ((sq : Int) != (sq : Int)) = false := by simp
  go_wp2_with fail
  ((with_reducible refine (HCK.out _ va vc HR4.out).mono ?_))
  rintro e w5 ⟨rfl, hb5⟩
  have s5 := (hb5.block _ (Array.getElem?_eq_some_iff.1 HS4.out).1).trans HS4.out
  have r5 := (hb5.block _ (Array.getElem?_eq_some_iff.1 HG4.out.2.1).1).trans HG4.out.2.1
  have HB5 := Lib.hid hb5
  clear hb5 z0 z1 z2 z3 z4 k0 k1 k2 k3 y0 y1 y2 y3 hh1 tn tq HCK
  obtain ⟨z0, z1, z2, z3, z4⟩ := five_at s5
  obtain ⟨d0, d1, d2, d3, d4⟩ := five_at r5
  have df := mfree_at r5
  have f0 := df 0
  have f1 := df 1
  have f2 := df 2
  have f3 := df 3
  have f4 := df 4
  clear df
  go_wp2_with fail
  refine bodyPost_ret (v := .tuple #[.agg #[.int .u32 (sq : Int), .slice va n vc, .int .i64 (sp : Int), .int .i64 (de : Int), .int .i64 (dn : Int)], .int .i64 0]) ?_ rfl ⟨.slice va n vc, rfl, ?_, ?_⟩
  · simp [results, Try.results9, go_sem, d0, d1, d2, d3, d4]
  · have h1 : OwnI w2.heap.size w5 (.slice va n vc) (intsN L) := by
      have := ownI_below (ownI_below HO3.out HB4.out) HB5.out
      rw [HZ.out.2] at this
      exact this
    exact ownI_mono (ownsRow_setCell_below (a := ⟨b + 1, 4, none⟩) (ownsRow_setCell_below (a := ⟨b + 1, 3, none⟩) (ownsRow_setCell_below (a := ⟨b + 1, 2, none⟩) (ownsRow_setCell_below (a := ⟨b + 1, 1, none⟩) (ownsRow_setCell_below (a := ⟨b + 1, 0, none⟩) h1 HB3.out.2.2 (.int .u32 (sq : Int))) HB3.out.2.2 (.slice va n vc)) HB3.out.2.2 (.int .i64 (sp : Int))) HB3.out.2.2 (.int .i64 (de : Int))) HB3.out.2.2 (.int .i64 (dn : Int))) HB3.out.2.1
  · have h2 : Below w.heap.size w w5 := bel_trans (bel_trans HB3.out.1 HB4.out) HB5.out
    exact (Below.setCell (p := ⟨b + 1, 4, none⟩) (Below.setCell (p := ⟨b + 1, 3, none⟩) (Below.setCell (p := ⟨b + 1, 2, none⟩) (Below.setCell (p := ⟨b + 1, 1, none⟩) (Below.setCell (p := ⟨b + 1, 0, none⟩) h2 (by show w.heap.size ≤ b + 1; have := HBB.out; omega) (.int .u32 (sq : Int))) (by show w.heap.size ≤ b + 1; have := HBB.out; omega) (.slice va n vc)) (by show w.heap.size ≤ b + 1; have := HBB.out; omega) (.int .i64 (sp : Int))) (by show w.heap.size ≤ b + 1; have := HBB.out; omega) (.int .i64 (de : Int))) (by show w.heap.size ≤ b + 1; have := HBB.out; omega) (.int .i64 (dn : Int)))
end Go.Proofs.Ytdljihemnfpkaaa
