/- Parts of the proof: ParOf, RBlank. -/
import Derived.Test.YthgcjiocelcblaaGreatK13
import Derived.Test.YthgcjiocelcblaaGreatK15
import Derived.Deep.RegionHeld3
import Derived.Test.YthgcjiocelcblaaGreatK01
import Derived.Deep.QuietTactic
namespace Go.Proofs.YthgcjiocelcblaaGreat
open Go.RowKit

theorem page_at {W : World} {b : Nat} {v0 v1 : Value} {t : TypeId} (h : W.heap[b]? = some (.cells #[v0, v1] t (0, 0))) :
    (W.cell? ⟨b, 0, none⟩ = some v0 ∧ W.cell? ⟨b, 1, none⟩ = some v1) ∧ W.frozen? ⟨b, 0, none⟩ = false ∧ W.frozen? ⟨b, 1, none⟩ = false := by
  simp [World.cell?, World.frozen?, h]
theorem blk_step {x y : World} {B : Nat} {o : Obj} (h : x.heap[B]? = some o) (hb : Below x.heap.size x y) : y.heap[B]? = some o := (hb.block _ (Array.getElem?_eq_some_iff.1 h).1).trans h
/-- A header's box and a page's that is to be answered. -/
def OfS (h : RH) (T : TypeId) (w : World) (x : World) : Prop := HdrAt h w.heap.size x ∧ x.heap[w.heap.size + 1]? = some (.cells #[.slice none 0 0, .slice none 0 0] T (0, 0)) ∧ Below w.heap.size w x
theorem OfS.step {h : RH} {T : TypeId} {w x y : World} (hs : OfS h T w x) (hb : Below x.heap.size x y) : OfS h T w y :=
  ⟨hs.1.below hb (World.block_lt_of_cell? x _ hs.1.1), blk_step hs.2.1 hb, bel_trans hs.2.2 hb⟩
theorem ofS_new (h : RH) (w : World) : OfS h 137 w ((w.alloc (.cells #[.int .u8 (h.ki : Int), .int .u32 (h.ep : Int), .int .u32 (h.ba : Int), .int .u16 (h.ix : Int), .int .u16 (h.ct : Int), .int .u32 (h.bl : Int), .int .u32 (h.mo : Int)] 93)).alloc (.cells #[.slice none 0 0, .slice none 0 0] 137)) := by
  have h1 := hdr_new h w
  have h2 := heap_alloc_new (w.alloc (.cells #[.int .u8 (h.ki : Int), .int .u32 (h.ep : Int), .int .u32 (h.ba : Int), .int .u16 (h.ix : Int), .int .u16 (h.ct : Int), .int .u32 (h.bl : Int), .int .u32 (h.mo : Int)] 93)) (.cells #[.slice none 0 0, .slice none 0 0] 137)
  rw [World.size_alloc] at h2
  exact ⟨h1.below (bel_alloc (Below.refl _ _) _) (by simp), h2, bel_alloc (bel_alloc (Below.refl _ w) _) _⟩
/-- Facts of pages' parts, further on. -/
theorem dsOk {W : World} {a : Option Addr} {G : List PG} (h : PagesL W a G) : ∀ p ∈ G.map PG.d, PartOk W p := fun p hp => by
  rw [List.mem_map] at hp
  obtain ⟨g, hg, rfl⟩ := hp
  exact (h.2 g hg).1
theorem hsOk {W : World} {a : Option Addr} {G : List PG} (h : PagesL W a G) : ∀ p ∈ G.map (fun g => g.o.head), PartOk W p := fun p hp => by
  rw [List.mem_map] at hp
  obtain ⟨g, hg, rfl⟩ := hp
  exact head_ok (h.2 g hg).2
/-- The bytes of pages; the first 32 beside each. -/
def dsOf (G : List PG) : List (List Nat) := G.map fun g => g.d.l
def hsOf (G : List PG) : List (List Nat) := G.map fun g => g.o.l.take 32
theorem ds_map (G : List PG) : (G.map PG.d).map PS.l = dsOf G := by simp [dsOf]
theorem hs_map (G : List PG) : (G.map fun g => g.o.head).map PS.l = hsOf G := by simp [hsOf, PS.head]
theorem head_le {p : PS} {m : Nat} (h : p.n ≤ m) : p.head.n ≤ m := by simp only [PS.head]; omega
theorem lgL_parts {W : World} {L : List PS} {m : Nat} (h : ∀ p ∈ L, PartOk W p) (hl : ∀ p ∈ L, p.n ≤ m) : lgL (L.map PS.l) ≤ m := lgL_le fun x hx => by
  rw [List.mem_map] at hx
  obtain ⟨p, hp, rfl⟩ := hx
  rw [(h p hp).1.1]; exact hl p hp

theorem seal_parts (h : RH) (hf : h.Fits) (D : PS) (hD : D.n ≤ 1000) : Hid (∀ (x : World) (X : PS), PartOk x D → PartOk x X → X.n ≤ 1000 →
    Calls Tryz.prog 70 #[.agg #[.int .u8 (h.ki : Int), .int .u32 (h.ep : Int), .int .u32 (h.ba : Int), .int .u16 (h.ix : Int), .int .u16 (h.ct : Int), .int .u32 (h.bl : Int), .int .u32 (h.mo : Int)], .slice D.a D.n D.c, .slice X.a X.n X.c] x (RetOwn x (sealB h D.l X.l))) :=
  Lib.hid fun x X hd hx hn => seal_any h hf D.a D.n D.c D.l X.a X.n X.c X.l x hd.1 (by omega) hx.1 hx.2.1 hx.2.2.1 hx.2.2.2 (by omega)
/-- What Of hands back. -/
def OfRet (h : RH) (G : List PG) (w : World) (e : Ending) (w' : World) : Prop :=
  ∃ D O : PS, e = .returned (.agg #[.slice D.a D.n D.c, .slice O.a O.n O.c]) ∧ D.l = xorL (dsOf G) ∧ O.l = sealB h (xorL (dsOf G)) (xorL (hsOf G)) ∧ PartOk w' D ∧ PartOk w' O ∧ D.n ≤ 1000 ∧ O.n = 64 ∧ Below w.heap.size w w'
set_option maxRecDepth 100000 in
set_option maxHeartbeats 3200000 in
theorem of_pages (h : RH) (hf : h.Fits) (a : Option Addr) (n c : Nat) (G : List PG) (w : World) (hn : n = G.length) (hp : PagesL w a G) (hm : n ≤ 1000) (hl : ∀ g ∈ G, g.d.n ≤ 1000 ∧ g.o.n ≤ 1000) :
    Calls Tryz.prog 72 #[.agg h.cells, .slice a n c] w (OfRet h G w) := by
  have HP := Lib.hid hp
  have HN := Lib.hid hn
  have HL := Lib.hid hl
  have HS0 := Lib.hid (ofS_new h w)
  have HF := Lib.hid hf
  have HD1 : Hid (∀ p ∈ G.map PG.d, p.n ≤ 1000) := Lib.hid fun p hp => by
    rw [List.mem_map] at hp
    obtain ⟨g, hg, rfl⟩ := hp
    exact (hl g hg).1
  have HH1 : Hid (∀ p ∈ G.map (fun g => g.o.head), p.n ≤ 1000) := Lib.hid fun p hp => by
    rw [List.mem_map] at hp
    obtain ⟨g, hg, rfl⟩ := hp
    exact head_le (hl g hg).2
  have HLD : Hid ((G.map PG.d).length = n) := Lib.hid (by rw [List.length_map, hn])
  have HLH : Hid ((G.map fun g => g.o.head).length = n) := Lib.hid (by rw [List.length_map, hn])
  clear hp hn hl hf
  unfold RH.cells
  go_enter Tryz.func72, Tryz.ntmps72
  go_wp2_with fail
  obtain ⟨w0, hw0⟩ : ∃ x, x = (w.alloc (.cells #[.int .u8 (h.ki : Int), .int .u32 (h.ep : Int), .int .u32 (h.ba : Int), .int .u16 (h.ix : Int), .int .u16 (h.ct : Int), .int .u32 (h.bl : Int), .int .u32 (h.mo : Int)] 93)).alloc (.cells #[.slice none 0 0, .slice none 0 0] 137) := ⟨_, rfl⟩
  rw [← hw0] at HS0 ⊢
  clear hw0
  have HP0 := Lib.hid (HP.out.keep HS0.out.2.2 (Nat.le_refl _))
  ((with_reducible refine (parts_any a n c G w0 HN.out HP0.out (by omega) (fun g hg => Nat.le_trans (HL.out g hg).2 (by omega))).mono ?_))
  intro e w1 hq
  obtain ⟨u, v, rfl, hu, hv, hns, hb⟩ := hq
  have HP1 := Lib.hid (HP0.out.step hb)
  have HS1 := Lib.hid (HS0.out.step hb)
  obtain ⟨ua, uc, rfl, hcu, _, _, _⟩ := cellsL_own hu
  obtain ⟨va, vc, rfl, hcv, _, _, _⟩ := cellsL_own hv
  have HU1 := Lib.hid (partsL_of hcu (dsOk HP1.out))
  have HV1 := Lib.hid (partsL_of hcv (hsOk HP1.out))
  rw [HLD.out, HLH.out]
  clear hb hu hv hns hcu hcv
  go_wp2_with fail
  ((with_reducible refine (xorL_any ua uc (G.map PG.d) n _ HLD.out.symm HU1.out (by omega) (fun p hp => Nat.le_trans (HD1.out p hp) (by omega))).mono ?_))
  intro e w2 hr
  obtain ⟨D, rfl, hDl, hDn, hDk, hb, hfar⟩ := part_ret' hr
  have HDF : Hid (Far (w.heap.size + 2) D) := Lib.hid fun x hx => Nat.le_trans (Nat.le_trans (by have := World.block_lt_of_cell? w1 _ (page_at HS1.out.2.1).1.1; simp at this; omega) (Nat.le_refl w1.heap.size)) (hfar x hx)
  rw [ds_map] at hDl
  have HDL := Lib.hid hDl
  have HDN : Hid (D.n ≤ 1000) := Lib.hid (by rw [hDn, xorL_len]; exact lgL_parts (dsOk HP1.out) HD1.out)
  have HD2 := Lib.hid hDk
  have HS2 := Lib.hid (HS1.out.step hb)
  have HV2 := Lib.hid (HV1.out.step hb)
  clear hr hDl hDn hDk hb hfar
  obtain ⟨⟨c0, c1, c2, c3, c4, c5, c6⟩, hpg, _⟩ := HS2.out
  obtain ⟨⟨p0, p1⟩, z0, z1⟩ := page_at hpg
  clear hpg
  go_wp2_with fail
  clear p0 p1 z0 z1
  have HSEAL := seal_parts h HF.out D HDN.out
  have hS0 : HdrAt h w.heap.size w2.drew := ⟨c0, c1, c2, c3, c4, c5, c6⟩
  have HV2d : Hid (PartsL w2.drew (va) (G.map fun g => g.o.head)) := Lib.hid (HV2.out.step ((Below.refl _ w2).drew))
  have HS2d := Lib.hid (HS2.out.step ((Below.refl _ w2).drew))
  have HD2d := Lib.hid (HD2.out.step ((Below.refl _ w2).drew))
  go_region_held3 (fun x => x.cell? ⟨w.heap.size, 0, none⟩ = some (.int .u8 (h.ki : Int)) ∧ x.cell? ⟨w.heap.size, 1, none⟩ = some (.int .u32 (h.ep : Int)) ∧ x.cell? ⟨w.heap.size, 2, none⟩ = some (.int .u32 (h.ba : Int)) ∧ x.cell? ⟨w.heap.size, 3, none⟩ = some (.int .u16 (h.ix : Int)) ∧ x.cell? ⟨w.heap.size, 4, none⟩ = some (.int .u16 (h.ct : Int)) ∧ x.cell? ⟨w.heap.size, 5, none⟩ = some (.int .u32 (h.bl : Int)) ∧ x.cell? ⟨w.heap.size, 6, none⟩ = some (.int .u32 (h.mo : Int)))
    (first | exact hS4 | exact hS3 | exact hS0 | go_keep)
    (first
      | (go_simp; go_at_call 93; ((with_reducible refine (xorL_any va vc (G.map fun g => g.o.head) n _ HLH.out.symm HV2d.out (by omega) (fun p hp => Nat.le_trans (HH1.out p hp) (by omega))).mono ?_)); (intro e w3 hr; obtain ⟨X, rfl, hXl, hXn, hXk, hb⟩ := part_ret hr; rw [hs_map] at hXl; have HXL := Lib.hid hXl; have HXN : Hid (X.n ≤ 1000) := Lib.hid (by rw [hXn, xorL_len]; exact lgL_parts (hsOk (HP1.out)) HH1.out); have HX3 := Lib.hid hXk; have HS3 := Lib.hid (HS2d.out.step hb); have HD3 := Lib.hid (HD2d.out.step hb); clear hr hXl hXn hXk hb; have hS3 := HS3.out.1))
      | (go_simp; go_at_call 70; ((with_reducible refine (HSEAL.out _ X HD3.out HX3.out HXN.out).mono ?_)); (intro e w4 hr; obtain ⟨O, rfl, hOl, hOn, hOk, hb, hfar⟩ := part_ret' hr; have HOF : Hid (Far (w.heap.size + 2) O) := Lib.hid (fun x hx => Nat.le_trans (Nat.le_trans (by have := World.block_lt_of_cell? w3 _ (page_at HS3.out.2.1).1.1; simp at this; omega) (Nat.le_refl w3.heap.size)) (hfar x hx)); rw [HDL.out, HXL.out] at hOl; have HOL := Lib.hid hOl; have HON : Hid (O.n = 64) := Lib.hid (by rw [hOn]; exact sealB_len _ _ _); have HO4 := Lib.hid hOk; have HS4 := Lib.hid (HS3.out.step hb); have HD4 := Lib.hid (HD3.out.step hb); clear hr hOl hOn hOk hb hfar; obtain ⟨⟨p0, p1⟩, z0, z1⟩ := page_at HS4.out.2.1; have hS4 := HS4.out.1)))
  all_goals
    go_wp2
    refine bodyPost_ret (v := .agg #[.slice D.a D.n D.c, .slice O.a O.n O.c]) ?_ rfl ⟨D, O, rfl, HDL.out, HOL.out, ?_, ?_, HDN.out, HON.out, ?_⟩
    · simp [results, Tryz.results72, go_sem, p0, p1]
    · exact (HD4.out.set HDF.out (by omega)).set HDF.out (by omega)
    · exact (HO4.out.set HOF.out (by omega)).set HOF.out (by omega)
    · exact (HS4.out.2.2.setCell (p := ⟨w.heap.size + 1, 0, none⟩) (by simp) _).setCell (p := ⟨w.heap.size + 1, 1, none⟩) (by simp) _

end Go.Proofs.YthgcjiocelcblaaGreat

namespace Go.Proofs.YthgcjiocelcblaaGreat
open Go.RowKit

/-- Are all bytes 255? -/
def blankB (bs : List Nat) : Bool := bs.all (· == 255)
theorem blankB_take {bs : List Nat} {k : Nat} (hk : k < bs.length) (h : blankB (bs.take k) = true) : blankB (bs.take (k + 1)) = (bs.getD k 0 == 255) := by
  unfold blankB at *
  rw [take_snoc_getD bs k hk, List.all_append, h]
  simp
theorem blankB_false {bs : List Nat} {k : Nat} (hk : k < bs.length) (h : ¬ bs.getD k 0 = 255) : blankB bs = false := by
  rw [getD_in _ _ hk] at h
  unfold blankB
  rw [List.all_eq_false]
  exact ⟨bs[k], List.getElem_mem _, by simpa using h⟩
set_option maxHeartbeats 400000 in
theorem blank_any (a : Option Addr) (len cap : Nat) (bs : List Nat) (w : World) (hr : Row w a len bs) (hl : len ≤ 100000) :
    Calls Tryz.prog 110 #[.slice a len cap] w fun e w' => e = .returned (.bool (blankB bs)) ∧ w' = w := by
  have HR := Lib.hid hr
  clear hr
  go_enter Tryz.func110, Tryz.ntmps110
  go_wp2
  go_loop [4, 7] (fun _ i => ∃ k : Nat, k ≤ len ∧ i = .int .i64 k ∧ blankB (bs.take k) = true) (fun _ i => len - (intOf i).toNat)
  case atStart => exact ⟨0, by omega, rfl, by simp [blankB]⟩
  case round =>
    obtain ⟨k, hk, rfl, hb⟩ := hrel
    have HB := Lib.hid hb
    clear hb
    by_cases hlt : k < len
    · obtain ⟨b, off, x, rfl, hc, hx, HX⟩ := row_cell HR.out hlt
      have hkl : k < bs.length := by rw [HR.out.1]; exact hlt
      by_cases h255 : x = 255
      · subst h255
        have HN := Lib.hid ((blankB_take hkl HB.out).trans (by rw [← HX.out]))
        go_wp2
        go_round
        case rel => exact ⟨k + 1, by omega, by go_num, HN.out⟩
        case measure => simp [intOf]; omega
      · have HN := Lib.hid (blankB_false hkl (by rw [← HX.out]; exact h255))
        have hne : ((x : Int) != 255) = true := by simp; omega
        go_wp2
        go_ret
        exact ⟨ret_bool HN.out.symm, rfl⟩
    · obtain rfl : k = len := by omega
      have HN : Hid (blankB bs = true) := Lib.hid (by have := HB.out; rw [List.take_of_length_le (by rw [HR.out.1]; omega)] at this; exact this)
      go_wp2
      go_ret
      exact ⟨ret_bool HN.out.symm, rfl⟩
set_option maxHeartbeats 400000 in
theorem Blank_any (a : Option Addr) (len cap : Nat) (bs : List Nat) (a2 : Option Addr) (len2 cap2 : Nat) (cs : List Nat) (w : World) (hr : Row w a len bs) (hl : len ≤ 100000) (hr2 : Row w a2 len2 cs) (hl2 : len2 ≤ 100000) :
    Calls Tryz.prog 100 #[.slice a len cap, .slice a2 len2 cap2] w fun e w' => e = .returned (.bool (blankB bs && blankB cs)) ∧ w' = w := by
  have H1 := Lib.hid (blank_any a len cap bs w hr hl)
  have H2 := Lib.hid (blank_any a2 len2 cap2 cs w hr2 hl2)
  clear hr hr2
  go_enter Tryz.func100, Tryz.ntmps100
  go_wp2_with fail
  refine H1.out.mono ?_
  rintro e w1 ⟨rfl, rfl⟩
  cases hb : blankB bs with
  | false =>
    go_wp2
    go_ret
    exact ⟨ret_bool (by simp [hb]), rfl⟩
  | true =>
    go_wp2_with fail
    refine H2.out.mono ?_
    rintro e w1 ⟨rfl, rfl⟩
    go_wp2
    go_ret
    exact ⟨ret_bool (by simp [hb]), rfl⟩

theorem strOf_inj {bs cs : List Nat} (hb : ∀ x ∈ bs, x < 256) (hc : ∀ x ∈ cs, x < 256) (h : strOf bs = strOf cs) : bs = cs := by
  have h1 : bs.map UInt8.ofNat = cs.map UInt8.ofNat := by
    have h2 := congrArg (fun s : ByteArray => s.data.toList) h
    simpa [strOf] using h2
  have h3 : ∀ l : List Nat, (∀ x ∈ l, x < 256) → (l.map UInt8.ofNat).map UInt8.toNat = l := fun l hl => by
    rw [List.map_map]
    conv => rhs; rw [← List.map_id l]
    apply List.map_congr_left
    intro x hx
    have := hl x hx
    simp; omega
  rw [← h3 bs hb, ← h3 cs hc, h1]
theorem strOf_beq {bs cs : List Nat} (hb : ∀ x ∈ bs, x < 256) (hc : ∀ x ∈ cs, x < 256) : ((strOf bs).toList == (strOf cs).toList) = decide (bs = cs) := by
  by_cases h : bs = cs
  · subst h; simp
  · have h1 : ¬ strOf bs = strOf cs := fun e => h (strOf_inj hb hc e)
    have h2 : ¬ (strOf bs).toList = (strOf cs).toList := fun e => h1 (by
      rw [ByteArray.toList_eq, ByteArray.toList_eq] at e
      exact ByteArray.ext (Array.toList_inj.1 e))
    rw [decide_eq_false h]
    exact beq_eq_false_iff_ne.2 h2
set_option maxHeartbeats 400000 in
theorem equal_any (a : Option Addr) (la ca : Nat) (b : Option Addr) (lb cb : Nat) (bs cs : List Nat) (w : World) (ha : Row w a la bs) (hb : Row w b lb cs) :
    Calls Tryz.prog 114 #[.slice a la ca, .slice b lb cb] w fun e w' => e = .returned (.bool (decide (bs = cs))) ∧ w' = w := by
  have h1 := conv_str w a la ca bs ha
  have h2 := conv_str w b lb cb cs hb
  have HE := Lib.hid (strOf_beq ha.2.1 hb.2.1)
  go_enter Tryz.func114, Tryz.ntmps114
  go_wp2
  go_ret
  exact ⟨ret_bool HE.out, rfl⟩
set_option maxHeartbeats 400000 in
theorem sameB_any (a : Option Addr) (la ca : Nat) (b : Option Addr) (lb cb : Nat) (bs cs : List Nat) (w : World) (ha : Row w a la bs) (hb : Row w b lb cs) :
    Calls Tryz.prog 13 #[.slice a la ca, .slice b lb cb] w fun e w' => e = .returned (.bool (decide (bs = cs))) ∧ w' = w := by
  have h1 := conv_str w a la ca bs ha
  have h2 := conv_str w b lb cb cs hb
  have HE := Lib.hid (strOf_beq ha.2.1 hb.2.1)
  go_enter Tryz.func13, Tryz.ntmps13
  go_wp2
  go_ret
  exact ⟨ret_bool HE.out, rfl⟩

end Go.Proofs.YthgcjiocelcblaaGreat
