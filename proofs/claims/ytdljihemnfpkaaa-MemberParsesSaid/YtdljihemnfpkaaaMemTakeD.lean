/- member.take: bytes that run out. -/
import Derived.Test.YtdljihemnfpkaaaMemTake
import Derived.Test.YtdljihemnfpkaaaReadDies
namespace Go.Proofs.Ytdljihemnfpkaaa
open Go.RowKit Go.Deep

/-- What is left of the three where the bytes ran out. -/
def TkD (p : Nat) (W' : World) : Prop :=
  (∃ (s0 s1 s2 s3 : Int) (va : Option Addr) (vn vc : Nat), W'.heap[p]? = some (.cells #[.int .u32 s0, .slice va vn vc, .int .i64 s1, .int .i64 s2, .int .i64 s3] 31 (0, 0))) ∧ (∃ g0 g1 g2 g3 : Int, W'.heap[p + 1]? = some (.cells #[.int .i64 g0, .int .i64 g1, .int .i64 g2, .int .i64 g3] 27 (0, 0))) ∧ W'.heap[p + 2]? = some (.cells #[.bool false] 4 (0, 0))
/-- What the function ends with. -/
def TkDead (w W : World) (p pr pg : Nat) (e : Ending) (W' : World) : Prop :=
  e = .panicked (outChain pg) ∧ RG W' pg true ∧ (W.heap.size ≤ W'.heap.size ∧ ∀ k, w.heap.size ≤ k → k < W.heap.size → k ≠ pr → k ≠ pg → W'.heap[k]? = W.heap[k]?) ∧ TkD p W' ∧ Below p w W'
section
variable {w W : World} {p pr pg : Nat} {S G : Array Value} {k : Bool} {wr : World} {bs : List Nat}
theorem TkI.rgd (hI : TkI w W p pr pg S G k wr bs) (hg : RG W pg false) (hpg : w.heap.size ≤ pg) (hne : pr ≠ pg) : RG wr pg false := by
  have hlt : pg < W.heap.size := World.block_lt_of_cell? W ⟨pg, 0, none⟩ (rg_cells hg).1
  unfold RG at hg ⊢
  rw [hI.inner.2 pg hpg hlt (fun e => hne e.symm)]; exact hg
theorem TkI.dies {s0 s1 s2 s3 g0 g1 g2 g3 : Int} {va : Option Addr} {vn vc : Nat} {e : Ending} {w' : World} (hI : TkI w W p pr pg #[.int .u32 s0, .slice va vn vc, .int .i64 s1, .int .i64 s2, .int .i64 s3] #[.int .i64 g0, .int .i64 g1, .int .i64 g2, .int .i64 g3] false wr bs) (hp : p + 2 < pr) (hw : w.heap.size = p + 3) (hpg : w.heap.size ≤ pg) (hd : Died wr pr pg e w') : TkDead w W p pr pg e w' := by
  obtain ⟨d1, d2, d3, d4, d5, d6, d7⟩ := hd
  exact ⟨d1, d2, ⟨Nat.le_trans hI.inner.1 d3, fun k k1 k2 k3 k4 => by rw [d7 k k3 k4]; exact hI.inner.2 k k1 k2 k3⟩,
    ⟨⟨_, _, _, _, _, _, _, by rw [d7 p (by omega) (by omega)]; exact hI.sc⟩, ⟨_, _, _, _, by rw [d7 (p + 1) (by omega) (by omega)]; exact hI.gc⟩, by rw [d7 (p + 2) (by omega) (by omega)]; exact hI.kc⟩,
    ⟨d4.trans hI.bel.os, d5.trans hI.bel.tape, d6.trans hI.bel.output, Nat.le_trans hI.bel.size d3, fun k k1 => by rw [d7 k (by omega) (by omega)]; exact hI.bel.block k k1⟩⟩
end
set_option maxRecDepth 100000 in
set_option maxHeartbeats 4000000 in
theorem memTakeByD (w W : World) (p pr pg c : Nat) (a : Option Addr) (bs : List Nat) (hl : bs.length < 14 + nP bs) (h6 : 6 ≤ bs.length) (hl2 : bs.length ≤ 1000) (hp : w.heap.size = p + 3) (hr : RD W pr pg a c bs) (hg : RG W pg false) (hb : Below w.heap.size w W) (hpr : w.heap.size + 3 ≤ pr) (hpg : w.heap.size ≤ pg)
    (h0 : w.heap[p]? = some (.cells #[.int .u32 0, .slice none 0 0, .int .i64 0, .int .i64 0, .int .i64 0] 31 (0, 0))) (h1 : w.heap[p + 1]? = some (.cells #[.int .i64 0, .int .i64 0, .int .i64 0, .int .i64 0] 27 (0, 0))) (h2 : w.heap[p + 2]? = some (.cells #[.bool false] 4 (0, 0))) :
    Calls Try.prog 46 #[.pointer (some ⟨pr, 0, none⟩), .pointer (some ⟨p, 0, none⟩), .pointer (some ⟨p + 1, 0, none⟩), .pointer (some ⟨p + 2, 0, none⟩)] W (TkDead w W p pr pg) := by
  have hpp : p + 2 < pr := by omega
  have hI0 : TkI w W p pr pg #[.int .u32 0, .slice none 0 0, .int .i64 0, .int .i64 0, .int .i64 0] #[.int .i64 0, .int .i64 0, .int .i64 0, .int .i64 0] false W bs := ⟨⟨a, c, hr⟩, (hb.block p (by omega)).trans h0, (hb.block _ (by omega)).trans h1, (hb.block _ (by omega)).trans h2, ⟨Nat.le_refl _, fun _ _ _ _ => rfl⟩, hb.mono (by omega)⟩
  have hbb : ∀ x ∈ bs, x < 256 := hr.2.1.2.1
  have HG := Lib.hid (And.intro hg (And.intro hpg (rg_ne hr hg)))
  clear hr h0 h1 h2 hb hg hpg
  have HL := Lib.hid hl
  have H6 := Lib.hid h6
  clear h6
  have HBB := Lib.hid hbb
  clear hl hbb
  go_enter Try.func46, Try.ntmps46
  obtain ⟨ra0, rc0, hrd0⟩ := hI0.rd
  go_wp2_with fail
  refine (rU32_ok hrd0 (by have := H6.out; omega)).mono ?_
  intro e w1 hn0
  obtain ⟨rfl, hI1, hs1, _, _⟩ := hI0.num hpp hn0
  clear hrd0 hn0 hI0
  obtain ⟨sq, hsq⟩ : ∃ x, x = leVal (bs.take 4) := ⟨_, rfl⟩
  rw [← hsq]
  have HSQ : Hid (sq = sqP bs) := Lib.hid hsq
  clear hsq
  have c0 := (five_at hI1.sc).1
  have f0 := mfree_at hI1.sc 0
  have hI2 := hI1.setS hpp hp 0 (.int .u32 (sq : Int)) #[.int .u32 (sq : Int), .slice none 0 0, .int .i64 0, .int .i64 0, .int .i64 0] rfl (by simp)
  have hs2 : (w1.setCell ⟨p, 0, none⟩ (.int .u32 (sq : Int))).heap.size = W.heap.size := by simp [World.setCell]; exact hs1
  clear hI1 hs1
  obtain ⟨ra2, rc2, hrd2⟩ := hI2.rd
  go_wp2_with fail
  refine (rU8_ok hrd2 (by rw [List.length_drop]; have := H6.out; omega)).mono ?_
  intro e w3 hn2
  obtain ⟨rfl, hI3, hs3, _, _⟩ := hI2.num hpp hn2
  rw [hs2] at hs3
  clear hrd2 hn2 hI2 c0 f0 hs2
  obtain ⟨n, hn⟩ : ∃ x, x = (bs.drop 4).getD 0 0 := ⟨_, rfl⟩
  rw [← hn]
  have hnP : n = nP bs := by rw [hn]; simp [nP, List.getD]
  have hn256 : n < 256 := by rw [hnP]; exact getD_lt HBB.out 4
  have HNP := Lib.hid hnP
  clear hn hnP
  rw [List.drop_drop] at hI3
  have g0 := (mfour_at hI3.gc).1
  have gf := mfree_at hI3.gc 0
  have hwn : IntKind.i64.wrap (n : Int) = (n : Int) := by rw [IntKind.wrap_i64]; omega
  have hI4 := hI3.setG hpp hp 0 (.int .i64 (n : Int)) #[.int .i64 (n : Int), .int .i64 0, .int .i64 0, .int .i64 0] rfl (by simp)
  have hs4 : (w3.setCell ⟨p + 1, 0, none⟩ (.int .i64 (n : Int))).heap.size = W.heap.size := by simp [World.setCell]; exact hs3
  clear hI3 hs3
  have g1 := (mfour_at hI4.gc).1
  go_wp2_with fail
  have hB4 : RdB W.heap.size (w3.setCell ⟨p + 1, 0, none⟩ (.int .i64 (n : Int))) pr pg (bs.drop (4 + 1)) := by
    obtain ⟨a4, c4, h4⟩ := hI4.rd
    have := rdB_of h4 (by rw [List.length_drop]; have := H6.out; omega)
    rw [hs4] at this
    exact this
  have hprW : pr < W.heap.size := by
    obtain ⟨a4, c4, h4⟩ := hI4.rd
    have := (Array.getElem?_eq_some_iff.1 h4.1).1
    omega
  have HI4 := Lib.hid hI4
  have HB4 := Lib.hid hB4
  have HPW := Lib.hid hprW
  have HS4 := Lib.hid hs4
  obtain ⟨w4, hw4⟩ : ∃ x, x = w3.setCell ⟨p + 1, 0, none⟩ (.int .i64 (n : Int)) := ⟨_, rfl⟩
  rw [← hw4] at HI4 HB4 HS4 ⊢
  clear hI4 hB4 hprW hs4 hw4 g0 g1 gf hwn
  obtain ⟨i0, hi, hz0, hz1, hz2⟩ := info_parts info_int2
  go_loopw [14] (fun iv wr => ∃ (k : Nat) (v : Value), (k ≤ n ∧ 5 + k ≤ bs.length) ∧ iv = .int .i64 (k : Int) ∧ OwnI W.heap.size wr v (intsN ((bs.drop 5).take k)) ∧ TkI w W p pr pg #[.int .u32 (sq : Int), v, .int .i64 0, .int .i64 0, .int .i64 0] #[.int .i64 (n : Int), .int .i64 0, .int .i64 0, .int .i64 0] false wr (bs.drop (5 + k)) ∧ RdB W.heap.size wr pr pg (bs.drop (5 + k))) (fun iv _ => n - (intOf iv).toNat)
  case atStart => exact ⟨0, _, ⟨Nat.zero_le _, by have := H6.out; omega⟩, rfl, ownI_nil _ _, HI4.out, HB4.out⟩
  case round =>
    obtain ⟨k, v, ⟨hk, hk5⟩, rfl, hO, hI, hR⟩ := hrel
    obtain ⟨va, vn, vc, rfl⟩ := ownI_slice hO
    have HO := Lib.hid hO
    have HI := Lib.hid hI
    have HR := Lib.hid hR
    clear hO hI hR HI4 HB4 HS4
    have hd5 : (bs.drop 5).length = bs.length - 5 := List.length_drop
    by_cases hlt : k < n
    · have t1 : decide (k < n) = true := by simpa using hlt
      by_cases hf : 5 + k + 1 ≤ bs.length
      · have HF := Lib.hid hf
        clear hf
        skip
        obtain ⟨x, hx⟩ : ∃ x, x = (bs.drop (5 + k)).getD 0 0 := ⟨_, rfl⟩
        have hx2 : x = (bs.drop 5).getD k 0 := by rw [hx]; simp [List.getD]
        have hx256 : x < 256 := by
          rw [hx2]; exact getD_lt (fun y hy => HBB.out y (List.mem_of_mem_drop hy)) k
        have htk : intsN ((bs.drop 5).take (k + 1)) = intsN ((bs.drop 5).take k) ++ [(x : Int)] := by
          rw [take_snoc_getD _ k (by rw [hd5]; have := HF.out; omega), ← hx2]; simp [intsN]
        have htl : (intsN ((bs.drop 5).take k)).length = k := by
          unfold intsN; rw [List.length_map, List.length_take, hd5]; have := HF.out; omega
        have HTK := Lib.hid htk
        have hwx : IntKind.i64.wrap (x : Int) = (x : Int) := by rw [IntKind.wrap_i64]; omega
        have z1 := (five_at HI.out.sc).2.1
        have hsz : W.heap.size ≤ wr.heap.size := HI.out.inner.1
        have HCALL : Hid (Calls Try.prog 48 #[.pointer (some ⟨pr, 0, none⟩)] wr.drew fun e w1 => e = .returned (.int .u8 (x : Int)) ∧ TkI w W p pr pg #[.int .u32 (sq : Int), .slice va vn vc, .int .i64 0, .int .i64 0, .int .i64 0] #[.int .i64 (n : Int), .int .i64 0, .int .i64 0, .int .i64 0] false w1 (bs.drop (5 + (k + 1))) ∧ RdB W.heap.size w1 pr pg (bs.drop (5 + (k + 1))) ∧ OwnI W.heap.size w1 (.slice va vn vc) (intsN ((bs.drop 5).take k))) := Lib.hid (by
          obtain ⟨a5, c5, h5, h6⟩ := HR.out
          have hId := HI.out.step hpp (y := wr.drew) (Below.refl _ _).drew
          have h5d := rd_below h5 (w' := wr.drew) (Below.refl _ _).drew
          refine (rU8_okR h5d (by rw [List.length_drop]; have := HF.out; omega)).mono ?_
          rintro e w1 ⟨a2, he, hw1, hrd, hrel2⟩
          have hnum : NumRet wr.drew pr pg c5 (bs.drop (5 + k)) 1 (.int .u8 (((bs.drop (5 + k)).getD 0 0 : Nat) : Int)) e w1 := ⟨a2, he, hw1, hrd⟩
          obtain ⟨he2, hJ, _, _, _⟩ := hId.num hpp hnum
          rw [List.drop_drop] at hJ hrd
          rw [show 5 + k + 1 = 5 + (k + 1) by omega] at hJ hrd
          refine ⟨by rw [he2, ← hx], hJ, ⟨a2, _, hrd, fun z hz => ?_⟩, ?_⟩
          · obtain ⟨z', hz', e'⟩ := hrel2 z hz
            rw [e']; exact h6 _ hz'
          · rw [hw1]
            exact ownsRow_setCell_below (a := ⟨pr, 0, none⟩) (ownI_below HO.out (Below.refl _ _).drew) HPW.out _)
        have HTL := Lib.hid htl
        clear hx hx2 hx256 htk
        go_upto_region 4 with fail
        go_region_law (first
          | (go_simp; go_at_call 48; ((with_reducible refine HCALL.out.mono ?_)); (intro e w1 hr; obtain ⟨rfl, hJ, hRB, hO1⟩ := hr; have HJ := Lib.hid hJ; have HRB := Lib.hid hRB; have HO1 := Lib.hid hO1; have z1 := (five_at hJ.sc).2.1; have z1a := cell_step z1 (bel_alloc (Below.refl _ w1) (.cells #[.int .i64 (x : Int)] 3)); have hs1 : W.heap.size ≤ w1.heap.size := hJ.inner.1; have hown : (w1.alloc (.cells #[.int .i64 (x : Int)] 3)).ownsRow W.heap.size 3 1 (.slice va vn vc) k (valz (intsN ((bs.drop 5).take k))) := (by have := ownI_below HO1.out (bel_alloc (Below.refl _ _) (.cells #[.int .i64 (x : Int)] 3)); unfold OwnI at this; rw [HTL.out] at this; exact this); clear hJ hRB hO1))
          | (refine step_append_lies _ (by rfl) _ _ _ (by rfl) W.heap.size 3 i0 _ 1 8 Try.underlying29 hi hz0 hz1 hz2 rfl (by decide) _ k _ (by rfl) hown ⟨w1.heap.size, 0, none⟩ 1 1 [.int .i64 (x : Int)] (by rfl) (by rfl) (World.news_of_block (cs := #[.int .i64 (x : Int)]) (t := 3) (fr := (0, 0)) (heap_alloc_new w1 _)) (by simp [Value.oneCell']) (by omega) (by unfold maxLen; omega) (by omega) (by simp; omega) (w1.heap.size + 1) (by simp) ?_; intro g2 c2 w5 hown1 hgrow hat hlt3; have hb5 : Below W.heap.size w1 w5 := (bel_alloc (Below.refl _ _) _ |>.mono hs1).trans ((Below.refl W.heap.size _).grown hgrow (by simp; omega) (fun q hq => (hown.lt q hq).1)); have h5 := HJ.out.low hpp HPW.out HRB.out hb5; have H5 := Lib.hid h5; have z1 := (five_at h5.1.sc).2.1; have zf := mfree_at h5.1.sc 1; clear h5 hgrow hat))
        all_goals
          have hpW : p < W.heap.size := by have := HPW.out; omega
          have hN : Hid (OwnI W.heap.size (w5.setCell ⟨p, 1, none⟩ (.slice (some ⟨g2, 0, none⟩) (k + 1) c2)) (.slice (some ⟨g2, 0, none⟩) (k + 1) c2) (intsN ((bs.drop 5).take (k + 1))) ∧ TkI w W p pr pg #[.int .u32 (sq : Int), .slice (some ⟨g2, 0, none⟩) (k + 1) c2, .int .i64 0, .int .i64 0, .int .i64 0] #[.int .i64 (n : Int), .int .i64 0, .int .i64 0, .int .i64 0] false (w5.setCell ⟨p, 1, none⟩ (.slice (some ⟨g2, 0, none⟩) (k + 1) c2)) (bs.drop (5 + (k + 1))) ∧ RdB W.heap.size (w5.setCell ⟨p, 1, none⟩ (.slice (some ⟨g2, 0, none⟩) (k + 1) c2)) pr pg (bs.drop (5 + (k + 1)))) := Lib.hid ⟨by
            unfold OwnI
            rw [HTK.out, List.length_append, HTL.out, show valz (intsN ((bs.drop 5).take k) ++ [(x : Int)]) = valz (intsN ((bs.drop 5).take k)) ++ [.int .i64 (x : Int)] by simp [valz]]
            exact ownsRow_setCell_below (a := ⟨p, 1, none⟩) hown1 hpW _, H5.out.1.setS hpp hp 1 _ _ rfl (by simp), by
            obtain ⟨a6, c6, q1, q2⟩ := H5.out.2
            exact ⟨a6, c6, rd_no8 q1 (by omega) (no8_cells H5.out.1.sc (by simp)) _, q2⟩⟩
          clear hown hown1 hlt3 hb5 z1 z1a zf hi hz0 hz1 hz2
          go_wp2_with fail
          go_roundw
          case rel => exact ⟨k + 1, _, ⟨by omega, by have := HF.out; omega⟩, by go_num, hN.out.1, hN.out.2.1, hN.out.2.2⟩
          case measure => simp [intOf]; omega
      · have z1 := (five_at HI.out.sc).2.1
        have HCALL : Hid (Calls Try.prog 48 #[.pointer (some ⟨pr, 0, none⟩)] wr.drew fun e w1 => e = .panicked (outChain pg) ∧ TkDead w W p pr pg e w1) := Lib.hid (by
          have hId := HI.out.step hpp (y := wr.drew) (Below.refl _ _).drew
          obtain ⟨a5, c5, h5⟩ := hId.rd
          refine (rU8_dies h5 (hId.rgd HG.out.1 HG.out.2.1 HG.out.2.2) (by rw [List.length_drop]; omega)).mono fun e w1 hd => ⟨hd.1, hId.dies hpp hp HG.out.2.1 hd⟩)
        clear hi hz0 hz1 hz2 hd5 hf HO HR
        go_upto_region 4 with fail
        refine wp_region_any (by kernel_rfl) ?_
        try (change wpAny _ _ _ _ _ _ _ (World.drew _))
        refine wpAny_take (i := 0) (v := .pointer (some ⟨p, 1, none⟩)) rfl (by kernel_rfl) (by kernel_rfl) (by kernel_rfl) (fun _ _ _ h => h) (Or.inl ⟨by rfl, by intro w; go_simp⟩) ?_
        refine wpAny_take (i := 2) (v := .pointer (some ⟨pr, 0, none⟩)) rfl (by kernel_rfl) (by kernel_rfl) (by kernel_rfl) (fun _ _ _ h => h) (Or.inl ⟨by rfl, by intro w; go_simp⟩) ?_
        simp only [Act.put, List.setIfInBounds_toArray]
        refine wpAny_ready (rs := [1, 3]) (by kernel_rfl) (by simp) (AllReady.cons rfl (fun K hK => ?_) (AllReady.cons rfl (fun K hK => ?_) AllReady.nil))
        · go_simp
          refine hK _ _ ?_
          clear hK K
          refine wpAny_ready (rs := [3]) (by kernel_rfl) (by simp) (AllReady.cons rfl (fun K hK => ?_) AllReady.nil)
          go_simp
          refine HCALL.out.mono ?_
          rintro e w1 ⟨rfl, hR⟩
          exact ⟨rfl, hR⟩
        · go_simp
          refine HCALL.out.mono ?_
          rintro e w1 ⟨rfl, hR⟩
          exact ⟨rfl, hR⟩
    · obtain rfl : k = n := by omega
      have t1 : decide (k < k) = false := by simp
      clear hi hz0 hz1 hz2 HR
      have HLN : Hid (bs.length < 14 + k) := Lib.hid (by have := HL.out; have := HNP.out; omega)
      clear hd5
      obtain ⟨ra6, rc6, hrd6⟩ := (HI.out).rd
      go_wp2_with fail
      by_cases hf : 5 + k + 1 ≤ bs.length
      case neg =>
        refine (rU8_dies hrd6 ((HI.out).rgd HG.out.1 HG.out.2.1 HG.out.2.2) (by rw [List.length_drop]; omega)).mono ?_
        intro e w1 hd
        have hR := (HI.out).dies hpp hp HG.out.2.1 hd
        have he := hd.1
        clear hd
        subst he
        exact ⟨rfl, hR⟩
      refine (rU8_ok hrd6 (by rw [List.length_drop]; omega)).mono ?_
      have HF6 := Lib.hid hf
      clear hf
      intro e w6 hn6
      obtain ⟨rfl, hI6, _, _, hown6⟩ := (HI.out).num hpp hn6
      have HO6 := Lib.hid (hown6 _ _ _ HPW.out HO.out)
      rw [List.drop_drop] at hI6
      obtain ⟨x0, hx0⟩ : ∃ x, x = (bs.drop (5 + k)).getD 0 0 := ⟨_, rfl⟩
      rw [← hx0]
      have HI6 := Lib.hid hI6
      have Hx0 := Lib.hid hx0
      have hlx0 : x0 < 256 := by rw [hx0]; exact getD_lt (fun y hy => HBB.out y (List.mem_of_mem_drop hy)) 0
      have qx0 : IntKind.i64.wrap (x0 : Int) = (x0 : Int) := by rw [IntKind.wrap_i64]; omega
      clear hrd6 hn6 hI6 hown6 hx0 hlx0
      obtain ⟨ra7, rc7, hrd7⟩ := (HI6.out).rd
      go_wp2_with fail
      by_cases hf : 5 + k + 1 + 1 ≤ bs.length
      case neg =>
        refine (rU8_dies hrd7 ((HI6.out).rgd HG.out.1 HG.out.2.1 HG.out.2.2) (by rw [List.length_drop]; omega)).mono ?_
        intro e w1 hd
        have hR := (HI6.out).dies hpp hp HG.out.2.1 hd
        have he := hd.1
        clear hd
        subst he
        exact ⟨rfl, hR⟩
      refine (rU8_ok hrd7 (by rw [List.length_drop]; omega)).mono ?_
      have HF7 := Lib.hid hf
      clear hf
      intro e w7 hn7
      obtain ⟨rfl, hI7, _, _, hown7⟩ := (HI6.out).num hpp hn7
      have HO7 := Lib.hid (hown7 _ _ _ HPW.out HO6.out)
      rw [List.drop_drop] at hI7
      obtain ⟨x1, hx1⟩ : ∃ x, x = (bs.drop (5 + k + 1)).getD 0 0 := ⟨_, rfl⟩
      rw [← hx1]
      have HI7 := Lib.hid hI7
      have Hx1 := Lib.hid hx1
      have hlx1 : x1 < 256 := by rw [hx1]; exact getD_lt (fun y hy => HBB.out y (List.mem_of_mem_drop hy)) 0
      have qx1 : IntKind.i64.wrap (x1 : Int) = (x1 : Int) := by rw [IntKind.wrap_i64]; omega
      clear hrd7 hn7 hI7 hown7 hx1 hlx1
      obtain ⟨ra8, rc8, hrd8⟩ := (HI7.out).rd
      go_wp2_with fail
      by_cases hf : 5 + k + 1 + 1 + 1 ≤ bs.length
      case neg =>
        refine (rU8_dies hrd8 ((HI7.out).rgd HG.out.1 HG.out.2.1 HG.out.2.2) (by rw [List.length_drop]; omega)).mono ?_
        intro e w1 hd
        have hR := (HI7.out).dies hpp hp HG.out.2.1 hd
        have he := hd.1
        clear hd
        subst he
        exact ⟨rfl, hR⟩
      refine (rU8_ok hrd8 (by rw [List.length_drop]; omega)).mono ?_
      have HF8 := Lib.hid hf
      clear hf
      intro e w8 hn8
      obtain ⟨rfl, hI8, _, _, hown8⟩ := (HI7.out).num hpp hn8
      have HO8 := Lib.hid (hown8 _ _ _ HPW.out HO7.out)
      rw [List.drop_drop] at hI8
      obtain ⟨x2, hx2⟩ : ∃ x, x = (bs.drop (5 + k + 1 + 1)).getD 0 0 := ⟨_, rfl⟩
      rw [← hx2]
      have HI8 := Lib.hid hI8
      have Hx2 := Lib.hid hx2
      have hlx2 : x2 < 256 := by rw [hx2]; exact getD_lt (fun y hy => HBB.out y (List.mem_of_mem_drop hy)) 0
      have qx2 : IntKind.i64.wrap (x2 : Int) = (x2 : Int) := by rw [IntKind.wrap_i64]; omega
      clear hrd8 hn8 hI8 hown8 hx2 hlx2
      have c9 := (five_at (HI8.out).sc).2.2.1
      have f9 := mfree_at (HI8.out).sc 2
      have HI9 := Lib.hid ((HI8.out).setS hpp hp 2 (.int .i64 (x0 : Int)) #[.int .u32 (sq : Int), .slice va vn vc, .int .i64 (x0 : Int), .int .i64 0, .int .i64 0] rfl (by simp))
      have HO9 := Lib.hid (ownsRow_setCell_below (a := ⟨p, 2, none⟩) HO8.out (by show p < _; have := HPW.out; omega) (.int .i64 (x0 : Int)))
      have c10 := (five_at (HI9.out).sc).2.2.2.1
      have f10 := mfree_at (HI9.out).sc 3
      have HI10 := Lib.hid ((HI9.out).setS hpp hp 3 (.int .i64 (x1 : Int)) #[.int .u32 (sq : Int), .slice va vn vc, .int .i64 (x0 : Int), .int .i64 (x1 : Int), .int .i64 0] rfl (by simp))
      have HO10 := Lib.hid (ownsRow_setCell_below (a := ⟨p, 3, none⟩) HO9.out (by show p < _; have := HPW.out; omega) (.int .i64 (x1 : Int)))
      have c11 := (five_at (HI10.out).sc).2.2.2.2
      have f11 := mfree_at (HI10.out).sc 4
      have HI11 := Lib.hid ((HI10.out).setS hpp hp 4 (.int .i64 (x2 : Int)) #[.int .u32 (sq : Int), .slice va vn vc, .int .i64 (x0 : Int), .int .i64 (x1 : Int), .int .i64 (x2 : Int)] rfl (by simp))
      have HO11 := Lib.hid (ownsRow_setCell_below (a := ⟨p, 4, none⟩) HO10.out (by show p < _; have := HPW.out; omega) (.int .i64 (x2 : Int)))
      obtain ⟨ra12, rc12, hrd12⟩ := (HI11.out).rd
      go_wp2_with fail
      by_cases hf : 5 + k + 1 + 1 + 1 + 2 ≤ bs.length
      case neg =>
        refine (rU16_dies hrd12 ((HI11.out).rgd HG.out.1 HG.out.2.1 HG.out.2.2) (by rw [List.length_drop]; omega)).mono ?_
        intro e w1 hd
        have hR := (HI11.out).dies hpp hp HG.out.2.1 hd
        have he := hd.1
        clear hd
        subst he
        exact ⟨rfl, hR⟩
      refine (rU16_ok hrd12 (by rw [List.length_drop]; omega)).mono ?_
      have HF12 := Lib.hid hf
      clear hf
      intro e w12 hn12
      obtain ⟨rfl, hI12, _, _, hown12⟩ := (HI11.out).num hpp hn12
      have HO12 := Lib.hid (hown12 _ _ _ HPW.out HO11.out)
      rw [List.drop_drop] at hI12
      obtain ⟨y0, hy0⟩ : ∃ x, x = leVal ((bs.drop (5 + k + 1 + 1 + 1)).take 2) := ⟨_, rfl⟩
      rw [← hy0]
      have HI12 := Lib.hid hI12
      have Hy0 := Lib.hid hy0
      have hly0 : y0 < 65536 := by rw [hy0]; exact leVal_lt2 HBB.out _
      have qy0 : IntKind.i64.wrap (y0 : Int) = (y0 : Int) := by rw [IntKind.wrap_i64]; omega
      clear hrd12 hn12 hI12 hown12 hy0 hly0
      obtain ⟨ra13, rc13, hrd13⟩ := (HI12.out).rd
      go_wp2_with fail
      by_cases hf : 5 + k + 1 + 1 + 1 + 2 + 2 ≤ bs.length
      case neg =>
        refine (rU16_dies hrd13 ((HI12.out).rgd HG.out.1 HG.out.2.1 HG.out.2.2) (by rw [List.length_drop]; omega)).mono ?_
        intro e w1 hd
        have hR := (HI12.out).dies hpp hp HG.out.2.1 hd
        have he := hd.1
        clear hd
        subst he
        exact ⟨rfl, hR⟩
      refine (rU16_ok hrd13 (by rw [List.length_drop]; omega)).mono ?_
      have HF13 := Lib.hid hf
      clear hf
      intro e w13 hn13
      obtain ⟨rfl, hI13, _, _, hown13⟩ := (HI12.out).num hpp hn13
      have HO13 := Lib.hid (hown13 _ _ _ HPW.out HO12.out)
      rw [List.drop_drop] at hI13
      obtain ⟨y1, hy1⟩ : ∃ x, x = leVal ((bs.drop (5 + k + 1 + 1 + 1 + 2)).take 2) := ⟨_, rfl⟩
      rw [← hy1]
      have HI13 := Lib.hid hI13
      have Hy1 := Lib.hid hy1
      have hly1 : y1 < 65536 := by rw [hy1]; exact leVal_lt2 HBB.out _
      have qy1 : IntKind.i64.wrap (y1 : Int) = (y1 : Int) := by rw [IntKind.wrap_i64]; omega
      clear hrd13 hn13 hI13 hown13 hy1 hly1
      obtain ⟨ra14, rc14, hrd14⟩ := (HI13.out).rd
      go_wp2_with fail
      have hf : ¬ (5 + k + 1 + 1 + 1 + 2 + 2 + 2 ≤ bs.length) := by have := HLN.out; omega
      refine (rU16_dies hrd14 ((HI13.out).rgd HG.out.1 HG.out.2.1 HG.out.2.2) (by rw [List.length_drop]; omega)).mono ?_
      intro e w1 hd
      have hR := (HI13.out).dies hpp hp HG.out.2.1 hd
      have he := hd.1
      clear hd
      subst he
      exact ⟨rfl, hR⟩
def MemTakeOut (w : World) (e : Ending) (w' : World) : Prop :=
  ∃ (s0 s1 s2 s3 g0 g1 g2 g3 : Int) (va : Option Addr) (vn vc : Nat), e = .returned (.tuple #[.agg #[.int .u32 s0, .slice va vn vc, .int .i64 s1, .int .i64 s2, .int .i64 s3], .agg #[.int .i64 g0, .int .i64 g1, .int .i64 g2, .int .i64 g3], .bool false]) ∧ Below w.heap.size w w'
set_option maxRecDepth 100000 in
set_option maxHeartbeats 2000000 in
theorem memTake_out (a : Option Addr) (len cap : Nat) (bs : List Nat) (w : World) (hr : Row w a len bs) (hn : a = none → cap = 0) (hl : bs.length < 14 + nP bs) (h6 : 6 ≤ bs.length) (hl2 : bs.length ≤ 1000) :
    Calls Try.prog 25 #[.slice a len cap] w (MemTakeOut w) := by
  have hmf : ∀ (fn : Fn) (first cap : Array Value) (w : World), (Instr.makeFunc fn first cap).run Try.prog w = .ok (.func fn first cap) w := fun _ _ _ _ => rfl
  go_enter Try.func25, Try.ntmps25
  go_wp2_with fail
  obtain ⟨wr, hwr⟩ : ∃ wr, wr = ((w.alloc (.cells #[.int .u32 0, .slice none 0 0, .int .i64 0, .int .i64 0, .int .i64 0] 31)).alloc (.cells #[.int .i64 0, .int .i64 0, .int .i64 0, .int .i64 0] 27)).alloc (.cells #[.bool false] 4) := ⟨_, rfl⟩
  have hs : wr.heap.size = w.heap.size + 3 := by rw [hwr]; simp
  have hb : Below w.heap.size w wr := by rw [hwr]; exact bel_alloc (bel_alloc (bel_alloc (Below.refl _ w) _) _) _
  have h0 : wr.heap[w.heap.size]? = some (.cells #[.int .u32 0, .slice none 0 0, .int .i64 0, .int .i64 0, .int .i64 0] 31 (0, 0)) := by
    rw [hwr, heap_alloc_oldm (by simp; omega), heap_alloc_oldm (by simp)]; exact heap_alloc_new w _
  have h1 : wr.heap[w.heap.size + 1]? = some (.cells #[.int .i64 0, .int .i64 0, .int .i64 0, .int .i64 0] 27 (0, 0)) := by
    rw [hwr, heap_alloc_oldm (by simp)]
    have := heap_alloc_new (w.alloc (.cells #[.int .u32 0, .slice none 0 0, .int .i64 0, .int .i64 0, .int .i64 0] 31)) (.cells #[.int .i64 0, .int .i64 0, .int .i64 0, .int .i64 0] 27)
    simpa using this
  have h2 : wr.heap[w.heap.size + 2]? = some (.cells #[.bool false] 4 (0, 0)) := by
    rw [hwr]
    have := heap_alloc_new ((w.alloc (.cells #[.int .u32 0, .slice none 0 0, .int .i64 0, .int .i64 0, .int .i64 0] 31)).alloc (.cells #[.int .i64 0, .int .i64 0, .int .i64 0, .int .i64 0] 27)) (.cells #[.bool false] 4)
    simpa using this
  rw [← hwr]
  have hrw := row_keep hr hb (Nat.le_refl _)
  have HS := Lib.hid hs
  have HB := Lib.hid hb
  have hll : bs.length = len := hr.1
  clear hwr hs hr hb
  have hcall : ∀ (args : Array Value) (wx : World), (callFunc 46 args).run Try.prog wx = .ok (.enter 46 args) wx := fun args wx => by simp [go_sem]
  have hby : ByDies 46 #[.pointer (some ⟨w.heap.size, 0, none⟩), .pointer (some ⟨w.heap.size + 1, 0, none⟩), .pointer (some ⟨w.heap.size + 1 + 1, 0, none⟩)] bs wr (fun W' => TkD w.heap.size W' ∧ Below w.heap.size wr W') := by
    intro W pr pg a' c hrd hrg hb hpr hpg
    exact memTakeByD wr W w.heap.size pr pg c a' bs hl h6 hl2 HS.out hrd hrg hb hpr hpg h0 h1 h2
  have hrok := read_dies a len cap bs _ _ wr _ hrw hn (by omega) hcall hby
  with_reducible refine hrok.mono ?_
  rintro e w7 ⟨rfl, W2, ⟨⟨⟨s0, s1, s2, s3, va, vn, vc, hq0⟩, ⟨g0', g1', g2', g3', hq1⟩, hq2⟩, hqb⟩, hb57, hk57⟩
  have hb07 : Below w.heap.size w w7 := HB.out.trans ((hqb.mono (Nat.le_refl _)).trans (hb57.mono (by have := HS.out; omega)))
  have hs0 : w7.heap[w.heap.size]? = some (.cells #[.int .u32 s0, .slice va vn vc, .int .i64 s1, .int .i64 s2, .int .i64 s3] 31 (0, 0)) := by rw [hb57.block _ (by have := HS.out; omega)]; exact hq0
  have hs1 : w7.heap[w.heap.size + 1]? = some (.cells #[.int .i64 g0', .int .i64 g1', .int .i64 g2', .int .i64 g3'] 27 (0, 0)) := by rw [hb57.block _ (by have := HS.out; omega)]; exact hq1
  have hs2 : w7.heap[w.heap.size + 1 + 1]? = some (.cells #[.bool false] 4 (0, 0)) := by rw [hb57.block _ (by have := HS.out; omega)]; exact hq2
  have HB7 := Lib.hid hb07
  clear hrok hby hcall hq0 hq1 hq2 hqb hb57 hk57 h0 h1 h2 hrw hb07
  obtain ⟨p, hp⟩ : ∃ p, p = w.heap.size := ⟨_, rfl⟩
  rw [← hp] at hs0 hs1 hs2 HB7 ⊢
  have HPP := Lib.hid hp
  clear hp
  obtain ⟨c0, c1, c2, c3, c4⟩ := five_at hs0
  obtain ⟨d0, d1, d2, d3⟩ := mfour_at hs1
  have k0 := cell_of_heap1 hs2
  have fs := mfree_at hs0
  have fg := mfree_at hs1
  have fk := mfree_at hs2 0
  have f0 := fs 0
  have f1 := fs 1
  have f2 := fs 2
  have f3 := fs 3
  have f4 := fs 4
  have g0 := fg 0
  have g1 := fg 1
  have g2 := fg 2
  have g3 := fg 3
  clear fs fg
  clear hs0 hs1 hs2 hn hl h6 hl2 hmf
  go_upto_region 2 with fail
  go_region
  go_wp2_with fail
  refine bodyPost_ret (v := .tuple #[.agg #[.int .u32 s0, .slice va vn vc, .int .i64 s1, .int .i64 s2, .int .i64 s3], .agg #[.int .i64 g0', .int .i64 g1', .int .i64 g2', .int .i64 g3'], .bool false]) ?_ rfl ⟨s0, s1, s2, s3, g0', g1', g2', g3', va, vn, vc, rfl, ?_⟩
  · simp [results, Try.results25, go_sem, c0, c1, c2, c3, c4, d0, d1, d2, d3, k0]
  · rw [← HPP.out]
    exact ((Below.setCell (p := ⟨p + 1 + 1, 0, none⟩) (Below.setCell (p := ⟨p + 1, 3, none⟩) (Below.setCell (p := ⟨p + 1, 2, none⟩) (Below.setCell (p := ⟨p + 1, 1, none⟩) (Below.setCell (p := ⟨p + 1, 0, none⟩) (Below.setCell (p := ⟨p, 4, none⟩) (Below.setCell (p := ⟨p, 3, none⟩) (Below.setCell (p := ⟨p, 2, none⟩) (Below.setCell (p := ⟨p, 1, none⟩) (Below.setCell (p := ⟨p, 0, none⟩) HB7.out (by show p ≤ p; omega) _) (by show p ≤ p; omega) _) (by show p ≤ p; omega) _) (by show p ≤ p; omega) _) (by show p ≤ p; omega) _) (by show p ≤ p + 1; omega) _) (by show p ≤ p + 1; omega) _) (by show p ≤ p + 1; omega) _) (by show p ≤ p + 1; omega) _) (by show p ≤ p + 1 + 1; omega) _)).drew
end Go.Proofs.Ytdljihemnfpkaaa
