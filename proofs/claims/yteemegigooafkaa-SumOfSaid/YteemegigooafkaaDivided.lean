/- The contract of gabionref02.Divided: the division of bits gives the sum. -/
import Derived.Test.YteemegigooafkaaAppend
import Derived.Test.YteemegigooafkaaBits
namespace Go.Proofs.Yteemegigooafkaa
open Go.RowKit

def i64v (x : Nat) : Value := .int .i64 (x : Int)
def OwnI (B : Nat) (w : World) (sv : Value) (l : List Nat) : Prop := w.ownsRow B 3 1 sv l.length (l.map i64v)
theorem info_i64 : (Try.prog.info? 3).map (fun i => (i.zero, i.size, i.bytes)) = some (some (.int .i64 0), 1, 8) := by kernel_rfl
theorem ownI_nil (B : Nat) (w : World) : OwnI B w (.slice none 0 0) [] := World.ownsRow_nil w B _ 1
theorem ownI_alloc {B : Nat} {w : World} {sv : Value} {l : List Nat} (h : OwnI B w sv l) (o : Obj) : OwnI B (w.alloc o) sv l := h.alloc o
theorem wpList_appI {w : World} {ops : Array Oper} {rest : List Oper} {o : Oper} {a : Act} {Q : Exit → Act → World → Prop} (hgd : o.guard = none) (s x : Operand)
    (ho : o.op = .call { callee := .builtin .append, args := #[s, x], argTypes := #[49, 49] })
    (B : Nat) (sv : Value) (l : List Nat) (hs : a.eval s = sv) (hown : OwnI B w sv l) (g : Nat) (c y : Nat) (hx : a.eval x = .slice (some ⟨g, 0, none⟩) 1 c)
    (hc : w.cell? ⟨g, 0, none⟩ = some (i64v y)) (hB : B ≤ w.heap.size) (hlen : l.length ≤ 100000)
    (h : ∀ v' w', OwnI B w' v' (l ++ [y]) → Below B w w' → wpList Try.prog ops Q rest (a.put o.dst v') w') : wpList Try.prog ops Q (o :: rest) a w := by
  obtain ⟨i0, hi, hz0, hz1, hz2⟩ := info_parts info_i64
  refine wpList_append_own w hgd s x 49 ho B 3 i0 (.int .i64 0) 1 8 Try.underlying49 hi hz0 hz1 hz2 rfl (by decide) sv _ _ hs hown ⟨g, 0, none⟩ 1 c [i64v y] hx rfl ?_ ?_ (by unfold maxLen; omega) (by omega) hB ?_
  · intro j u hj
    match j, hj with
    | 0, hj =>
      simp at hj
      rw [← hj]
      simpa [Addr.add] using hc
    | j + 1, hj => simp at hj
  · intro u hu
    simp at hu
    rw [hu]; rfl
  · intro v' w' h2 h3 _
    refine h v' w' ?_ ((Below.refl B w).grown h3 hB (fun k hk => (hown.lt k hk).1))
    unfold OwnI
    rw [List.map_append, List.length_append]; exact h2

theorem half_step (x j : Nat) : ((x / 2 ^ j : Nat) : Int) / 2 = ((x / 2 ^ (j + 1) : Nat) : Int) := by
  rw [Nat.pow_succ, ← Nat.div_div_eq_div_mul]; omega

/-- A row of numbers at a known place. -/
def OwnN (B : Nat) (w : World) (g n cap : Nat) (l : List Nat) : Prop := w.ownsRow B 3 1 (.slice (some ⟨g, 0, none⟩) n cap) n (l.map i64v) ∧ l.length = n
theorem ownN_of {B : Nat} {w : World} {sv : Value} {l : List Nat} (h : OwnI B w sv l) (h0 : 0 < l.length) : ∃ g cap, sv = .slice (some ⟨g, 0, none⟩) l.length cap ∧ B ≤ g ∧ g < w.heap.size ∧ OwnN B w g l.length cap l := by
  have hlt := h.lt
  have h' := h
  unfold OwnI at h'
  rcases h.2 with ⟨_, h2⟩ | ⟨g, cap, cur, rfl, hb, _⟩
  · omega
  · have := hlt g rfl
    exact ⟨g, cap, rfl, hb, this.2, h', rfl⟩
theorem ownN_cell {B : Nat} {w : World} {g n cap : Nat} {l : List Nat} (h : OwnN B w g n cap l) (j : Nat) (hj : j < n) : w.cell? ⟨g, j, none⟩ = some (.int .i64 ((l.getD j 0 : Nat) : Int)) := by
  have hl := h.2
  rw [h.1.cellAt j (by omega), List.getElem?_map, List.getElem?_eq_getElem (by omega), getD_in _ _ (by omega)]
  rfl
theorem ownN_set {B : Nat} {w : World} {g n cap : Nat} {l : List Nat} (h : OwnN B w g n cap l) (j y : Nat) : OwnN B (w.setCell ⟨g, j, none⟩ (.int .i64 (y : Int))) g n cap (l.set j y) := by
  refine ⟨?_, by rw [List.length_set]; exact h.2⟩
  rw [List.map_set]
  exact (h.1.stored j (i64v y)).1
theorem ones_step (j : Nat) : (2 ^ j - 1) ^^^ 2 ^ j = 2 ^ (j + 1) - 1 := by
  have h1 := Nat.two_pow_pos j
  have h := Crc.low_add j (2 ^ j - 1) 1 (by omega)
  rw [Nat.mul_one] at h
  rw [← h, Nat.pow_succ]; omega
theorem flip_val {v j : Nat} {L : List Nat} (hj : j < L.length) (h : ∀ x ∈ L, x ≤ 1) (hv : Crc.val2 L = v ^^^ (2 ^ j - 1)) : Crc.val2 (L.set j (1 - L.getD j 0)) = v ^^^ (2 ^ (j + 1) - 1) := by
  rw [Crc.val2_set L j hj h, hv, Nat.xor_assoc, ones_step]

theorem ownN_mono {B B' : Nat} {w : World} {g n cap : Nat} {l : List Nat} (h : OwnN B w g n cap l) (hB : B' ≤ B) : OwnN B' w g n cap l := by
  refine ⟨⟨h.1.1, ?_⟩, h.2⟩
  rcases h.1.2 with h0 | ⟨g', cap', cur, h1, h2, h3⟩
  · exact .inl h0
  · exact .inr ⟨g', cap', cur, h1, Nat.le_trans hB h2, h3⟩
theorem ownN_below {B C : Nat} {w w' : World} {g n cap : Nat} {l : List Nat} (h : OwnN B w g n cap l) (hb : Below C w w') (hg : g < C) : OwnN B w' g n cap l := by
  refine ⟨⟨h.1.1, ?_⟩, h.2⟩
  rcases h.1.2 with h0 | ⟨g', cap', cur, h1, h2, h3, h4⟩
  · exact .inl h0
  · refine .inr ⟨g', cap', cur, h1, h2, ?_, h4⟩
    have e : g' = g := by cases h1; rfl
    subst e
    rw [hb.block g' hg]; exact h3
theorem ownN_other {B : Nat} {w : World} {g n cap : Nat} {l : List Nat} (h : OwnN B w g n cap l) (g2 j : Nat) (u : Value) (hne : g ≠ g2) : OwnN B (w.setCell ⟨g2, j, none⟩ u) g n cap l := by
  refine ⟨⟨h.1.1, ?_⟩, h.2⟩
  rcases h.1.2 with h0 | ⟨g', cap', cur, h1, h2, h3, h4⟩
  · exact .inl h0
  · refine .inr ⟨g', cap', cur, h1, h2, ?_, h4⟩
    have e : g' = g := by cases h1; rfl
    subst e
    rw [Below.heap_setCell w ⟨g2, j, none⟩ u g' hne]; exact h3
def polyN : Nat := 2197175160
theorem polyN_le : polyN < 4294967296 := by unfold polyN; omega

theorem comp_lt {L : List Nat} {n q : Nat} (hq : q < 32) (h : ∀ x ∈ L, x ≤ 1) (hn : L.length = n) : Crc.comp (L.drop (n - q)) < 2147483648 := by
  have h1 := Crc.comp_add (L.drop (n - q)) (fun x hx => h x (List.mem_of_mem_drop hx))
  have h2 : (L.drop (n - q)).length ≤ 31 := by rw [List.length_drop]; omega
  have h3 : 2 ^ (L.drop (n - q)).length ≤ 2 ^ 31 := Nat.pow_le_pow_right (by omega) h2
  omega
theorem comp_step (L : List Nat) (n q : Nat) (h : q < n) (hn : L.length = n) : Crc.comp (L.drop (n - (q + 1))) = (1 - L.getD (n - 1 - q) 0) + 2 * Crc.comp (L.drop (n - q)) := by
  rw [show n - (q + 1) = n - 1 - q by omega, Crc.drop_getD L (n - 1 - q) (by omega), Crc.comp_cons, show n - 1 - q + 1 = n - q by omega]

set_option maxRecDepth 100000 in
set_option maxHeartbeats 1000000 in
theorem divided_any (a : Option Addr) (len cap : Nat) (bs : List Nat) (w : World) (hr : Row w a len bs) (hl : len ≤ 150) :
    Calls Try.prog 48 #[.slice a len cap] w fun e w' => e = .returned (.int .u32 ((Crc.of bs : Nat) : Int)) ∧ Below w.heap.size w w' := by
  obtain ⟨hlen, hby, hrow⟩ := hr
  go_enter Try.func48, Try.ntmps48
  go_wp2
  go_loopw [3, 4] (fun lv i wr => ∃ k : Nat, k ≤ len ∧ i = .int .i64 k ∧ OwnI w.heap.size wr lv (Crc.bitsOf (bs.take k)) ∧ Below w.heap.size w wr) (fun _ i _ => len - (intOf i).toNat)
  case atStart => exact ⟨0, by omega, rfl, ownI_nil _ _, Below.refl _ _⟩
  case round =>
    obtain ⟨k, hk, rfl, hown, hbel⟩ := hrel
    by_cases hlt : k < len
    · obtain ⟨b, off, ha, hc⟩ := hrow (by omega)
      have hbl := getD_lt hby k
      have hblk : b < w.heap.size := World.block_lt_of_cell? w ⟨b, off + k, none⟩ (hc k hlt)
      have hck : wr.cell? ⟨b, off + k, none⟩ = some (.int .u8 ((bs.getD k 0 : Nat) : Int)) := by rw [hbel.cell (p := ⟨b, off + k, none⟩) hblk]; exact hc k hlt
      have HT := Lib.hid (take_snoc_getD bs k (by omega))
      obtain ⟨x, hx⟩ : ∃ x, x = bs.getD k 0 := ⟨_, rfl⟩
      rw [← hx] at hck hbl
      have HX := Lib.hid hx
      have HA := Lib.hid ha
      have hlk : (Crc.bitsOf (bs.take k)).length ≤ 1200 := by rw [Crc.bitsOf_len, List.length_take]; omega
      clear hx ha hc hrow
      rw [HA.out]
      go_wp2
      obtain ⟨wo, hwo⟩ : ∃ wo : World, wo = wr := ⟨_, rfl⟩
      rw [← hwo] at hown hbel hck ⊢
      clear hwo
      go_loopw [3, 5, 6] (fun lv c i wr => ∃ j : Nat, j ≤ 8 ∧ i = .int .i64 j ∧ c = .int .i64 ((x / 2 ^ j : Nat) : Int) ∧ OwnI w.heap.size wr lv (Crc.bitsOf (bs.take k) ++ Crc.nbits j x) ∧ Below w.heap.size w wr) (fun _ _ i _ => 8 - (intOf i).toNat)
      case atStart => exact ⟨0, by omega, rfl, by simp, by rw [show Crc.nbits 0 x = [] from rfl, List.append_nil]; exact hown, hbel⟩
      case round =>
        obtain ⟨j, hj, rfl, rfl, hown2, hbel2⟩ := hrel
        by_cases hlj : j < 8
        · have hle : (Crc.bitsOf (bs.take k) ++ Crc.nbits j x).length ≤ 2000 := by rw [List.length_append, Crc.nbits_len]; omega
          have HS := Lib.hid (Crc.nbits_snoc j x)
          have HH := Lib.hid (half_step x j)
          have hq : x / 2 ^ j < 256 := Nat.lt_of_le_of_lt (Nat.div_le_self _ _) hbl
          generalize hqq : x / 2 ^ j = q at *
          have HQ := Lib.hid hqq
          clear hqq
          go_wp2_with (at_builtin; refine wpList_appI rfl _ _ rfl w.heap.size _ _ rfl (ownI_alloc hown2 _) wr.heap.size 1 (q % 2) rfl ?c1 ?c2 ?c3 ?_)
          case c1 => exact cell_new1 _ _ _
          case c2 => have := hbel2.size; simp; omega
          case c3 => omega
          intro v1 w1 hap hb1
          clear hown2
          go_wp2
          go_roundw
          case rel => exact ⟨j + 1, by omega, by go_num, by rw [← HH.out], by rw [HS.out]; exact hap, (hbel2.alloc hbel2.size _).trans hb1⟩
          case measure => simp [intOf]; omega
        · obtain rfl : j = 8 := by omega
          have HB := Lib.hid (show Crc.bitsOf (bs.take (k + 1)) = Crc.bitsOf (bs.take k) ++ Crc.nbits 8 x by rw [HT.out, ← HX.out, Crc.bitsOf_snoc])
          clear hown hbel hck
          go_wp2
          go_roundw
          case rel => exact ⟨k + 1, by omega, by go_num, by rw [HB.out]; exact hown2, hbel2⟩
          case measure => simp [intOf]; omega
    · obtain rfl : k = len := by omega
      have hn : bs.take k = bs := by rw [← hlen, List.take_length]
      rw [hn] at hown
      clear hn hrow
      go_wp2
      obtain ⟨wo, hwo⟩ : ∃ wo : World, wo = wr := ⟨_, rfl⟩
      rw [← hwo] at hown hbel ⊢
      clear hwo
      go_loopw [3, 7] (fun lv i wr => ∃ j : Nat, j ≤ 32 ∧ i = .int .i64 j ∧ OwnI w.heap.size wr lv (Crc.bitsOf bs ++ List.replicate j 0) ∧ Below w.heap.size w wr) (fun _ i _ => 32 - (intOf i).toNat)
      case atStart => exact ⟨0, by omega, rfl, by rw [List.replicate_zero, List.append_nil]; exact hown, hbel⟩
      case round =>
        obtain ⟨j, hj, rfl, hown2, hbel2⟩ := hrel
        clear hown hbel
        by_cases hlj : j < 32
        · have hle : (Crc.bitsOf bs ++ List.replicate j 0).length ≤ 2000 := by rw [List.length_append, Crc.bitsOf_len, List.length_replicate]; omega
          go_wp2_with (at_builtin; refine wpList_appI rfl _ _ rfl w.heap.size _ _ rfl (ownI_alloc hown2 _) wr.heap.size 1 0 rfl ?c1 ?c2 ?c3 ?_)
          case c1 => exact cell_new1 _ _ _
          case c2 => have := hbel2.size; simp; omega
          case c3 => omega
          intro v1 w1 hap hb1
          clear hown2
          go_wp2
          go_roundw
          case rel => exact ⟨j + 1, by omega, by go_num, by rw [List.replicate_succ']; exact hap, (hbel2.alloc hbel2.size _).trans hb1⟩
          case measure => simp [intOf]; omega
        · have hj32 : j = 32 := by omega
          rw [hj32] at hown2
          clear hj32
          obtain ⟨g, lcap, hlv, hBg, hgs, hN⟩ := ownN_of hown2 (by simp)
          have hL1 : ∀ x ∈ Crc.bitsOf bs ++ List.replicate 32 0, x ≤ 1 := by
            intro x hx
            rw [List.mem_append] at hx
            rcases hx with hx | hx
            · exact Crc.bitsOf_le bs x hx
            · rw [List.eq_of_mem_replicate hx]; omega
          have hV0 : Crc.val2 (Crc.bitsOf bs ++ List.replicate 32 0) = Crc.val bs ^^^ (2 ^ 0 - 1) := by
            rw [Crc.val2_append, Crc.val2_bitsOf bs hby, Crc.val2_zeros]; simp
          have hNl : (Crc.bitsOf bs ++ List.replicate 32 0).length = 8 * k + 32 := by rw [List.length_append, Crc.bitsOf_len, List.length_replicate, hlen]
          rw [hNl] at hlv hN
          obtain ⟨n, hn⟩ : ∃ n, n = 8 * k + 32 := ⟨_, rfl⟩
          rw [← hn] at hlv hN
          subst hlv
          have hn32 : 32 ≤ n := by omega
          have hn2 : n ≤ 2000 := by omega
          have HNl := Lib.hid hNl
          have HNN := Lib.hid hn
          have HV0 := Lib.hid hV0
          have HLEN := Lib.hid hlen
          clear hown2 hn hNl hV0 hlen
          go_wp2
          obtain ⟨wo, hwo⟩ : ∃ wo : World, wo = wr := ⟨_, rfl⟩
          rw [← hwo] at hN hbel2 hgs ⊢
          clear hwo
          go_loopw [8] (fun i wr => ∃ (j : Nat) (L : List Nat), j ≤ 32 ∧ i = .int .i64 j ∧ OwnN w.heap.size wr g n lcap L ∧ (∀ x ∈ L, x ≤ 1) ∧ Hid (Crc.val2 L = Crc.val bs ^^^ (2 ^ j - 1)) ∧ Below w.heap.size w wr ∧ g < wr.heap.size) (fun i _ => 32 - (intOf i).toNat)
          case atStart => exact ⟨0, _, by omega, rfl, hN, hL1, HV0, hbel2, hgs⟩
          case round =>
            obtain ⟨j, L, hj, rfl, hN3, hL3, HV3, hbel3, hgs3⟩ := hrel
            clear hN hL1 HV0 hbel2 hgs
            by_cases hlj : j < 32
            · have hcj := ownN_cell hN3 j (by omega)
              have hfj := hN3.1.frozenAt j
              have hyle := Crc.getD_le L j hL3
              obtain ⟨y, hy⟩ : ∃ y, y = L.getD j 0 := ⟨_, rfl⟩
              rw [← hy] at hcj hyle
              have HST := Lib.hid (flip_val (by have := hN3.2; omega) hL3 HV3.out)
              rw [← hy] at HST
              clear hy
              go_wp2
              go_roundw
              case rel => exact ⟨j + 1, L.set j (1 - y), by omega, by go_num, by have h := ownN_set hN3 j (1 - y); rw [show ((1 - y : Nat) : Int) = 1 - (y : Int) by omega] at h; exact h, Crc.set_le _ _ _ hL3 (by omega), HST, hbel3.setCell hBg _, by simpa using hgs3⟩
              case measure => simp [intOf]; omega
            · have hj32 : j = 32 := by omega
              rw [hj32] at HV3
              clear hj32
              have HP0 : Hid (Value.int .i64 2197175160 = Value.int .i64 ((polyN / 2 ^ 0 : Nat) : Int)) := rfl
              go_wp2
              obtain ⟨wo, hwo⟩ : ∃ wo : World, wo = wr := ⟨_, rfl⟩
              rw [← hwo] at hN3 hbel3 hgs3 ⊢
              clear hwo
              go_loopw [9, 10, 11] (fun pv c i wr => ∃ j : Nat, j ≤ 32 ∧ i = .int .i64 j ∧ c = .int .i64 ((polyN / 2 ^ j : Nat) : Int) ∧ OwnI wo.heap.size wr pv (Crc.nbits j polyN) ∧ Below wo.heap.size wo wr) (fun _ _ i _ => 32 - (intOf i).toNat)
              case atStart => exact ⟨0, by omega, rfl, HP0, ownI_nil _ _, Below.refl _ _⟩
              case round =>
                obtain ⟨j, hj, rfl, rfl, hown4, hbel4⟩ := hrel
                by_cases hlj : j < 32
                · have hle : (Crc.nbits j polyN).length ≤ 2000 := by rw [Crc.nbits_len]; omega
                  have HS := Lib.hid (Crc.nbits_snoc j polyN)
                  have HH := Lib.hid (half_step polyN j)
                  have hq : polyN / 2 ^ j < 4294967296 := Nat.lt_of_le_of_lt (Nat.div_le_self _ _) polyN_le
                  generalize hqq : polyN / 2 ^ j = q at *
                  have HQ := Lib.hid hqq
                  clear hqq
                  go_wp2_with (at_builtin; refine wpList_appI rfl _ _ rfl wo.heap.size _ _ rfl (ownI_alloc hown4 _) wr.heap.size 1 (q % 2) rfl ?c1 ?c2 ?c3 ?_)
                  case c1 => exact cell_new1 _ _ _
                  case c2 => have := hbel4.size; simp; omega
                  case c3 => omega
                  intro v1 w1 hap hb1
                  clear hown4
                  go_wp2
                  go_roundw
                  case rel => exact ⟨j + 1, by omega, by go_num, by rw [← HH.out], by rw [HS.out]; exact hap, (hbel4.alloc hbel4.size _).trans hb1⟩
                  case measure => simp [intOf]; omega
                · have hj32 : j = 32 := by omega
                  rw [hj32] at hown4
                  clear hj32
                  obtain ⟨pq, hpq⟩ : ∃ pq, pq = polyN / 2 ^ j := ⟨_, rfl⟩
                  rw [← hpq]
                  clear hpq
                  obtain ⟨gp, pcap, hpv, hBp, hgps, hP⟩ := ownN_of hown4 (by rw [Crc.nbits_len]; omega)
                  rw [Crc.nbits_len] at hpv hP
                  subst hpv
                  have hP := ownN_mono hP hbel3.size
                  have hN5 := ownN_below hN3 hbel4 hgs3
                  have hgne : gp ≠ g := by omega
                  have hbel5 : Below w.heap.size w wr := hbel3.trans (hbel4.mono hbel3.size)
                  have hgs5 : g < wr.heap.size := by have := hbel4.size; omega
                  clear hN3 hbel3 hgs3 hown4
                  have HV6 : Hid (Crc.val2 (L.drop 0) = Crc.stps 0 (Crc.val bs ^^^ 4294967295)) := HV3
                  go_wp2
                  obtain ⟨wo, hwo⟩ : ∃ wo : World, wo = wr := ⟨_, rfl⟩
                  rw [← hwo] at hN5 hbel5 hgs5 hP hgps ⊢
                  clear hwo
                  go_loopw [12] (fun i wr => ∃ (m : Nat) (L : List Nat), m + 32 ≤ n ∧ i = .int .i64 m ∧ OwnN w.heap.size wr g n lcap L ∧ (∀ x ∈ L, x ≤ 1) ∧ Hid (Crc.val2 (L.drop m) = Crc.stps m (Crc.val bs ^^^ 4294967295)) ∧ OwnN w.heap.size wr gp 32 pcap (Crc.nbits 32 polyN) ∧ Below w.heap.size w wr ∧ g < wr.heap.size) (fun i _ => n - (intOf i).toNat)
                  case atStart => exact ⟨0, L, by omega, rfl, hN5, hL3, HV6, hP, hbel5, hgs5⟩
                  case round =>
                    obtain ⟨m, L6, hm, rfl, hN6, hL6, HV6b, hP6, hbel6, hgs6⟩ := hrel
                    clear hN5 HV6 hP hbel5 hgs5 HV3
                    by_cases hlm : m + 32 < n
                    · obtain ⟨y, hy⟩ : ∃ y, y = L6.getD m 0 := ⟨_, rfl⟩
                      have hyle := Crc.getD_le L6 m hL6
                      rw [← hy] at hyle
                      have HY := Lib.hid hy
                      clear hy
                      obtain ⟨r, hr⟩ : ∃ r, r = Crc.val2 (L6.drop (m + 1)) := ⟨_, rfl⟩
                      have HRR := Lib.hid hr
                      clear hr
                      have hdm : decide ((m : Int) + 32 < (n : Int)) = true := by simp; omega
                      go_wp2
                      obtain ⟨wo, hwo⟩ : ∃ wo : World, wo = wr := ⟨_, rfl⟩
                      rw [← hwo] at hN6 hbel6 hgs6 hP6 ⊢
                      clear hwo
                      go_loopw [13] (fun i wr => ∃ (q : Nat) (L : List Nat), q ≤ 32 ∧ i = .int .i64 q ∧ OwnN w.heap.size wr g n lcap L ∧ (∀ x ∈ L, x ≤ 1) ∧ Hid (y = L.getD m 0) ∧ Hid (y = 0 → q = 0) ∧ Hid (Crc.val2 (L.drop (m + 1)) = r ^^^ 2197175160 % 2 ^ q) ∧ OwnN w.heap.size wr gp 32 pcap (Crc.nbits 32 polyN) ∧ Below w.heap.size w wr ∧ g < wr.heap.size) (fun i _ => 32 - (intOf i).toNat)
                      case atStart => exact ⟨0, L6, by omega, rfl, hN6, hL6, HY, Lib.hid (fun _ => rfl), Lib.hid (by rw [← HRR.out]; simp), hP6, hbel6, hgs6⟩
                      case round =>
                        obtain ⟨q, L7, hq, rfl, hN7, hL7, HY7, HQ7, HV7, hP7, hbel7, hgs7⟩ := hrel
                        have hcm := ownN_cell hN7 m (by omega)
                        rw [← HY7.out] at hcm
                        by_cases hq32 : q < 32
                        · by_cases hy1 : y = 1
                          · rw [hy1] at hcm
                            have hcm1 : wr.cell? ⟨g, m, none⟩ = some (.int .i64 1) := hcm
                            clear hcm
                            have hcp := ownN_cell hP7 q hq32
                            rw [Crc.nbits_getD 32 polyN q hq32] at hcp
                            by_cases hb : 2197175160 / 2 ^ q % 2 = 1
                            · have hcp1 : wr.cell? ⟨gp, q, none⟩ = some (.int .i64 1) := by rw [hcp]; unfold polyN; rw [hb]; rfl
                              clear hcp
                              have hc2 := ownN_cell hN7 (m + 1 + q) (by omega)
                              have hf2 := hN7.1.frozenAt (m + 1 + q)
                              have hzle := Crc.getD_le L7 (m + 1 + q) hL7
                              have HST := Lib.hid (Crc.turn_val (by have := hN7.2; omega) hL7 HV7.out hb)
                              obtain ⟨z, hz⟩ : ∃ z, z = L7.getD (m + 1 + q) 0 := ⟨_, rfl⟩
                              rw [← hz] at hc2 hzle HST
                              have HG := Lib.hid (Crc.getD_set_ne L7 m (m + 1 + q) (1 - z) (by omega))
                              have HY1 := Lib.hid hy1
                              clear hz hb hy1
                              go_wp2
                              go_roundw
                              case rel => exact ⟨q + 1, L7.set (m + 1 + q) (1 - z), by omega, by go_num, by have h := ownN_set hN7 (m + 1 + q) (1 - z); rw [show ((1 - z : Nat) : Int) = 1 - (z : Int) by omega] at h; exact h, Crc.set_le _ _ _ hL7 (by omega), Lib.hid (by rw [HG.out]; exact HY7.out), Lib.hid (fun h => by have := HY1.out; omega), HST, ownN_other hP7 _ _ _ hgne, hbel7.setCell hBg _, by simpa using hgs7⟩
                              case measure => simp [intOf]; omega
                            · have hcp1 : wr.cell? ⟨gp, q, none⟩ = some (.int .i64 0) := by rw [hcp]; unfold polyN; rw [show 2197175160 / 2 ^ q % 2 = 0 by omega]; rfl
                              clear hcp
                              have HST := Lib.hid (Crc.stay_val HV7.out hb)
                              have HY1 := Lib.hid hy1
                              clear hb hy1
                              go_wp2
                              go_roundw
                              case rel => exact ⟨q + 1, L7, by omega, by go_num, hN7, hL7, HY7, Lib.hid (fun h => by have := HY1.out; omega), HST, hP7, hbel7, hgs7⟩
                              case measure => simp [intOf]; omega
                          · have hy0 : y = 0 := by omega
                            rw [hy0] at hcm
                            have hcm1 : wr.cell? ⟨g, m, none⟩ = some (.int .i64 0) := hcm
                            have hq0 := HQ7.out hy0
                            have HNX : Hid (Crc.val2 (L7.drop (m + 1)) = Crc.stps (m + 1) (Crc.val bs ^^^ 4294967295)) := by
                              refine Crc.next_val (by have := hN6.2; omega) hL6 HV6b.out ⟨fun h => ?_, fun _ => ?_⟩
                              · rw [← HY.out] at h; omega
                              · rw [HV7.out, ← HRR.out, hq0]; simp
                            clear hcm hy0 hy1 hq0 hN6 hbel6 hgs6 hP6 HV6b
                            go_wp2
                            go_roundw
                            case rel => exact ⟨m + 1, L7, by omega, by go_num, hN7, hL7, HNX, hP7, hbel7, hgs7⟩
                            case measure => simp [intOf]; omega
                        · have HNX : Hid (Crc.val2 (L7.drop (m + 1)) = Crc.stps (m + 1) (Crc.val bs ^^^ 4294967295)) := by
                            have h32 : q = 32 := by omega
                            have hv := HV7.out
                            rw [h32] at hv
                            refine Crc.next_val (by have := hN6.2; omega) hL6 HV6b.out ⟨fun _ => ?_, fun h => ?_⟩
                            · rw [hv, ← HRR.out]
                            · rw [← HY.out] at h
                              have := HQ7.out h
                              omega
                          clear hN6 hbel6 hgs6 hP6 HV6b
                          go_wp2
                          go_roundw
                          case rel => exact ⟨m + 1, L7, by omega, by go_num, hN7, hL7, HNX, hP7, hbel7, hgs7⟩
                          case measure => simp [intOf]; omega
                    · have hmn : m = 8 * bs.length := by have := HNN.out; have := HLEN.out; omega
                      have HV8 := HV6b.out
                      rw [hmn] at HV8
                      have HM := Lib.hid hmn
                      have HV9 := Lib.hid HV8
                      clear hmn HV8 HV6b
                      go_wp2
                      go_loop [14, 15] (fun v i => ∃ q : Nat, q ≤ 32 ∧ i = .int .i64 q ∧ v = .int .u32 ((Crc.comp (L6.drop (n - q)) : Nat) : Int)) (fun _ i => 32 - (intOf i).toNat)
                      case atStart => exact ⟨0, by omega, rfl, by have := hN6.2; rw [List.drop_of_length_le (by omega)]; rfl⟩
                      case round =>
                        obtain ⟨q, hq, rfl, rfl⟩ := hrel
                        by_cases hq32 : q < 32
                        · have hn6 := hN6.2
                          have hcz := ownN_cell hN6 (n - 1 - q) (by omega)
                          have hzle := Crc.getD_le L6 (n - 1 - q) hL6
                          have hcl := comp_lt hq32 hL6 hn6
                          have HCS := Lib.hid (comp_step L6 n q (by omega) hn6)
                          obtain ⟨z, hz⟩ : ∃ z, z = L6.getD (n - 1 - q) 0 := ⟨_, rfl⟩
                          rw [← hz] at hcz hzle HCS
                          obtain ⟨v, hv⟩ : ∃ v, v = Crc.comp (L6.drop (n - q)) := ⟨_, rfl⟩
                          rw [← hv] at hcl HCS ⊢
                          clear hz hv hn6
                          rcases (show z = 0 ∨ z = 1 by omega) with hz0 | hz0
                          · subst hz0
                            have hcz1 : wr.cell? ⟨g, n - 1 - q, none⟩ = some (.int .i64 0) := hcz
                            clear hcz
                            go_wp2
                            go_round
                            case rel => exact ⟨q + 1, by omega, by go_num, by rw [HCS.out]; go_num⟩
                            case measure => simp [intOf]; omega
                          · subst hz0
                            have hcz1 : wr.cell? ⟨g, n - 1 - q, none⟩ = some (.int .i64 1) := hcz
                            clear hcz
                            go_wp2
                            go_round
                            case rel => exact ⟨q + 1, by omega, by go_num, by rw [HCS.out]; go_num⟩
                            case measure => simp [intOf]; omega
                        · have h32 : q = 32 := by omega
                          have HF : Hid (Crc.comp (L6.drop (n - q)) = Crc.of bs) := by
                            have hn6 := hN6.2
                            refine Crc.of_division bs hby _ (fun x hx => hL6 x (List.mem_of_mem_drop hx)) (by rw [List.length_drop]; omega) ?_
                            rw [← HV9.out, ← HM.out, show n - q = m by omega]
                          clear h32
                          go_wp2
                          go_ret
                          exact ⟨ret_int (by rw [HF.out]), hbel6⟩

end Go.Proofs.Yteemegigooafkaa
