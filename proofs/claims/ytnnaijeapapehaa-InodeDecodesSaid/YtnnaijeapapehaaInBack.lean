/- An inode's bytes, read again. -/
import Derived.Test.YtnnaijeapapehaaInDecA
namespace Go.Proofs.Ytnnaijeapapehaa
open Go.RowKit

theorem les4_back {v : Nat} (h : v < 4294967296) : leVal (Crc.les 4 v) = v := by rw [leVal_les]; omega
theorem les2_back {v : Nat} (h : v < 65536) : leVal (Crc.les 2 v) = v := by rw [leVal_les]; omega
theorem enc_0 (n : Ino) : (encI n).getD 0 0 = n.ki := rfl
theorem enc_1 (n : Ino) : (encI n).getD 1 0 = 0 := rfl
theorem enc_2 (n : Ino) : ((encI n).drop 2).take 2 = Crc.les 2 n.ln := rfl
theorem enc_4 (n : Ino) : ((encI n).drop 4).take 4 = Crc.les 4 n.sz := rfl
theorem enc_8 (n : Ino) : ((encI n).drop 8).take 4 = Crc.les 4 n.d0 := rfl
theorem enc_12 (n : Ino) : ((encI n).drop 12).take 4 = Crc.les 4 n.d1 := rfl
theorem enc_16 (n : Ino) : ((encI n).drop 16).take 4 = Crc.les 4 n.d2 := rfl
theorem enc_20 (n : Ino) : ((encI n).drop 20).take 4 = Crc.les 4 n.d3 := rfl
theorem enc_24 (n : Ino) : ((encI n).drop 24).take 4 = Crc.les 4 n.d4 := rfl
theorem enc_28 (n : Ino) : ((encI n).drop 28).take 4 = Crc.les 4 n.d5 := rfl
theorem enc_32 (n : Ino) : ((encI n).drop 32).take 4 = Crc.les 4 n.d6 := rfl
theorem enc_36 (n : Ino) : ((encI n).drop 36).take 4 = Crc.les 4 n.d7 := rfl
theorem enc_40 (n : Ino) : ((encI n).drop 40).take 4 = Crc.les 4 n.si := rfl
theorem enc_44 (n : Ino) : ((encI n).drop 44).take 4 = Crc.les 4 n.db := rfl
theorem enc_48 (n : Ino) : (encI n).drop 48 = List.replicate 16 0 := rfl
theorem inoOf_flat (bs : List Nat) : inoOf bs = ⟨bs.getD 0 0, leVal ((bs.drop 2).take 2), leVal ((bs.drop 4).take 4), leVal ((bs.drop 8).take 4), leVal ((bs.drop 12).take 4), leVal ((bs.drop 16).take 4), leVal ((bs.drop 20).take 4), leVal ((bs.drop 24).take 4), leVal ((bs.drop 28).take 4), leVal ((bs.drop 32).take 4), leVal ((bs.drop 36).take 4), leVal ((bs.drop 40).take 4), leVal ((bs.drop 44).take 4)⟩ := rfl
theorem inoOf_enc (n : Ino) (h : n.Fits) : inoOf (encI n) = n := by
  rw [inoOf_flat, enc_0, enc_2, enc_4, enc_8, enc_12, enc_16, enc_20, enc_24, enc_28, enc_32, enc_36, enc_40, enc_44, les2_back h.ln, les4_back h.sz, les4_back h.d0, les4_back h.d1, les4_back h.d2, les4_back h.d3, les4_back h.d4, les4_back h.d5, les4_back h.d6, les4_back h.d7, les4_back h.si, les4_back h.db]
theorem okI_enc (n : Ino) (h : n.Fits) : okI (encI n) = rightI n := by
  unfold okI
  rw [inoOf_enc n h, enc_1, enc_48]
  rfl
theorem enc_len (n : Ino) : (encI n).length = 64 := encL n
end Go.Proofs.Ytnnaijeapapehaa
