/- InodeDecodes: whole. -/
import Derived.Test.YtnnaijeapapehaaInDcIn
import Derived.Test.YtnnaijeapapehaaInDecT
import Derived.Test.YtnnaijeapapehaaInDecF
namespace Go.Proofs.Ytnnaijeapapehaa
open Go.RowKit

theorem inodeDecodes_all (ba : Option Addr) (bn bc : Nat) (bs : List Nat) (n : Ino) (ta : Option Addr) (tn tc : Nat) (ca : Option Addr) (cn cc : Nat) (cs : List Nat) (w : World) (h : DOk ba bn bc bs n ta tn ca cn cc cs w) :
    Calls Try.prog 4 #[.agg #[.slice ba bn bc, .int .u8 (n.ki : Int), .int .u16 (n.ln : Int), .int .u32 (n.sz : Int), .int .u32 (n.d0 : Int), .int .u32 (n.d1 : Int), .int .u32 (n.d2 : Int), .int .u32 (n.d3 : Int), .int .u32 (n.d4 : Int), .int .u32 (n.d5 : Int), .int .u32 (n.d6 : Int), .int .u32 (n.d7 : Int), .int .u32 (n.si : Int), .int .u32 (n.db : Int), .slice ta tn tc, .slice ca cn cc]] w fun e w' => e = .returned (.bool true) ∧ Below w.heap.size w w' := by
  cases hok : okL bs with
  | true => exact inodeDecodes_T ba bn bc bs n ta tn tc ca cn cc cs w h hok
  | false => exact inodeDecodes_F ba bn bc bs n ta tn tc ca cn cc cs w h hok
end Go.Proofs.Ytnnaijeapapehaa
