/- lay[uint64]: numbers of 8 bytes are laid, the lowest byte first. -/
import Derived.Test.YtjnjkoodeacpdaaWriterMore
import Derived.Deep.RegionLaw
import Derived.Deep.AppendLies
namespace Go.Proofs.Ytjnjkoodeacpdaa
open Go.RowKit

end Go.Proofs.Ytjnjkoodeacpdaa
