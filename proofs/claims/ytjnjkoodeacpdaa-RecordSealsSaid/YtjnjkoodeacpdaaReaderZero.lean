/- The reader's Zero. -/
import Derived.Test.YtjnjkoodeacpdaaReaderCalls
namespace Go.Proofs.Ytjnjkoodeacpdaa
open Go.RowKit

end Go.Proofs.Ytjnjkoodeacpdaa
