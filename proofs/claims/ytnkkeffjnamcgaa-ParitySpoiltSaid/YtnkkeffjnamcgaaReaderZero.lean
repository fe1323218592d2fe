/- The reader's Zero. -/
import Derived.Test.YtnkkeffjnamcgaaReaderCalls
namespace Go.Proofs.Ytnkkeffjnamcgaa
open Go.RowKit

end Go.Proofs.Ytnkkeffjnamcgaa
