/- The reader's Zero. -/
import Derived.Test.YtmggjknljbpbgaaReaderCalls
namespace Go.Proofs.Ytmggjknljbpbgaa
open Go.RowKit

end Go.Proofs.Ytmggjknljbpbgaa
