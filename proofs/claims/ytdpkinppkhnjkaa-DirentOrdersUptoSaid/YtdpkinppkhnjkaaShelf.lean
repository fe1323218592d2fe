/- No contract of the library's is wanted here but this file's name. -/
import Derived.Test.YtdpkinppkhnjkaaProg
import Derived.Lib.ValidLaws
namespace Go.Proofs.Ytdpkinppkhnjkaa
theorem shelf_idle : True := trivial
end Go.Proofs.Ytdpkinppkhnjkaa
