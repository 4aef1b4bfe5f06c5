/- BoxI, BoxJ, in one text. -/
import Derived.Test.YtanahkieondboaaBoxT
namespace Go.Proofs.Ytanahkieondboaa
open Go.RowKit Go.ChangeMaps

end Go.Proofs.Ytanahkieondboaa

namespace Go.Proofs.Ytanahkieondboaa
open Go.RowKit Go.ChangeMaps

end Go.Proofs.Ytanahkieondboaa

