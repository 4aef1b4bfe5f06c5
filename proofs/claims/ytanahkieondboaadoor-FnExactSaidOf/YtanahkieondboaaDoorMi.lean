/- BoxI, BoxJ, in one text. -/
import Derived.Test.YtanahkieondboaaDoorBoxT
namespace Go.Proofs.YtanahkieondboaaDoor
open Go.RowKit Go.ChangeMaps

end Go.Proofs.YtanahkieondboaaDoor

namespace Go.Proofs.YtanahkieondboaaDoor
open Go.RowKit Go.ChangeMaps

end Go.Proofs.YtanahkieondboaaDoor

