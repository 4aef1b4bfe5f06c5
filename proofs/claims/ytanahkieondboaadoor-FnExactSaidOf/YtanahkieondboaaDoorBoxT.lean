/- Whether a box is right, as the specification tells it. -/
import Derived.Test.YtanahkieondboaaDoorMh
namespace Go.Proofs.YtanahkieondboaaDoor
open Go.RowKit Go.ChangeMaps

end Go.Proofs.YtanahkieondboaaDoor
