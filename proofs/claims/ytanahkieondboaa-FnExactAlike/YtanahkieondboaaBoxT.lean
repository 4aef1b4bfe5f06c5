/- Whether a box is right, as the specification tells it. -/
import Derived.Test.YtanahkieondboaaMh
namespace Go.Proofs.Ytanahkieondboaa
open Go.RowKit Go.ChangeMaps

end Go.Proofs.Ytanahkieondboaa
