/- Whether a box is right, as the specification tells it. -/
import Derived.Test.YtgpnbifdbeenbaaMh
namespace Go.Proofs.Ytgpnbifdbeenbaa
open Go.RowKit Go.ChangeMaps

end Go.Proofs.Ytgpnbifdbeenbaa
