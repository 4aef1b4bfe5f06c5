/- BoxI, BoxJ, in one text. -/
import Derived.Test.YtgpnbifdbeenbaaBoxT
namespace Go.Proofs.Ytgpnbifdbeenbaa
open Go.RowKit Go.ChangeMaps

end Go.Proofs.Ytgpnbifdbeenbaa

namespace Go.Proofs.Ytgpnbifdbeenbaa
open Go.RowKit Go.ChangeMaps

end Go.Proofs.Ytgpnbifdbeenbaa

