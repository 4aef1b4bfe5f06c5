/- BoxI, BoxJ, in one text. -/
import Derived.Test.YtmpcmllfgogegaaBoxT
namespace Go.Proofs.Ytmpcmllfgogegaa
open Go.RowKit Go.ChangeMaps

end Go.Proofs.Ytmpcmllfgogegaa

namespace Go.Proofs.Ytmpcmllfgogegaa
open Go.RowKit Go.ChangeMaps

end Go.Proofs.Ytmpcmllfgogegaa

