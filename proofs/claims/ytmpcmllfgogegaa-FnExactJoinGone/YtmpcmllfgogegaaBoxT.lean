/- Whether a box is right, as the specification tells it. -/
import Derived.Test.YtmpcmllfgogegaaMh
namespace Go.Proofs.Ytmpcmllfgogegaa
open Go.RowKit Go.ChangeMaps

end Go.Proofs.Ytmpcmllfgogegaa
