/- Tii. -/

import Derived.Test.YtjobfolipbfhlanGreatkTih
namespace Go.Proofs.YtjobfolipbfhlanGreat
open Go.RowKit Go.ChangeMaps

end Go.Proofs.YtjobfolipbfhlanGreat

