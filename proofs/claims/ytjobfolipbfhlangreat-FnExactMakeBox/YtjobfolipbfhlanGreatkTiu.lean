/- Tiu. -/

import Derived.Test.YtjobfolipbfhlanGreatkTit
namespace Go.Proofs.YtjobfolipbfhlanGreat
open Go.RowKit Go.ChangeMaps

end Go.Proofs.YtjobfolipbfhlanGreat

