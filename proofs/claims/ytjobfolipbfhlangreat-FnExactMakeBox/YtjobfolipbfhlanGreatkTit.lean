/- Tit. -/

import Derived.Test.YtjobfolipbfhlanGreatkTis
namespace Go.Proofs.YtjobfolipbfhlanGreat
open Go.RowKit Go.ChangeMaps

end Go.Proofs.YtjobfolipbfhlanGreat

