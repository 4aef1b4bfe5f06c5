/- Tis. -/

import Derived.Test.YtjobfolipbfhlanGreatkTir
namespace Go.Proofs.YtjobfolipbfhlanGreat
open Go.RowKit Go.ChangeMaps

end Go.Proofs.YtjobfolipbfhlanGreat

