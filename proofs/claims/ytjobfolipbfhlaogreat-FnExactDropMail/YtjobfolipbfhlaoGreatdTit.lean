/- Tit. -/

import Derived.Test.YtjobfolipbfhlaoGreatdTis
namespace Go.Proofs.YtjobfolipbfhlaoGreat
open Go.RowKit Go.ChangeMaps

end Go.Proofs.YtjobfolipbfhlaoGreat

