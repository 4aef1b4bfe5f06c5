/- Tis. -/

import Derived.Test.YtjobfolipbfhlaoGreatdTir
namespace Go.Proofs.YtjobfolipbfhlaoGreat
open Go.RowKit Go.ChangeMaps

end Go.Proofs.YtjobfolipbfhlaoGreat

