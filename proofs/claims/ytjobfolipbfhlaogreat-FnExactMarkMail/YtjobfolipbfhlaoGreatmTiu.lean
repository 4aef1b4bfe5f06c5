/- Tiu. -/

import Derived.Test.YtjobfolipbfhlaoGreatmTit
namespace Go.Proofs.YtjobfolipbfhlaoGreat
open Go.RowKit Go.ChangeMaps

end Go.Proofs.YtjobfolipbfhlaoGreat

