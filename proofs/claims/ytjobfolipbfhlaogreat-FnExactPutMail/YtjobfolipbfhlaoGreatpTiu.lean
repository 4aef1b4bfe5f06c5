/- Tiu. -/

import Derived.Test.YtjobfolipbfhlaoGreatpTit
namespace Go.Proofs.YtjobfolipbfhlaoGreat
open Go.RowKit Go.ChangeMaps

end Go.Proofs.YtjobfolipbfhlaoGreat

