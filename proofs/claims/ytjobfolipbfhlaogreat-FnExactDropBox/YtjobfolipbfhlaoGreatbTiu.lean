/- Tiu. -/

import Derived.Test.YtjobfolipbfhlaoGreatbTit
namespace Go.Proofs.YtjobfolipbfhlaoGreat
open Go.RowKit Go.ChangeMaps

end Go.Proofs.YtjobfolipbfhlaoGreat

