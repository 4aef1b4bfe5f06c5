/- Tit. -/

import Derived.Test.YtjobfolipbfhlaoGreatbTis
namespace Go.Proofs.YtjobfolipbfhlaoGreat
open Go.RowKit Go.ChangeMaps

end Go.Proofs.YtjobfolipbfhlaoGreat

