/- Tis. -/

import Derived.Test.YtjobfolipbfhlaoGreatbTir
namespace Go.Proofs.YtjobfolipbfhlaoGreat
open Go.RowKit Go.ChangeMaps

end Go.Proofs.YtjobfolipbfhlaoGreat

