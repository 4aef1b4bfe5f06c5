/- Tii. -/

import Derived.Test.YtjobfolipbfhlaoGreatbTih
namespace Go.Proofs.YtjobfolipbfhlaoGreat
open Go.RowKit Go.ChangeMaps

end Go.Proofs.YtjobfolipbfhlaoGreat

