/- Tii. -/

import Derived.Test.YtjobfolipbfhlaoGreatrTih
namespace Go.Proofs.YtjobfolipbfhlaoGreat
open Go.RowKit Go.ChangeMaps

end Go.Proofs.YtjobfolipbfhlaoGreat

