/- Tis. -/

import Derived.Test.YtjobfolipbfhlaoGreatrTir
namespace Go.Proofs.YtjobfolipbfhlaoGreat
open Go.RowKit Go.ChangeMaps

end Go.Proofs.YtjobfolipbfhlaoGreat

