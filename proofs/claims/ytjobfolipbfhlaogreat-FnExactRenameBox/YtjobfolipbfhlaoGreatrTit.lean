/- Tit. -/

import Derived.Test.YtjobfolipbfhlaoGreatrTis
namespace Go.Proofs.YtjobfolipbfhlaoGreat
open Go.RowKit Go.ChangeMaps

end Go.Proofs.YtjobfolipbfhlaoGreat

