/- Where a mail is: the program's own. -/
import Derived.Test.YtfmacodnjhegcamGreatBoxA
namespace Go.Proofs.YtfmacodnjhegcamGreat
open Go.RowKit

end Go.Proofs.YtfmacodnjhegcamGreat
