/- Ascending numbers, at most so many. -/
import Derived.Test.YtanahkieondboaaDoorStm
import Derived.Test.YtanahkieondboaaDoorStb
import Derived.Test.YtanahkieondboaaDoorBoxT
namespace Go.Proofs.YtanahkieondboaaDoor
open Go.RowKit

def gnM (mo : Int) (G : List Int) : Bool := asc 0 G && decide ((G.length : Int) ≤ mo)
theorem gnM_bad {mo : Int} {G : List Int} (h : asc 0 G = false) : gnM mo G = false := by rw [gnM, h]; rfl
theorem gnM_fin {mo : Int} {G : List Int} (h : asc 0 G = true) : gnM mo G = decide ((G.length : Int) ≤ mo) := by rw [gnM, h]; rfl

end Go.Proofs.YtanahkieondboaaDoor
