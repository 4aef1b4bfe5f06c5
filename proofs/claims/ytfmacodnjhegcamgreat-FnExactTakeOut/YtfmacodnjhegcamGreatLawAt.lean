/- The law of where a mail is. -/
import Derived.Test.YtfmacodnjhegcamGreatBoxC
namespace Go.Proofs.YtfmacodnjhegcamGreat
open Go.RowKit

/-- What a box holds is not too great. -/
theorem small {nm : ByteArray} {L : List M4} {gn : Nat} (h : ¬ (1048576 : Int) < ((nm.size + szL L + gn : Nat) : Int)) : nm.size ≤ 1048576 ∧ L.length ≤ 1048576 ∧ gn ≤ 1048576 ∧ Sm L := by
  unfold szL at h
  exact ⟨by omega, by omega, by omega, sm_of (by omega)⟩

end Go.Proofs.YtfmacodnjhegcamGreat
