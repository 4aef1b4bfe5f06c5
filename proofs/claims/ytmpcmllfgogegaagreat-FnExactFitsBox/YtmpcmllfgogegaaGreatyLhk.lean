/- Lhk. -/

import Derived.Test.YtmpcmllfgogegaaGreatySzb
namespace Go.Proofs.YtmpcmllfgogegaaGreat
open Go.RowKit
theorem small8 {q : Int} {nm : ByteArray} {L : List M4} {gn : Nat} (hq : q ≤ 1048576) (h : ¬ q < ((nm.size + szL L + gn : Nat) : Int)) : nm.size ≤ 1048576 ∧ L.length ≤ 1048576 ∧ gn ≤ 1048576 ∧ Sm L := by
 unfold szL at h
 exact ⟨by omega, by omega, by omega, sm_of (by omega)⟩
end Go.Proofs.YtmpcmllfgogegaaGreat
