/- Flags: whether a list of registers is right. -/
import Derived.Test.YtegdejhgamkkbaaFlatEq
namespace Go.Proofs.Ytegdejhgamkkbaa
open Go.RowKit

def okp (p : R3) : Bool := rgOk p.1 p.2.1 p.2.2 && decide (p.1 ≤ 1)
def flOk (l : List R3) : Bool := decide (l.length = 3) && l.all okp

theorem all_here (l : List R3) (i : Nat) (h : i < l.length) (ha : (l.take i).all okp = true) (hp : okp l[i] = true) : (l.take (i + 1)).all okp = true := by
  rw [List.take_succ_eq_append_getElem h, List.all_append, ha]; simp [hp]
theorem not_all (l : List R3) (i : Nat) (h : i < l.length) (hp : okp l[i] = false) : flOk l = false := by
  have : l.all okp = false := by
    rw [List.all_eq_false]; exact ⟨l[i], List.getElem_mem h, by rw [hp]; simp⟩
  simp [flOk, this]
theorem all_end (l : List R3) (i : Nat) (h : i = l.length) (ha : (l.take i).all okp = true) : flOk l = decide (l.length = 3) := by
  subst h
  rw [List.take_length] at ha
  simp [flOk, ha]

end Go.Proofs.Ytegdejhgamkkbaa
