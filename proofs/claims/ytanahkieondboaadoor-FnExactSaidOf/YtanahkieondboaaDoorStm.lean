/- Whether no stamp of a box is above a time. -/
import Derived.Test.YtanahkieondboaaDoorSkn
namespace Go.Proofs.YtanahkieondboaaDoor
open Go.RowKit Go.ChangeMaps

def tmF (tm : Int) (l : List R3) : Bool := l.all (fun p => decide (p.2.1 ≤ tm))
def tmOk (tm t : Int) (L : List M4) : Bool := decide (t ≤ tm) && L.all (fun m => tmF tm m.2.2.1)
theorem all_next {α : Type} {p : α → Bool} {S : List α} {i : Nat} (h : i < S.length) (ha : (S.take i).all p = true) (hp : p S[i] = true) : (S.take (i + 1)).all p = true := by
  rw [List.take_succ_eq_append_getElem h, List.all_append, ha, Bool.true_and]
  simp [hp]
theorem all_no {α : Type} {p : α → Bool} {S : List α} {i : Nat} (h : i < S.length) (hp : p S[i] = false) : S.all p = false := by
  rw [List.all_eq_false]
  exact ⟨S[i], List.getElem_mem h, by simp [hp]⟩

end Go.Proofs.YtanahkieondboaaDoor
