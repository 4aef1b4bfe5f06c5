/- Whether a store knows a Gid. -/
import Derived.Test.YtanahkieondboaaDoorSat
import Derived.Test.YtanahkieondboaaDoorMj
namespace Go.Proofs.YtanahkieondboaaDoor
open Go.RowKit Go.ChangeMaps

/-- A box or its lists have this Gid. -/
def hasG (x : Int) (b : X7) : Bool := b.2.2.2.2.2.1.any (fun m => decide (m.1 = x)) || inl x b.2.2.2.2.2.2
def kno (x : Int) (S : List X7) (G : List Int) : Bool := S.any (isG x) || (inl x G || S.any (hasG x))
theorem any_drop {α : Type} {p : α → Bool} {S : List α} {i : Nat} (h : i < S.length) (hp : p S[i] = false) : (S.drop i).any p = (S.drop (i + 1)).any p := by
  rw [List.drop_eq_getElem_cons h, List.any_cons, hp, Bool.false_or]
theorem any_here {α : Type} {p : α → Bool} {S : List α} {i : Nat} (h : i < S.length) (hp : p S[i] = true) : S.any p = true := List.any_eq_true.2 ⟨S[i], List.getElem_mem h, hp⟩

end Go.Proofs.YtanahkieondboaaDoor
