/- Mails copied. -/
import Derived.Test.YtegdejhgamkkbaaMailJoin
namespace Go.Proofs.Ytegdejhgamkkbaa
open Go.RowKit

/-- An owned row, where another block below its base is stored into. -/
theorem own_far {W : World} {B j : Nat} {v : Value} {l : List R3} (h : Ow W B v l) (hj : j < B) (i : Nat) (x : Value) : Ow (W.setCell ⟨j, i, none⟩ x) B v l :=
  World.ownsRow.kept h (wst (wre W (some j)) i x) (by
    cases hv : v.ownBlock with
    | none => exact Or.inl rfl
    | some k => right; have := (World.ownsRow.lt h k hv).1; intro e; simp at e; omega)

end Go.Proofs.Ytegdejhgamkkbaa
