/- Where a box is in a store; what a store gives. -/
import Derived.Test.YtanahkieondboaaDoorStb
namespace Go.Proofs.YtanahkieondboaaDoor
open Go.RowKit Go.ChangeMaps

/-- The place of the first that is so; -1 without one. -/
def fidx {α : Type} (p : α → Bool) : List α → Nat → Int
  | [], _ => -1
  | x :: S, i => if p x = true then (i : Int) else fidx p S (i + 1)
theorem fidx_here {α : Type} {p : α → Bool} {S : List α} {i : Nat} (h : i < S.length) (e : p S[i] = true) : fidx p (S.drop i) i = i := by
  rw [List.drop_eq_getElem_cons h, fidx, if_pos e]
theorem fidx_on {α : Type} {p : α → Bool} {S : List α} {i : Nat} (h : i < S.length) (e : p S[i] = false) : fidx p (S.drop i) i = fidx p (S.drop (i + 1)) (i + 1) := by
  rw [List.drop_eq_getElem_cons h, fidx, if_neg (by rw [e]; decide)]
theorem fidx_any {α : Type} (p : α → Bool) (S : List α) (k : Nat) : decide (0 ≤ fidx p S k) = S.any p := by
  induction S generalizing k with
  | nil => rfl
  | cons x S ih =>
    rw [fidx, List.any_cons]
    cases hp : p x with
    | true => simp
    | false => rw [if_neg (by decide), ih (k + 1)]; simp
/-- Boxes of which nothing is too great. -/
def Sb (S : List X7) : Prop := ∀ x ∈ S, x.2.1.size ≤ 1048576 ∧ x.2.2.2.2.2.1.length ≤ 1048576 ∧ Sm x.2.2.2.2.2.1 ∧ x.2.2.2.2.2.2.length ≤ 1048576
def isG (g : Int) (x : X7) : Bool := decide (x.1 = g)
def isN (n : ByteArray) (x : X7) : Bool := decide (x.2.1 = n)

end Go.Proofs.YtanahkieondboaaDoor
