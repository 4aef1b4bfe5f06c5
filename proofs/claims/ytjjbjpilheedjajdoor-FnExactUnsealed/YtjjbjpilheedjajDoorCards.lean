/-
  DERIVED. GIVEN WITH THE SEED: THE CARDS: each row of YtjjbjpilheedjajDoorRows.lean that lists a variable, with what it lists TIED to the program's text (the seventh form; the later family's looks); each row that meets fmt, with fmt's text TOLD by the authors' own Lean function (tested against real Go, not proved from fmt's source: count such statements apart). THE CARD IS WHAT COUNTS. Prove the row's statement (the work); the ties are given (YtjjbjpilheedjajDoorTie.lean); close each card by the builder's one call (the guide's Derived/Test/ToyasCard.lean, 'card_holds'). Laid BY PROGRAM, IN A SANDBOX (cutbox-door.mjs). By AI agents, Wed Nov 11 2026. No macro, syntax, notation, axiom, sorry.
-/
import Derived.Test.YtjjbjpilheedjajDoorRows
import GoSem.ClaimSeven
namespace Go.Proofs.YtjjbjpilheedjajDoor
namespace Rows

/-- THE TIED CARD OF 'laws.FnExactSealed'. -/
def fnExactSealedCard : Claim7 := { stood := { row := fnExactSealedRow, standIns := [], harness := (true, "9d9c412187782f0702ea93998c7c46f9351337bdc36d62537ff06ce5d0a26f5e"), looks := false }, kinds := [], alts := [], laidByText := true, laidKinds := [.data], laidTests := true, laidLooks := .later }
def FnExactSealedCardSaid : Prop := Claim7.holds Tryd.pinned (.plain (OpenSpec.ofChange fnExactSealedSpec)) fnExactSealedCard

/-- THE TIED CARD OF 'laws.FnExactUnsealed'. -/
def fnExactUnsealedCard : Claim7 := { stood := { row := fnExactUnsealedRow, standIns := [], harness := (true, "9d9c412187782f0702ea93998c7c46f9351337bdc36d62537ff06ce5d0a26f5e"), looks := false }, kinds := [], alts := [], laidByText := true, laidKinds := [.data], laidTests := true, laidLooks := .later }
def FnExactUnsealedCardSaid : Prop := Claim7.holds Tryd.pinned (.plain (OpenSpec.ofChange fnExactUnsealedSpec)) fnExactUnsealedCard

/-- THE SECOND FORM's CARD OF 'laws.FnExactSealed'. -/
def fnExactSealedUptoCard : Claim7 := { stood := { row := fnExactSealedUptoRow, standIns := [], harness := (true, "9d9c412187782f0702ea93998c7c46f9351337bdc36d62537ff06ce5d0a26f5e"), looks := false }, kinds := [], alts := [], laidByText := true, laidKinds := [.data], laidTests := true, laidLooks := .later }
def FnExactSealedUptoCardSaid : Prop := Claim7.holds Tryd.pinned (.plain (OpenSpec.upto fnExactSealedSpec)) fnExactSealedUptoCard

/-- THE SECOND FORM's CARD OF 'laws.FnExactUnsealed'. -/
def fnExactUnsealedUptoCard : Claim7 := { stood := { row := fnExactUnsealedUptoRow, standIns := [], harness := (true, "9d9c412187782f0702ea93998c7c46f9351337bdc36d62537ff06ce5d0a26f5e"), looks := false }, kinds := [], alts := [], laidByText := true, laidKinds := [.data], laidTests := true, laidLooks := .later }
def FnExactUnsealedUptoCardSaid : Prop := Claim7.holds Tryd.pinned (.plain (OpenSpec.upto fnExactUnsealedSpec)) fnExactUnsealedUptoCard
end Rows
end Go.Proofs.YtjjbjpilheedjajDoor
