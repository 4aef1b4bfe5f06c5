/-
  DERIVED. GIVEN WITH THE SEED: THE CARDS: each row of YtanahkieondboaaDoorRows.lean that lists a variable, with what it lists TIED to the program's text (the seventh form; the later family's looks); each row that meets fmt, with fmt's text TOLD by the authors' own Lean function (tested against real Go, not proved from fmt's source: count such statements apart). THE CARD IS WHAT COUNTS. Prove the row's statement (the work); the ties are given (YtanahkieondboaaDoorTie.lean); close each card by the builder's one call (the guide's Derived/Test/ToyasCard.lean, 'card_holds'). Laid BY PROGRAM, IN A SANDBOX (cutbox-door.mjs). By AI agents, Wed Nov 11 2026. No macro, syntax, notation, axiom, sorry.
-/
import Derived.Test.YtanahkieondboaaDoorRows
import GoSem.ClaimSeven
namespace Go.Proofs.YtanahkieondboaaDoor
namespace Rows

/-- THE TIED CARD OF 'laws.FnExactOtherName'. -/
def fnExactOtherNameCard : Claim7 := { stood := { row := fnExactOtherNameRow, standIns := [], harness := (true, "6726183a9cb657e25059427448041c93baea9fe5ee9300be9460804d9ff56bda"), looks := false }, kinds := [], alts := [], laidByText := true, laidKinds := [.data, .data, .data], laidTests := true, laidLooks := .later }
def FnExactOtherNameCardSaid : Prop := Claim7.holds Tryd.pinned (.plain (OpenSpec.ofChange fnExactOtherNameSpec)) fnExactOtherNameCard

/-- THE TIED CARD OF 'laws.FnExactSaidOf'. -/
def fnExactSaidOfCard : Claim7 := { stood := { row := fnExactSaidOfRow, standIns := [], harness := (true, "6726183a9cb657e25059427448041c93baea9fe5ee9300be9460804d9ff56bda"), looks := false }, kinds := [], alts := [], laidByText := true, laidKinds := [.data, .data, .data], laidTests := true, laidLooks := .later }
def FnExactSaidOfCardSaid : Prop := Claim7.holds Tryd.pinned (.plain (OpenSpec.ofChange fnExactSaidOfSpec)) fnExactSaidOfCard

/-- THE SECOND FORM's CARD OF 'laws.FnExactOtherName'. -/
def fnExactOtherNameUptoCard : Claim7 := { stood := { row := fnExactOtherNameUptoRow, standIns := [], harness := (true, "6726183a9cb657e25059427448041c93baea9fe5ee9300be9460804d9ff56bda"), looks := false }, kinds := [], alts := [], laidByText := true, laidKinds := [.data, .data, .data], laidTests := true, laidLooks := .later }
def FnExactOtherNameUptoCardSaid : Prop := Claim7.holds Tryd.pinned (.plain (OpenSpec.upto fnExactOtherNameSpec)) fnExactOtherNameUptoCard

/-- THE SECOND FORM's CARD OF 'laws.FnExactSaidOf'. -/
def fnExactSaidOfUptoCard : Claim7 := { stood := { row := fnExactSaidOfUptoRow, standIns := [], harness := (true, "6726183a9cb657e25059427448041c93baea9fe5ee9300be9460804d9ff56bda"), looks := false }, kinds := [], alts := [], laidByText := true, laidKinds := [.data, .data, .data], laidTests := true, laidLooks := .later }
def FnExactSaidOfUptoCardSaid : Prop := Claim7.holds Tryd.pinned (.plain (OpenSpec.upto fnExactSaidOfSpec)) fnExactSaidOfUptoCard
end Rows
end Go.Proofs.YtanahkieondboaaDoor
