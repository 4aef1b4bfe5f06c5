/-
  DERIVED. GIVEN WITH THE SEED: THE CARDS: each row of YtlhofbnnonljaaaGreatDoorRows.lean that lists a variable, with what it lists TIED to the program's text (the seventh form; the later family's looks); each row that meets fmt, with fmt's text TOLD by the authors' own Lean function (tested against real Go, not proved from fmt's source: count such statements apart). THE CARD IS WHAT COUNTS. Prove the row's statement (the work); the ties are given (YtlhofbnnonljaaaGreatDoorTie.lean); close each card by the builder's one call (the guide's Derived/Test/ToyasCard.lean, 'card_holds'). Laid BY PROGRAM, IN A SANDBOX (cutbox-door.mjs). By AI agents, Wed Nov 11 2026. No macro, syntax, notation, axiom, sorry.
-/
import Derived.Test.YtlhofbnnonljaaaGreatDoorRows
import GoSem.ClaimSeven
namespace Go.Proofs.YtlhofbnnonljaaaGreatDoor
namespace Rows

/-- THE TIED CARD OF 'laws.FnExactCallOk'. -/
def fnExactCallOkCard : Claim7 := { stood := { row := fnExactCallOkRow, standIns := [], harness := (true, "17f2fcbf38ffaa30458c840e805fa1ad89ff7b1f161e45e1264e5c83337efd9a"), looks := true }, kinds := [], alts := [], goes := true, laidByText := true, laidKinds := [.data, .data, .data, .data], laidTests := true, laidLooks := .later }
def FnExactCallOkCardSaid : Prop := Claim7.holds Tryz.pinned (.plain (OpenSpec.ofChange fnExactCallOkSpec)) fnExactCallOkCard

/-- THE TIED CARD OF 'laws.FnExactCallText'. -/
def fnExactCallTextCard : Claim7 := { stood := { row := fnExactCallTextRow, standIns := [], harness := (true, "17f2fcbf38ffaa30458c840e805fa1ad89ff7b1f161e45e1264e5c83337efd9a"), looks := true }, kinds := [], alts := [], goes := true, laidByText := true, laidKinds := [.data, .data, .data, .data], laidTests := true, laidLooks := .later }
def FnExactCallTextCardSaid : Prop := Claim7.holds Tryz.pinned (.plain (OpenSpec.ofChange fnExactCallTextSpec)) fnExactCallTextCard

/-- THE TIED CARD OF 'laws.FnExactReadCall'. -/
def fnExactReadCallCard : Claim7 := { stood := { row := fnExactReadCallRow, standIns := [], harness := (true, "17f2fcbf38ffaa30458c840e805fa1ad89ff7b1f161e45e1264e5c83337efd9a"), looks := true }, kinds := [], alts := [], goes := true, laidByText := true, laidKinds := [.data, .data, .data, .data], laidTests := true, laidLooks := .later }
def FnExactReadCallCardSaid : Prop := Claim7.holds Tryz.pinned (.plain (OpenSpec.ofChange fnExactReadCallSpec)) fnExactReadCallCard

/-- THE SECOND FORM's CARD OF 'laws.FnExactCallOk'. -/
def fnExactCallOkUptoCard : Claim7 := { stood := { row := fnExactCallOkUptoRow, standIns := [], harness := (true, "17f2fcbf38ffaa30458c840e805fa1ad89ff7b1f161e45e1264e5c83337efd9a"), looks := true }, kinds := [], alts := [], goes := true, laidByText := true, laidKinds := [.data, .data, .data, .data], laidTests := true, laidLooks := .later }
def FnExactCallOkUptoCardSaid : Prop := Claim7.holds Tryz.pinned (.plain (OpenSpec.upto fnExactCallOkSpec)) fnExactCallOkUptoCard

/-- THE SECOND FORM's CARD OF 'laws.FnExactCallText'. -/
def fnExactCallTextUptoCard : Claim7 := { stood := { row := fnExactCallTextUptoRow, standIns := [], harness := (true, "17f2fcbf38ffaa30458c840e805fa1ad89ff7b1f161e45e1264e5c83337efd9a"), looks := true }, kinds := [], alts := [], goes := true, laidByText := true, laidKinds := [.data, .data, .data, .data], laidTests := true, laidLooks := .later }
def FnExactCallTextUptoCardSaid : Prop := Claim7.holds Tryz.pinned (.plain (OpenSpec.upto fnExactCallTextSpec)) fnExactCallTextUptoCard

/-- THE SECOND FORM's CARD OF 'laws.FnExactReadCall'. -/
def fnExactReadCallUptoCard : Claim7 := { stood := { row := fnExactReadCallUptoRow, standIns := [], harness := (true, "17f2fcbf38ffaa30458c840e805fa1ad89ff7b1f161e45e1264e5c83337efd9a"), looks := true }, kinds := [], alts := [], goes := true, laidByText := true, laidKinds := [.data, .data, .data, .data], laidTests := true, laidLooks := .later }
def FnExactReadCallUptoCardSaid : Prop := Claim7.holds Tryz.pinned (.plain (OpenSpec.upto fnExactReadCallSpec)) fnExactReadCallUptoCard
end Rows
end Go.Proofs.YtlhofbnnonljaaaGreatDoor
