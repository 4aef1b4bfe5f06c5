/-
  DERIVED. GIVEN WITH THE SEED: THE CARDS: each row of YtmalpgbdemcmdaaDoorRows.lean that lists a variable, with what it lists TIED to the program's text (the seventh form; the later family's looks); each row that meets fmt, with fmt's text TOLD by the authors' own Lean function (tested against real Go, not proved from fmt's source: count such statements apart). THE CARD IS WHAT COUNTS. Prove the row's statement (the work); the ties are given (YtmalpgbdemcmdaaDoorTie.lean); close each card by the builder's one call (the guide's Derived/Test/ToyasCard.lean, 'card_holds'). Laid BY PROGRAM, IN A SANDBOX (cutbox-door.mjs). By AI agents, Wed Nov 11 2026. No macro, syntax, notation, axiom, sorry.
-/
import Derived.Test.YtmalpgbdemcmdaaDoorRows
import GoSem.ClaimSeven
namespace Go.Proofs.YtmalpgbdemcmdaaDoor
namespace Rows

/-- THE TIED CARD OF 'laws.FnTokens'. -/
def fnTokensCard : Claim7 := { stood := { row := fnTokensRow, standIns := [], harness := (true, "c7bf5f732d2137c562f50567c1d6f2ce6a541623490ac28640a406b35aee3477"), looks := false }, kinds := [], alts := [], laidByText := true, laidKinds := [.data, .data, .data], laidTests := true, laidLooks := .later }
def FnTokensCardSaid : Prop := Claim7.holds Tryd.pinned (.plain (OpenSpec.ofChange fnTokensSpec)) fnTokensCard

/-- THE TIED CARD OF 'laws.FnTokensTold'. -/
def fnTokensToldCard : Claim7 := { stood := { row := fnTokensToldRow, standIns := [], harness := (true, "c7bf5f732d2137c562f50567c1d6f2ce6a541623490ac28640a406b35aee3477"), looks := false }, kinds := [], alts := [], laidByText := true, laidKinds := [.data, .data, .data], laidTests := true, laidLooks := .later }
def FnTokensToldCardSaid : Prop := Claim7.holds Tryd.pinned (.plain (OpenSpec.ofChange fnTokensToldSpec)) fnTokensToldCard

/-- THE SECOND FORM's CARD OF 'laws.FnTokens'. -/
def fnTokensUptoCard : Claim7 := { stood := { row := fnTokensUptoRow, standIns := [], harness := (true, "c7bf5f732d2137c562f50567c1d6f2ce6a541623490ac28640a406b35aee3477"), looks := false }, kinds := [], alts := [], laidByText := true, laidKinds := [.data, .data, .data], laidTests := true, laidLooks := .later }
def FnTokensUptoCardSaid : Prop := Claim7.holds Tryd.pinned (.plain (OpenSpec.upto fnTokensSpec)) fnTokensUptoCard

/-- THE SECOND FORM's CARD OF 'laws.FnTokensTold'. -/
def fnTokensToldUptoCard : Claim7 := { stood := { row := fnTokensToldUptoRow, standIns := [], harness := (true, "c7bf5f732d2137c562f50567c1d6f2ce6a541623490ac28640a406b35aee3477"), looks := false }, kinds := [], alts := [], laidByText := true, laidKinds := [.data, .data, .data], laidTests := true, laidLooks := .later }
def FnTokensToldUptoCardSaid : Prop := Claim7.holds Tryd.pinned (.plain (OpenSpec.upto fnTokensToldSpec)) fnTokensToldUptoCard
end Rows
end Go.Proofs.YtmalpgbdemcmdaaDoor
