/-
  DERIVED. GIVEN WITH THE SEED: THE CARDS: each row of YtocfggfccbnbhaaGreatDoorRows.lean that lists a variable, with what it lists TIED to the program's text (the seventh form; the later family's looks); each row that meets fmt, with fmt's text TOLD by the authors' own Lean function (tested against real Go, not proved from fmt's source: count such statements apart). THE CARD IS WHAT COUNTS. Prove the row's statement (the work); the ties are given (YtocfggfccbnbhaaGreatDoorTie.lean); close each card by the builder's one call (the guide's Derived/Test/ToyasCard.lean, 'card_holds'). Laid BY PROGRAM, IN A SANDBOX (cutbox-door.mjs). By AI agents, Wed Nov 11 2026. No macro, syntax, notation, axiom, sorry.
-/
import Derived.Test.YtocfggfccbnbhaaGreatDoorRows
import GoSem.ClaimSeven
namespace Go.Proofs.YtocfggfccbnbhaaGreatDoor
namespace Rows

/-- THE TIED CARD OF 'laws.FnTexts'. -/
def fnTextsCard : Claim7 := { stood := { row := fnTextsRow, standIns := [], harness := (true, "ad74f1c209d783c482540937232c35840fbd4aefea95f593c1ccab944a245f0e"), looks := true }, kinds := [], alts := [], laidByText := true, laidKinds := [.data], laidTests := true, laidLooks := .later }
def FnTextsCardSaid : Prop := Claim7.holds Tryz.pinned (.plain (OpenSpec.ofChange fnTextsSpec)) fnTextsCard

/-- THE TIED CARD OF 'laws.FnExactStoreText'. -/
def fnExactStoreTextCard : Claim7 := { stood := { row := fnExactStoreTextRow, standIns := [], harness := (true, "ad74f1c209d783c482540937232c35840fbd4aefea95f593c1ccab944a245f0e"), looks := true }, kinds := [], alts := [], laidByText := true, laidKinds := [.data], laidTests := true, laidLooks := .later }
def FnExactStoreTextCardSaid : Prop := Claim7.holds Tryz.pinned (.plain (OpenSpec.ofChange fnExactStoreTextSpec)) fnExactStoreTextCard

/-- THE TIED CARD OF 'laws.FnExactReadStore'. -/
def fnExactReadStoreCard : Claim7 := { stood := { row := fnExactReadStoreRow, standIns := [], harness := (true, "ad74f1c209d783c482540937232c35840fbd4aefea95f593c1ccab944a245f0e"), looks := true }, kinds := [], alts := [], laidByText := true, laidKinds := [.data], laidTests := true, laidLooks := .later }
def FnExactReadStoreCardSaid : Prop := Claim7.holds Tryz.pinned (.plain (OpenSpec.ofChange fnExactReadStoreSpec)) fnExactReadStoreCard

/-- THE TIED CARD OF 'laws.FnExactSameStore'. -/
def fnExactSameStoreCard : Claim7 := { stood := { row := fnExactSameStoreRow, standIns := [], harness := (true, "ad74f1c209d783c482540937232c35840fbd4aefea95f593c1ccab944a245f0e"), looks := true }, kinds := [], alts := [], laidByText := true, laidKinds := [.data], laidTests := true, laidLooks := .later }
def FnExactSameStoreCardSaid : Prop := Claim7.holds Tryz.pinned (.plain (OpenSpec.ofChange fnExactSameStoreSpec)) fnExactSameStoreCard

/-- THE SECOND FORM's CARD OF 'laws.FnTexts'. -/
def fnTextsUptoCard : Claim7 := { stood := { row := fnTextsUptoRow, standIns := [], harness := (true, "ad74f1c209d783c482540937232c35840fbd4aefea95f593c1ccab944a245f0e"), looks := true }, kinds := [], alts := [], laidByText := true, laidKinds := [.data], laidTests := true, laidLooks := .later }
def FnTextsUptoCardSaid : Prop := Claim7.holds Tryz.pinned (.plain (OpenSpec.upto fnTextsSpec)) fnTextsUptoCard

/-- THE SECOND FORM's CARD OF 'laws.FnExactStoreText'. -/
def fnExactStoreTextUptoCard : Claim7 := { stood := { row := fnExactStoreTextUptoRow, standIns := [], harness := (true, "ad74f1c209d783c482540937232c35840fbd4aefea95f593c1ccab944a245f0e"), looks := true }, kinds := [], alts := [], laidByText := true, laidKinds := [.data], laidTests := true, laidLooks := .later }
def FnExactStoreTextUptoCardSaid : Prop := Claim7.holds Tryz.pinned (.plain (OpenSpec.upto fnExactStoreTextSpec)) fnExactStoreTextUptoCard

/-- THE SECOND FORM's CARD OF 'laws.FnExactReadStore'. -/
def fnExactReadStoreUptoCard : Claim7 := { stood := { row := fnExactReadStoreUptoRow, standIns := [], harness := (true, "ad74f1c209d783c482540937232c35840fbd4aefea95f593c1ccab944a245f0e"), looks := true }, kinds := [], alts := [], laidByText := true, laidKinds := [.data], laidTests := true, laidLooks := .later }
def FnExactReadStoreUptoCardSaid : Prop := Claim7.holds Tryz.pinned (.plain (OpenSpec.upto fnExactReadStoreSpec)) fnExactReadStoreUptoCard

/-- THE SECOND FORM's CARD OF 'laws.FnExactSameStore'. -/
def fnExactSameStoreUptoCard : Claim7 := { stood := { row := fnExactSameStoreUptoRow, standIns := [], harness := (true, "ad74f1c209d783c482540937232c35840fbd4aefea95f593c1ccab944a245f0e"), looks := true }, kinds := [], alts := [], laidByText := true, laidKinds := [.data], laidTests := true, laidLooks := .later }
def FnExactSameStoreUptoCardSaid : Prop := Claim7.holds Tryz.pinned (.plain (OpenSpec.upto fnExactSameStoreSpec)) fnExactSameStoreUptoCard
end Rows
end Go.Proofs.YtocfggfccbnbhaaGreatDoor
