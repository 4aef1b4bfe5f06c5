/-
  DERIVED. GIVEN WITH THE SEED: THE CARDS: each row of YtlopdmledeglbaaDoorRows.lean that lists a variable, with what it lists TIED to the program's text (the seventh form; the later family's looks); each row that meets fmt, with fmt's text TOLD by the authors' own Lean function (tested against real Go, not proved from fmt's source: count such statements apart). THE CARD IS WHAT COUNTS. Prove the row's statement (the work); the ties are given (YtlopdmledeglbaaDoorTie.lean); close each card by the builder's one call (the guide's Derived/Test/ToyasCard.lean, 'card_holds'). Laid BY PROGRAM, IN A SANDBOX (cutbox-door.mjs). By AI agents, Wed Nov 11 2026. No macro, syntax, notation, axiom, sorry.
-/
import Derived.Test.YtlopdmledeglbaaDoorRows
import GoSem.ClaimSeven
namespace Go.Proofs.YtlopdmledeglbaaDoor
namespace Rows

/-- THE TIED CARD OF 'laws.FnExactPacketText'. -/
def fnExactPacketTextCard : Claim7 := { stood := { row := fnExactPacketTextRow, standIns := [], harness := (true, "e5ce395fc19a80f82b375464d337e7a0220ea3f5ae05856c1e691cacc70b8fd3"), looks := true }, kinds := [], alts := [], laidByText := true, laidKinds := [.data], laidTests := true, laidLooks := .later }
def FnExactPacketTextCardSaid : Prop := Claim7.holds Tryd.pinned (.plain (OpenSpec.ofChange fnExactPacketTextSpec)) fnExactPacketTextCard

/-- THE TIED CARD OF 'laws.FnExactReadPacket'. -/
def fnExactReadPacketCard : Claim7 := { stood := { row := fnExactReadPacketRow, standIns := [], harness := (true, "e5ce395fc19a80f82b375464d337e7a0220ea3f5ae05856c1e691cacc70b8fd3"), looks := true }, kinds := [], alts := [], laidByText := true, laidKinds := [.data], laidTests := true, laidLooks := .later }
def FnExactReadPacketCardSaid : Prop := Claim7.holds Tryd.pinned (.plain (OpenSpec.ofChange fnExactReadPacketSpec)) fnExactReadPacketCard

/-- THE SECOND FORM's CARD OF 'laws.FnExactPacketText'. -/
def fnExactPacketTextUptoCard : Claim7 := { stood := { row := fnExactPacketTextUptoRow, standIns := [], harness := (true, "e5ce395fc19a80f82b375464d337e7a0220ea3f5ae05856c1e691cacc70b8fd3"), looks := true }, kinds := [], alts := [], laidByText := true, laidKinds := [.data], laidTests := true, laidLooks := .later }
def FnExactPacketTextUptoCardSaid : Prop := Claim7.holds Tryd.pinned (.plain (OpenSpec.upto fnExactPacketTextSpec)) fnExactPacketTextUptoCard

/-- THE SECOND FORM's CARD OF 'laws.FnExactReadPacket'. -/
def fnExactReadPacketUptoCard : Claim7 := { stood := { row := fnExactReadPacketUptoRow, standIns := [], harness := (true, "e5ce395fc19a80f82b375464d337e7a0220ea3f5ae05856c1e691cacc70b8fd3"), looks := true }, kinds := [], alts := [], laidByText := true, laidKinds := [.data], laidTests := true, laidLooks := .later }
def FnExactReadPacketUptoCardSaid : Prop := Claim7.holds Tryd.pinned (.plain (OpenSpec.upto fnExactReadPacketSpec)) fnExactReadPacketUptoCard
end Rows
end Go.Proofs.YtlopdmledeglbaaDoor
