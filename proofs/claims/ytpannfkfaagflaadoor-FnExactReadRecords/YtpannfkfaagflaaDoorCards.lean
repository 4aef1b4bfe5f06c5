/-
  DERIVED. GIVEN WITH THE SEED: THE CARDS: each row of YtpannfkfaagflaaDoorRows.lean that lists a variable, with what it lists TIED to the program's text (the seventh form; the later family's looks); each row that meets fmt, with fmt's text TOLD by the authors' own Lean function (tested against real Go, not proved from fmt's source: count such statements apart). THE CARD IS WHAT COUNTS. Prove the row's statement (the work); the ties are given (YtpannfkfaagflaaDoorTie.lean); close each card by the builder's one call (the guide's Derived/Test/ToyasCard.lean, 'card_holds'). Laid BY PROGRAM, IN A SANDBOX (cutbox-door.mjs). By AI agents, Wed Nov 11 2026. No macro, syntax, notation, axiom, sorry.
-/
import Derived.Test.YtpannfkfaagflaaDoorRows
import GoSem.ClaimSeven
namespace Go.Proofs.YtpannfkfaagflaaDoor
namespace Rows

/-- THE TIED CARD OF 'laws.FnExactRecordText'. -/
def fnExactRecordTextCard : Claim7 := { stood := { row := fnExactRecordTextRow, standIns := [], harness := (true, "f96522379c49e31bbe1e5da3c0a41d043e7bf866d9b8da51b4639bfe70b05d42"), looks := false }, kinds := [], alts := [], laidByText := true, laidKinds := [.data], laidTests := true, laidLooks := .later }
def FnExactRecordTextCardSaid : Prop := Claim7.holds Tryd.pinned (.plain (OpenSpec.ofChange fnExactRecordTextSpec)) fnExactRecordTextCard

/-- THE TIED CARD OF 'laws.FnExactReadRecords'. -/
def fnExactReadRecordsCard : Claim7 := { stood := { row := fnExactReadRecordsRow, standIns := [], harness := (true, "f96522379c49e31bbe1e5da3c0a41d043e7bf866d9b8da51b4639bfe70b05d42"), looks := false }, kinds := [], alts := [], laidByText := true, laidKinds := [.data], laidTests := true, laidLooks := .later }
def FnExactReadRecordsCardSaid : Prop := Claim7.holds Tryd.pinned (.plain (OpenSpec.ofChange fnExactReadRecordsSpec)) fnExactReadRecordsCard

/-- THE SECOND FORM's CARD OF 'laws.FnExactRecordText'. -/
def fnExactRecordTextUptoCard : Claim7 := { stood := { row := fnExactRecordTextUptoRow, standIns := [], harness := (true, "f96522379c49e31bbe1e5da3c0a41d043e7bf866d9b8da51b4639bfe70b05d42"), looks := false }, kinds := [], alts := [], laidByText := true, laidKinds := [.data], laidTests := true, laidLooks := .later }
def FnExactRecordTextUptoCardSaid : Prop := Claim7.holds Tryd.pinned (.plain (OpenSpec.upto fnExactRecordTextSpec)) fnExactRecordTextUptoCard

/-- THE SECOND FORM's CARD OF 'laws.FnExactReadRecords'. -/
def fnExactReadRecordsUptoCard : Claim7 := { stood := { row := fnExactReadRecordsUptoRow, standIns := [], harness := (true, "f96522379c49e31bbe1e5da3c0a41d043e7bf866d9b8da51b4639bfe70b05d42"), looks := false }, kinds := [], alts := [], laidByText := true, laidKinds := [.data], laidTests := true, laidLooks := .later }
def FnExactReadRecordsUptoCardSaid : Prop := Claim7.holds Tryd.pinned (.plain (OpenSpec.upto fnExactReadRecordsSpec)) fnExactReadRecordsUptoCard
end Rows
end Go.Proofs.YtpannfkfaagflaaDoor
