/-
  No cell of these rows narrows 'for every input' (looked for: loops, veiled, ifaces, maps, wideKeys, modest, calm, conditions, laid).
  DERIVED. THE GIVEN ROWS OF THIS SEAT. 5 by the template 'for every input the law returns true; each argument reads behind the call as it read before'; 0 by the template 'total and deterministic' (their statements: YtmpcmllfgogegaaGreatTotals.lean).
  GIVEN WITH THE SEED: the statements are not yours to turn. If you find one false, say at which input.
  Laid BY PROGRAM, IN A SANDBOX (cutbox-rows.mjs): the forced cells as the released guide's own fill.sh prints them over the translation e7336ccdd6e601e5… (all of the seat's roots in one cut). By AI agents, Wed Nov 11 2026. No macro, syntax, notation, axiom, sorry.
-/
import Derived.Test.YtmpcmllfgogegaaGreatChecked
import GoSem.Claim
import GoSem.ClaimJoined
import GoSem.ClaimMapViews
import Derived.JoinedTies
import Derived.KernelRfl
namespace Go.Proofs.YtmpcmllfgogegaaGreat
/- THE CELL 'sum', in the pinned program and in every row, IS THE sha256 OF THE DUMP (.gsa) THAT YtmpcmllfgogegaaGreatProg.lean LOADS. Nothing in Lean hashes anything: it is a label: what it is worth is what the hold of that sum in a sandbox is worth. -/
noncomputable def Tryz.pinned : Pinned := { name := "ytmpcmllfgogegaagreat", sum := "e7336ccdd6e601e51bb053aad11f67740341685f3604723bf87d80e2500ce6e9", checked := Tryz.checked }
namespace Rows
def none {H : Type} : Left H := { results := [], args := [] }

/-- 'laws.FnBoxesJoin': WHATEVER THE INPUT: true; the input reads as it did. -/
def fnBoxesJoinSpec : ChangeSpec := { name := "fnBoxesJoin", fn := fun _ => fun
  | [d] => { results := [.lit (.bool true)], args := [d] }
  | _ => none }
def fnBoxesJoinRow : OpenClaim := { program := "ytmpcmllfgogegaagreat", sum := "e7336ccdd6e601e51bb053aad11f67740341685f3604723bf87d80e2500ce6e9", func := "loop.example/g00324/laws.FnBoxesJoin", spec := "fnBoxesJoin", unfollowed := true, recurses := true, apart := false }
def FnBoxesJoinSaid : Prop := fnBoxesJoinRow.holds Tryz.pinned (OpenSpec.ofChange fnBoxesJoinSpec)

/-- ITS FALSE NEIGHBOUR: 'it returns false'. Refute it at one input. -/
def fnBoxesJoinWrong : ChangeSpec := { name := "fnBoxesJoin", fn := fun _ => fun
  | [d] => { results := [.lit (.bool false)], args := [d] }
  | _ => none }
def FnBoxesJoinWrongFalsely : Prop := fnBoxesJoinRow.holds Tryz.pinned (OpenSpec.ofChange fnBoxesJoinWrong)

/-- 'laws.FnUidsKept': WHATEVER THE INPUT: true; the input reads as it did. -/
def fnUidsKeptSpec : ChangeSpec := { name := "fnUidsKept", fn := fun _ => fun
  | [d] => { results := [.lit (.bool true)], args := [d] }
  | _ => none }
def fnUidsKeptRow : OpenClaim := { program := "ytmpcmllfgogegaagreat", sum := "e7336ccdd6e601e51bb053aad11f67740341685f3604723bf87d80e2500ce6e9", func := "loop.example/g00324/laws.FnUidsKept", spec := "fnUidsKept", unfollowed := true, recurses := true, apart := false }
def FnUidsKeptSaid : Prop := fnUidsKeptRow.holds Tryz.pinned (OpenSpec.ofChange fnUidsKeptSpec)

/-- ITS FALSE NEIGHBOUR: 'it returns false'. Refute it at one input. -/
def fnUidsKeptWrong : ChangeSpec := { name := "fnUidsKept", fn := fun _ => fun
  | [d] => { results := [.lit (.bool false)], args := [d] }
  | _ => none }
def FnUidsKeptWrongFalsely : Prop := fnUidsKeptRow.holds Tryz.pinned (OpenSpec.ofChange fnUidsKeptWrong)

/-- 'laws.FnMailsKept': WHATEVER THE INPUT: true; the input reads as it did. -/
def fnMailsKeptSpec : ChangeSpec := { name := "fnMailsKept", fn := fun _ => fun
  | [d] => { results := [.lit (.bool true)], args := [d] }
  | _ => none }
def fnMailsKeptRow : OpenClaim := { program := "ytmpcmllfgogegaagreat", sum := "e7336ccdd6e601e51bb053aad11f67740341685f3604723bf87d80e2500ce6e9", func := "loop.example/g00324/laws.FnMailsKept", spec := "fnMailsKept", unfollowed := true, recurses := true, apart := false }
def FnMailsKeptSaid : Prop := fnMailsKeptRow.holds Tryz.pinned (OpenSpec.ofChange fnMailsKeptSpec)

/-- ITS FALSE NEIGHBOUR: 'it returns false'. Refute it at one input. -/
def fnMailsKeptWrong : ChangeSpec := { name := "fnMailsKept", fn := fun _ => fun
  | [d] => { results := [.lit (.bool false)], args := [d] }
  | _ => none }
def FnMailsKeptWrongFalsely : Prop := fnMailsKeptRow.holds Tryz.pinned (OpenSpec.ofChange fnMailsKeptWrong)

/-- 'laws.FnExactJoinMails': WHATEVER THE INPUT: true; the input reads as it did. -/
def fnExactJoinMailsSpec : ChangeSpec := { name := "fnExactJoinMails", fn := fun _ => fun
  | [d1, d2] => { results := [.lit (.bool true)], args := [d1, d2] }
  | _ => none }
def fnExactJoinMailsRow : OpenClaim := { program := "ytmpcmllfgogegaagreat", sum := "e7336ccdd6e601e51bb053aad11f67740341685f3604723bf87d80e2500ce6e9", func := "loop.example/g00324/laws.FnExactJoinMails", spec := "fnExactJoinMails", unfollowed := true, recurses := true, apart := false }
def FnExactJoinMailsSaid : Prop := fnExactJoinMailsRow.holds Tryz.pinned (OpenSpec.ofChange fnExactJoinMailsSpec)

/-- ITS FALSE NEIGHBOUR: 'it returns false'. Refute it at one input. -/
def fnExactJoinMailsWrong : ChangeSpec := { name := "fnExactJoinMails", fn := fun _ => fun
  | [d1, d2] => { results := [.lit (.bool false)], args := [d1, d2] }
  | _ => none }
def FnExactJoinMailsWrongFalsely : Prop := fnExactJoinMailsRow.holds Tryz.pinned (OpenSpec.ofChange fnExactJoinMailsWrong)

/-- 'laws.FnExactFitsBox': WHATEVER THE INPUT: true; the input reads as it did. -/
def fnExactFitsBoxSpec : ChangeSpec := { name := "fnExactFitsBox", fn := fun _ => fun
  | [d1, d2] => { results := [.lit (.bool true)], args := [d1, d2] }
  | _ => none }
def fnExactFitsBoxRow : OpenClaim := { program := "ytmpcmllfgogegaagreat", sum := "e7336ccdd6e601e51bb053aad11f67740341685f3604723bf87d80e2500ce6e9", func := "loop.example/g00324/laws.FnExactFitsBox", spec := "fnExactFitsBox", unfollowed := true, recurses := true, apart := false }
def FnExactFitsBoxSaid : Prop := fnExactFitsBoxRow.holds Tryz.pinned (OpenSpec.ofChange fnExactFitsBoxSpec)

/-- ITS FALSE NEIGHBOUR: 'it returns false'. Refute it at one input. -/
def fnExactFitsBoxWrong : ChangeSpec := { name := "fnExactFitsBox", fn := fun _ => fun
  | [d1, d2] => { results := [.lit (.bool false)], args := [d1, d2] }
  | _ => none }
def FnExactFitsBoxWrongFalsely : Prop := fnExactFitsBoxRow.holds Tryz.pinned (OpenSpec.ofChange fnExactFitsBoxWrong)

/- THE SECOND FORM. 'bulk': how many values and letters a reading holds, each counted each time it is reached (what is shared counts as often as it is met; a slice's spare places count too). A statement '..UptoSaid' is the law's where the arguments, and the package variables that the reading takes, are together of bulk at most 1048576: NARROWER than '..Said'. Prove '..Said' where nothing that the law and all that it calls make is longer than what came in: it says more and counts as full. Else prove '..UptoSaid'. A law counts once. -/
mutual
def uptoBulk {H : Type} : DataW H → Nat
  | .lit (.string bytes) => bytes.length + 1
  | .lit _ => 1
  | .nil => 1
  | .ptr d => uptoBulk d + 1
  | .slice elems spare => uptoBulkAll elems + uptoBulkAll spare + 1
  | .agg parts => uptoBulkAll parts + 1
  | .iface _ d => uptoBulk d + 1
  | .map entries => uptoBulkEntries entries + 1
  | .held _ => 1
def uptoBulkAll {H : Type} : List (DataW H) → Nat
  | [] => 0
  | d :: r => uptoBulk d + uptoBulkAll r
def uptoBulkEntries {H : Type} : List (Lit × DataW H) → Nat
  | [] => 0
  | x :: r => uptoBulkEntry x + uptoBulkEntries r
def uptoBulkEntry {H : Type} : Lit × DataW H → Nat
  | (.string bytes, d) => bytes.length + uptoBulk d + 1
  | (_, d) => uptoBulk d + 1
 end
def uptoSmall : (H : Type) → List (DataW H) → Bool := fun _ ds => decide (uptoBulkAll ds ≤ 1048576)
def OpenSpec.upto (s : _root_.Go.ChangeSpec) : _root_.Go.OpenSpec := { _root_.Go.OpenSpec.ofChange s with cond := some uptoSmall }

/-- 'laws.FnBoxesJoin', WHERE WHAT IT READS IS OF BULK AT MOST 1048576: true; the input reads as it did. -/
def fnBoxesJoinUptoRow : OpenClaim := { program := "ytmpcmllfgogegaagreat", sum := "e7336ccdd6e601e51bb053aad11f67740341685f3604723bf87d80e2500ce6e9", func := "loop.example/g00324/laws.FnBoxesJoin", spec := "fnBoxesJoin", unfollowed := true, recurses := true, apart := false, narrowed := true }
def FnBoxesJoinUptoSaid : Prop := fnBoxesJoinUptoRow.holds Tryz.pinned (OpenSpec.upto fnBoxesJoinSpec)

/-- 'laws.FnUidsKept', WHERE WHAT IT READS IS OF BULK AT MOST 1048576: true; the input reads as it did. -/
def fnUidsKeptUptoRow : OpenClaim := { program := "ytmpcmllfgogegaagreat", sum := "e7336ccdd6e601e51bb053aad11f67740341685f3604723bf87d80e2500ce6e9", func := "loop.example/g00324/laws.FnUidsKept", spec := "fnUidsKept", unfollowed := true, recurses := true, apart := false, narrowed := true }
def FnUidsKeptUptoSaid : Prop := fnUidsKeptUptoRow.holds Tryz.pinned (OpenSpec.upto fnUidsKeptSpec)

/-- 'laws.FnMailsKept', WHERE WHAT IT READS IS OF BULK AT MOST 1048576: true; the input reads as it did. -/
def fnMailsKeptUptoRow : OpenClaim := { program := "ytmpcmllfgogegaagreat", sum := "e7336ccdd6e601e51bb053aad11f67740341685f3604723bf87d80e2500ce6e9", func := "loop.example/g00324/laws.FnMailsKept", spec := "fnMailsKept", unfollowed := true, recurses := true, apart := false, narrowed := true }
def FnMailsKeptUptoSaid : Prop := fnMailsKeptUptoRow.holds Tryz.pinned (OpenSpec.upto fnMailsKeptSpec)

/-- 'laws.FnExactJoinMails', WHERE WHAT IT READS IS OF BULK AT MOST 1048576: true; the input reads as it did. -/
def fnExactJoinMailsUptoRow : OpenClaim := { program := "ytmpcmllfgogegaagreat", sum := "e7336ccdd6e601e51bb053aad11f67740341685f3604723bf87d80e2500ce6e9", func := "loop.example/g00324/laws.FnExactJoinMails", spec := "fnExactJoinMails", unfollowed := true, recurses := true, apart := false, narrowed := true }
def FnExactJoinMailsUptoSaid : Prop := fnExactJoinMailsUptoRow.holds Tryz.pinned (OpenSpec.upto fnExactJoinMailsSpec)

/-- 'laws.FnExactFitsBox', WHERE WHAT IT READS IS OF BULK AT MOST 1048576: true; the input reads as it did. -/
def fnExactFitsBoxUptoRow : OpenClaim := { program := "ytmpcmllfgogegaagreat", sum := "e7336ccdd6e601e51bb053aad11f67740341685f3604723bf87d80e2500ce6e9", func := "loop.example/g00324/laws.FnExactFitsBox", spec := "fnExactFitsBox", unfollowed := true, recurses := true, apart := false, narrowed := true }
def FnExactFitsBoxUptoSaid : Prop := fnExactFitsBoxUptoRow.holds Tryz.pinned (OpenSpec.upto fnExactFitsBoxSpec)

end Rows
end Go.Proofs.YtmpcmllfgogegaaGreat
