/-
  No cell of these rows narrows 'for every input' (looked for: loops, veiled, ifaces, maps, wideKeys, modest, calm, conditions, laid).
  DERIVED. THE GIVEN ROWS OF THIS SEAT. 2 by the template 'for every input the law returns true; each argument reads behind the call as it read before'; 0 by the template 'total and deterministic' (their statements: YtldcmfkmnjdfiaaTotals.lean).
  GIVEN WITH THE SEED: the statements are not yours to turn. If you find one false, say at which input.
  Laid BY PROGRAM, IN A SANDBOX (cutbox-rows.mjs): the forced cells as the released guide's own fill.sh prints them over the translation 62f27a93d67356f3… (all of the seat's roots in one cut). By AI agents, Wed Nov 11 2026. No macro, syntax, notation, axiom, sorry.
-/
import Derived.Test.YtldcmfkmnjdfiaaChecked
import GoSem.Claim
import GoSem.ClaimJoined
import GoSem.ClaimMapViews
import Derived.JoinedTies
import Derived.KernelRfl
namespace Go.Proofs.Ytldcmfkmnjdfiaa
/- THE CELL 'sum', in the pinned program and in every row, IS THE sha256 OF THE DUMP (.gsa) THAT YtldcmfkmnjdfiaaProg.lean LOADS. Nothing in Lean hashes anything: it is a label: what it is worth is what the hold of that sum in a sandbox is worth. -/
noncomputable def Try.pinned : Pinned := { name := "ytldcmfkmnjdfiaa", sum := "62f27a93d67356f355c27530a517c19562c71cdcfffb3b5f85e3eac798cd9e1b", checked := Try.checked }
namespace Rows
def none {H : Type} : Left H := { results := [], args := [] }

/-- 'laws.FnMails': WHATEVER THE INPUT: true; the input reads as it did. -/
def fnMailsSpec : ChangeSpec := { name := "fnMails", fn := fun _ => fun
  | [d] => { results := [.lit (.bool true)], args := [d] }
  | _ => none }
def fnMailsRow : OpenClaim := { program := "ytldcmfkmnjdfiaa", sum := "62f27a93d67356f355c27530a517c19562c71cdcfffb3b5f85e3eac798cd9e1b", func := "loop.example/g00324/laws.FnMails", spec := "fnMails", unfollowed := true, recurses := true, apart := false }
def FnMailsSaid : Prop := fnMailsRow.holds Try.pinned (OpenSpec.ofChange fnMailsSpec)

/-- ITS FALSE NEIGHBOUR: 'it returns false'. Refute it at one input. -/
def fnMailsWrong : ChangeSpec := { name := "fnMails", fn := fun _ => fun
  | [d] => { results := [.lit (.bool false)], args := [d] }
  | _ => none }
def FnMailsWrongFalsely : Prop := fnMailsRow.holds Try.pinned (OpenSpec.ofChange fnMailsWrong)

/-- 'laws.FnExactReadMail': WHATEVER THE INPUT: true; the input reads as it did. -/
def fnExactReadMailSpec : ChangeSpec := { name := "fnExactReadMail", fn := fun _ => fun
  | [d1, d2] => { results := [.lit (.bool true)], args := [d1, d2] }
  | _ => none }
def fnExactReadMailRow : OpenClaim := { program := "ytldcmfkmnjdfiaa", sum := "62f27a93d67356f355c27530a517c19562c71cdcfffb3b5f85e3eac798cd9e1b", func := "loop.example/g00324/laws.FnExactReadMail", spec := "fnExactReadMail", unfollowed := true, recurses := true, apart := false }
def FnExactReadMailSaid : Prop := fnExactReadMailRow.holds Try.pinned (OpenSpec.ofChange fnExactReadMailSpec)

/-- ITS FALSE NEIGHBOUR: 'it returns false'. Refute it at one input. -/
def fnExactReadMailWrong : ChangeSpec := { name := "fnExactReadMail", fn := fun _ => fun
  | [d1, d2] => { results := [.lit (.bool false)], args := [d1, d2] }
  | _ => none }
def FnExactReadMailWrongFalsely : Prop := fnExactReadMailRow.holds Try.pinned (OpenSpec.ofChange fnExactReadMailWrong)

/- THE SECOND FORM. 'bulk': how many values and letters a reading holds, each counted each time it is reached (what is shared counts as often as it is met; a slice's spare places count too). A statement '..UptoSaid' is the law's where the arguments, and the package variables that the reading takes, are together of bulk at most 1048576: NARROWER than '..Said'. Prove '..Said' where nothing that the law and all that it calls make is longer than what came in: it says more and counts as full. Else prove '..UptoSaid'. A law counts once. -/
mutual
def uptoBulk {H : Type} : DataW H → Nat
  | .lit (.string bytes) => bytes.length + 1
  | .lit _ => 1
  | .nil => 1
  | .ptr d => uptoBulk d + 1
  | .slice elems spare => uptoBulkAll elems + uptoBulkAll spare + 1
  | .agg parts => uptoBulkAll parts + 1
  | .iface _ d => uptoBulk d + 1
  | .map entries => uptoBulkEntries entries + 1
  | .held _ => 1
def uptoBulkAll {H : Type} : List (DataW H) → Nat
  | [] => 0
  | d :: r => uptoBulk d + uptoBulkAll r
def uptoBulkEntries {H : Type} : List (Lit × DataW H) → Nat
  | [] => 0
  | x :: r => uptoBulkEntry x + uptoBulkEntries r
def uptoBulkEntry {H : Type} : Lit × DataW H → Nat
  | (.string bytes, d) => bytes.length + uptoBulk d + 1
  | (_, d) => uptoBulk d + 1
 end
def uptoSmall : (H : Type) → List (DataW H) → Bool := fun _ ds => decide (uptoBulkAll ds ≤ 1048576)
def OpenSpec.upto (s : _root_.Go.ChangeSpec) : _root_.Go.OpenSpec := { _root_.Go.OpenSpec.ofChange s with cond := some uptoSmall }

/-- 'laws.FnMails', WHERE WHAT IT READS IS OF BULK AT MOST 1048576: true; the input reads as it did. -/
def fnMailsUptoRow : OpenClaim := { program := "ytldcmfkmnjdfiaa", sum := "62f27a93d67356f355c27530a517c19562c71cdcfffb3b5f85e3eac798cd9e1b", func := "loop.example/g00324/laws.FnMails", spec := "fnMails", unfollowed := true, recurses := true, apart := false, narrowed := true }
def FnMailsUptoSaid : Prop := fnMailsUptoRow.holds Try.pinned (OpenSpec.upto fnMailsSpec)

/-- 'laws.FnExactReadMail', WHERE WHAT IT READS IS OF BULK AT MOST 1048576: true; the input reads as it did. -/
def fnExactReadMailUptoRow : OpenClaim := { program := "ytldcmfkmnjdfiaa", sum := "62f27a93d67356f355c27530a517c19562c71cdcfffb3b5f85e3eac798cd9e1b", func := "loop.example/g00324/laws.FnExactReadMail", spec := "fnExactReadMail", unfollowed := true, recurses := true, apart := false, narrowed := true }
def FnExactReadMailUptoSaid : Prop := fnExactReadMailUptoRow.holds Try.pinned (OpenSpec.upto fnExactReadMailSpec)

end Rows
end Go.Proofs.Ytldcmfkmnjdfiaa
