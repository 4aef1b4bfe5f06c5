/-
  No cell of these rows narrows 'for every input' (looked for: loops, veiled, ifaces, maps, wideKeys, modest, calm, conditions, laid).
  DERIVED. THE GIVEN ROWS OF THIS SEAT. 3 by the template 'for every input the law returns true; each argument reads behind the call as it read before'; 0 by the template 'total and deterministic' (their statements: YtckenihadlmlaaaTotals.lean).
  GIVEN WITH THE SEED: the statements are not yours to turn. If you find one false, say at which input.
  Laid BY PROGRAM, IN A SANDBOX (cutbox-rows.mjs): the forced cells as the released guide's own fill.sh prints them over the translation bf0ecfb4c7e2c850… (all of the seat's roots in one cut). By AI agents, Wed Nov 11 2026. No macro, syntax, notation, axiom, sorry.
-/
import Derived.Test.YtckenihadlmlaaaChecked
import GoSem.Claim
import GoSem.ClaimJoined
import GoSem.ClaimMapViews
import Derived.JoinedTies
import Derived.KernelRfl
namespace Go.Proofs.Ytckenihadlmlaaa
/- THE CELL 'sum', in the pinned program and in every row, IS THE sha256 OF THE DUMP (.gsa) THAT YtckenihadlmlaaaProg.lean LOADS. Nothing in Lean hashes anything: it is a label: what it is worth is what the hold of that sum in a sandbox is worth. -/
noncomputable def Try.pinned : Pinned := { name := "ytckenihadlmlaaa", sum := "bf0ecfb4c7e2c850c74afae9221c48c13cb0d7b3c6e32b1410de8c593f126f37", checked := Try.checked }
namespace Rows
def none {H : Type} : Left H := { results := [], args := [] }

/-- 'laws.FnExactServerNew': WHATEVER THE INPUT: true; the input reads as it did. -/
def fnExactServerNewSpec : ChangeSpec := { name := "fnExactServerNew", fn := fun _ => fun
  | [d] => { results := [.lit (.bool true)], args := [d] }
  | _ => none }
def fnExactServerNewRow : OpenClaim := { program := "ytckenihadlmlaaa", sum := "bf0ecfb4c7e2c850c74afae9221c48c13cb0d7b3c6e32b1410de8c593f126f37", func := "loop.example/g00324/laws.FnExactServerNew", spec := "fnExactServerNew", inPlace := ["internal/abi.NoEscape", "internal/bytealg.MakeNoZero"], apart := false }
def FnExactServerNewSaid : Prop := fnExactServerNewRow.holds Try.pinned (OpenSpec.ofChange fnExactServerNewSpec)

/-- ITS FALSE NEIGHBOUR: 'it returns false'. Refute it at one input. -/
def fnExactServerNewWrong : ChangeSpec := { name := "fnExactServerNew", fn := fun _ => fun
  | [d] => { results := [.lit (.bool false)], args := [d] }
  | _ => none }
def FnExactServerNewWrongFalsely : Prop := fnExactServerNewRow.holds Try.pinned (OpenSpec.ofChange fnExactServerNewWrong)

/-- 'laws.FnExactFeedServer': WHATEVER THE INPUT: true; the input reads as it did. -/
def fnExactFeedServerSpec : ChangeSpec := { name := "fnExactFeedServer", fn := fun _ => fun
  | [d1, d2] => { results := [.lit (.bool true)], args := [d1, d2] }
  | _ => none }
def fnExactFeedServerRow : OpenClaim := { program := "ytckenihadlmlaaa", sum := "bf0ecfb4c7e2c850c74afae9221c48c13cb0d7b3c6e32b1410de8c593f126f37", func := "loop.example/g00324/laws.FnExactFeedServer", spec := "fnExactFeedServer", apart := false }
def FnExactFeedServerSaid : Prop := fnExactFeedServerRow.holds Try.pinned (OpenSpec.ofChange fnExactFeedServerSpec)

/-- ITS FALSE NEIGHBOUR: 'it returns false'. Refute it at one input. -/
def fnExactFeedServerWrong : ChangeSpec := { name := "fnExactFeedServer", fn := fun _ => fun
  | [d1, d2] => { results := [.lit (.bool false)], args := [d1, d2] }
  | _ => none }
def FnExactFeedServerWrongFalsely : Prop := fnExactFeedServerRow.holds Try.pinned (OpenSpec.ofChange fnExactFeedServerWrong)

/-- 'laws.FnExactRiseServer': WHATEVER THE INPUT: true; the input reads as it did. -/
def fnExactRiseServerSpec : ChangeSpec := { name := "fnExactRiseServer", fn := fun _ => fun
  | [d] => { results := [.lit (.bool true)], args := [d] }
  | _ => none }
def fnExactRiseServerRow : OpenClaim := { program := "ytckenihadlmlaaa", sum := "bf0ecfb4c7e2c850c74afae9221c48c13cb0d7b3c6e32b1410de8c593f126f37", func := "loop.example/g00324/laws.FnExactRiseServer", spec := "fnExactRiseServer", apart := false }
def FnExactRiseServerSaid : Prop := fnExactRiseServerRow.holds Try.pinned (OpenSpec.ofChange fnExactRiseServerSpec)

/-- ITS FALSE NEIGHBOUR: 'it returns false'. Refute it at one input. -/
def fnExactRiseServerWrong : ChangeSpec := { name := "fnExactRiseServer", fn := fun _ => fun
  | [d] => { results := [.lit (.bool false)], args := [d] }
  | _ => none }
def FnExactRiseServerWrongFalsely : Prop := fnExactRiseServerRow.holds Try.pinned (OpenSpec.ofChange fnExactRiseServerWrong)

/- THE SECOND FORM. 'bulk': how many values and letters a reading holds, each counted each time it is reached (what is shared counts as often as it is met; a slice's spare places count too). A statement '..UptoSaid' is the law's where the arguments, and the package variables that the reading takes, are together of bulk at most 1048576: NARROWER than '..Said'. Prove '..Said' where nothing that the law and all that it calls make is longer than what came in: it says more and counts as full. Else prove '..UptoSaid'. A law counts once. -/
mutual
def uptoBulk {H : Type} : DataW H → Nat
  | .lit (.string bytes) => bytes.length + 1
  | .lit _ => 1
  | .nil => 1
  | .ptr d => uptoBulk d + 1
  | .slice elems spare => uptoBulkAll elems + uptoBulkAll spare + 1
  | .agg parts => uptoBulkAll parts + 1
  | .iface _ d => uptoBulk d + 1
  | .map entries => uptoBulkEntries entries + 1
  | .held _ => 1
def uptoBulkAll {H : Type} : List (DataW H) → Nat
  | [] => 0
  | d :: r => uptoBulk d + uptoBulkAll r
def uptoBulkEntries {H : Type} : List (Lit × DataW H) → Nat
  | [] => 0
  | x :: r => uptoBulkEntry x + uptoBulkEntries r
def uptoBulkEntry {H : Type} : Lit × DataW H → Nat
  | (.string bytes, d) => bytes.length + uptoBulk d + 1
  | (_, d) => uptoBulk d + 1
 end
def uptoSmall : (H : Type) → List (DataW H) → Bool := fun _ ds => decide (uptoBulkAll ds ≤ 1048576)
def OpenSpec.upto (s : _root_.Go.ChangeSpec) : _root_.Go.OpenSpec := { _root_.Go.OpenSpec.ofChange s with cond := some uptoSmall }

/-- 'laws.FnExactServerNew', WHERE WHAT IT READS IS OF BULK AT MOST 1048576: true; the input reads as it did. -/
def fnExactServerNewUptoRow : OpenClaim := { program := "ytckenihadlmlaaa", sum := "bf0ecfb4c7e2c850c74afae9221c48c13cb0d7b3c6e32b1410de8c593f126f37", func := "loop.example/g00324/laws.FnExactServerNew", spec := "fnExactServerNew", inPlace := ["internal/abi.NoEscape", "internal/bytealg.MakeNoZero"], apart := false, narrowed := true }
def FnExactServerNewUptoSaid : Prop := fnExactServerNewUptoRow.holds Try.pinned (OpenSpec.upto fnExactServerNewSpec)

/-- 'laws.FnExactFeedServer', WHERE WHAT IT READS IS OF BULK AT MOST 1048576: true; the input reads as it did. -/
def fnExactFeedServerUptoRow : OpenClaim := { program := "ytckenihadlmlaaa", sum := "bf0ecfb4c7e2c850c74afae9221c48c13cb0d7b3c6e32b1410de8c593f126f37", func := "loop.example/g00324/laws.FnExactFeedServer", spec := "fnExactFeedServer", apart := false, narrowed := true }
def FnExactFeedServerUptoSaid : Prop := fnExactFeedServerUptoRow.holds Try.pinned (OpenSpec.upto fnExactFeedServerSpec)

/-- 'laws.FnExactRiseServer', WHERE WHAT IT READS IS OF BULK AT MOST 1048576: true; the input reads as it did. -/
def fnExactRiseServerUptoRow : OpenClaim := { program := "ytckenihadlmlaaa", sum := "bf0ecfb4c7e2c850c74afae9221c48c13cb0d7b3c6e32b1410de8c593f126f37", func := "loop.example/g00324/laws.FnExactRiseServer", spec := "fnExactRiseServer", apart := false, narrowed := true }
def FnExactRiseServerUptoSaid : Prop := fnExactRiseServerUptoRow.holds Try.pinned (OpenSpec.upto fnExactRiseServerSpec)

end Rows
end Go.Proofs.Ytckenihadlmlaaa
