/-
  No cell of these rows narrows 'for every input' (looked for: loops, veiled, ifaces, maps, wideKeys, modest, calm, conditions, laid).
  DERIVED. THE GIVEN ROWS OF THIS SEAT. 2 by the template 'for every input the law returns true; each argument reads behind the call as it read before'; 0 by the template 'total and deterministic' (their statements: YtdhkehpihbdkcaaTotals.lean).
  GIVEN WITH THE SEED: the statements are not yours to turn. If you find one false, say at which input.
  Laid BY PROGRAM, IN A SANDBOX (cutbox-rows.mjs): the forced cells as the released guide's own fill.sh prints them over the translation 865e18f4a4dd138c… (all of the seat's roots in one cut). By AI agents, Wed Nov 11 2026. No macro, syntax, notation, axiom, sorry.
-/
import Derived.Test.YtdhkehpihbdkcaaChecked
import GoSem.Claim
import GoSem.ClaimJoined
import GoSem.ClaimMapViews
import Derived.JoinedTies
import Derived.KernelRfl
namespace Go.Proofs.Ytdhkehpihbdkcaa
/- THE CELL 'sum', in the pinned program and in every row, IS THE sha256 OF THE DUMP (.gsa) THAT YtdhkehpihbdkcaaProg.lean LOADS. Nothing in Lean hashes anything: it is a label: what it is worth is what the hold of that sum in a sandbox is worth. -/
noncomputable def Try.pinned : Pinned := { name := "ytdhkehpihbdkcaa", sum := "865e18f4a4dd138c8e3db9e98e0605d8e7b4a3ce076889552b09f8d60b920c77", checked := Try.checked }
namespace Rows
def none {H : Type} : Left H := { results := [], args := [] }

/-- 'laws.FnExactSessionNew': WHATEVER THE INPUT: true; the input reads as it did. -/
def fnExactSessionNewSpec : ChangeSpec := { name := "fnExactSessionNew", fn := fun _ => fun
  | [] => { results := [.lit (.bool true)], args := [] }
  | _ => none }
def fnExactSessionNewRow : OpenClaim := { program := "ytdhkehpihbdkcaa", sum := "865e18f4a4dd138c8e3db9e98e0605d8e7b4a3ce076889552b09f8d60b920c77", func := "loop.example/g00324/laws.FnExactSessionNew", spec := "fnExactSessionNew", inPlace := ["internal/abi.NoEscape", "internal/bytealg.MakeNoZero"], apart := false }
def FnExactSessionNewSaid : Prop := fnExactSessionNewRow.holds Try.pinned (OpenSpec.ofChange fnExactSessionNewSpec)

/-- ITS FALSE NEIGHBOUR: 'it returns false'. Refute it at one input. -/
def fnExactSessionNewWrong : ChangeSpec := { name := "fnExactSessionNew", fn := fun _ => fun
  | [] => { results := [.lit (.bool false)], args := [] }
  | _ => none }
def FnExactSessionNewWrongFalsely : Prop := fnExactSessionNewRow.holds Try.pinned (OpenSpec.ofChange fnExactSessionNewWrong)

/-- 'laws.FnExactFeedSession': WHATEVER THE INPUT: true; the input reads as it did. -/
def fnExactFeedSessionSpec : ChangeSpec := { name := "fnExactFeedSession", fn := fun _ => fun
  | [d1, d2] => { results := [.lit (.bool true)], args := [d1, d2] }
  | _ => none }
def fnExactFeedSessionRow : OpenClaim := { program := "ytdhkehpihbdkcaa", sum := "865e18f4a4dd138c8e3db9e98e0605d8e7b4a3ce076889552b09f8d60b920c77", func := "loop.example/g00324/laws.FnExactFeedSession", spec := "fnExactFeedSession", apart := false }
def FnExactFeedSessionSaid : Prop := fnExactFeedSessionRow.holds Try.pinned (OpenSpec.ofChange fnExactFeedSessionSpec)

/-- ITS FALSE NEIGHBOUR: 'it returns false'. Refute it at one input. -/
def fnExactFeedSessionWrong : ChangeSpec := { name := "fnExactFeedSession", fn := fun _ => fun
  | [d1, d2] => { results := [.lit (.bool false)], args := [d1, d2] }
  | _ => none }
def FnExactFeedSessionWrongFalsely : Prop := fnExactFeedSessionRow.holds Try.pinned (OpenSpec.ofChange fnExactFeedSessionWrong)

/- THE SECOND FORM. 'bulk': how many values and letters a reading holds, each counted each time it is reached (what is shared counts as often as it is met; a slice's spare places count too). A statement '..UptoSaid' is the law's where the arguments, and the package variables that the reading takes, are together of bulk at most 1048576: NARROWER than '..Said'. Prove '..Said' where nothing that the law and all that it calls make is longer than what came in: it says more and counts as full. Else prove '..UptoSaid'. A law counts once. -/
mutual
def uptoBulk {H : Type} : DataW H → Nat
  | .lit (.string bytes) => bytes.length + 1
  | .lit _ => 1
  | .nil => 1
  | .ptr d => uptoBulk d + 1
  | .slice elems spare => uptoBulkAll elems + uptoBulkAll spare + 1
  | .agg parts => uptoBulkAll parts + 1
  | .iface _ d => uptoBulk d + 1
  | .map entries => uptoBulkEntries entries + 1
  | .held _ => 1
def uptoBulkAll {H : Type} : List (DataW H) → Nat
  | [] => 0
  | d :: r => uptoBulk d + uptoBulkAll r
def uptoBulkEntries {H : Type} : List (Lit × DataW H) → Nat
  | [] => 0
  | x :: r => uptoBulkEntry x + uptoBulkEntries r
def uptoBulkEntry {H : Type} : Lit × DataW H → Nat
  | (.string bytes, d) => bytes.length + uptoBulk d + 1
  | (_, d) => uptoBulk d + 1
 end
def uptoSmall : (H : Type) → List (DataW H) → Bool := fun _ ds => decide (uptoBulkAll ds ≤ 1048576)
def OpenSpec.upto (s : _root_.Go.ChangeSpec) : _root_.Go.OpenSpec := { _root_.Go.OpenSpec.ofChange s with cond := some uptoSmall }

/-- 'laws.FnExactSessionNew', WHERE WHAT IT READS IS OF BULK AT MOST 1048576: true; the input reads as it did. -/
def fnExactSessionNewUptoRow : OpenClaim := { program := "ytdhkehpihbdkcaa", sum := "865e18f4a4dd138c8e3db9e98e0605d8e7b4a3ce076889552b09f8d60b920c77", func := "loop.example/g00324/laws.FnExactSessionNew", spec := "fnExactSessionNew", inPlace := ["internal/abi.NoEscape", "internal/bytealg.MakeNoZero"], apart := false, narrowed := true }
def FnExactSessionNewUptoSaid : Prop := fnExactSessionNewUptoRow.holds Try.pinned (OpenSpec.upto fnExactSessionNewSpec)

/-- 'laws.FnExactFeedSession', WHERE WHAT IT READS IS OF BULK AT MOST 1048576: true; the input reads as it did. -/
def fnExactFeedSessionUptoRow : OpenClaim := { program := "ytdhkehpihbdkcaa", sum := "865e18f4a4dd138c8e3db9e98e0605d8e7b4a3ce076889552b09f8d60b920c77", func := "loop.example/g00324/laws.FnExactFeedSession", spec := "fnExactFeedSession", apart := false, narrowed := true }
def FnExactFeedSessionUptoSaid : Prop := fnExactFeedSessionUptoRow.holds Try.pinned (OpenSpec.upto fnExactFeedSessionSpec)

end Rows
end Go.Proofs.Ytdhkehpihbdkcaa
