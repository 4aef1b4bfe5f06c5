/-
  No cell of these rows narrows 'for every input' (looked for: loops, veiled, ifaces, maps, wideKeys, modest, calm, conditions, laid).
  DERIVED. THE GIVEN ROWS OF THIS SEAT. 6 by the template 'for every input the law returns true; each argument reads behind the call as it read before'; 0 by the template 'total and deterministic' (their statements: YtdpabaebbdhmmakTotals.lean).
  GIVEN WITH THE SEED: the statements are not yours to turn. If you find one false, say at which input.
  Laid BY PROGRAM, IN A SANDBOX (cutbox-rows.mjs): the forced cells as the released guide's own fill.sh prints them over the translation d7be3d0367787a04… (all of the seat's roots in one cut). By AI agents, Wed Nov 11 2026. No macro, syntax, notation, axiom, sorry.
-/
import Derived.Test.YtdpabaebbdhmmakChecked
import GoSem.Claim
import GoSem.ClaimJoined
import GoSem.ClaimMapViews
import Derived.JoinedTies
import Derived.KernelRfl
namespace Go.Proofs.Ytdpabaebbdhmmak
/- THE CELL 'sum', in the pinned program and in every row, IS THE sha256 OF THE DUMP (.gsa) THAT YtdpabaebbdhmmakProg.lean LOADS. Nothing in Lean hashes anything: it is a label: what it is worth is what the hold of that sum in a sandbox is worth. -/
noncomputable def Try.pinned : Pinned := { name := "ytdpabaebbdhmmak", sum := "d7be3d0367787a04266ba470826efc45cec6ddfe47fd51b976ca9b2c27c4e528", checked := Try.checked }
namespace Rows
def none {H : Type} : Left H := { results := [], args := [] }

/-- 'laws.FnExactJoinReg': WHATEVER THE INPUT: true; the input reads as it did. -/
def fnExactJoinRegSpec : ChangeSpec := { name := "fnExactJoinReg", fn := fun _ => fun
  | [d1, d2] => { results := [.lit (.bool true)], args := [d1, d2] }
  | _ => none }
def fnExactJoinRegRow : OpenClaim := { program := "ytdpabaebbdhmmak", sum := "d7be3d0367787a04266ba470826efc45cec6ddfe47fd51b976ca9b2c27c4e528", func := "loop.example/g00324/laws.FnExactJoinReg", spec := "fnExactJoinReg", apart := false }
def FnExactJoinRegSaid : Prop := fnExactJoinRegRow.holds Try.pinned (OpenSpec.ofChange fnExactJoinRegSpec)

/-- ITS FALSE NEIGHBOUR: 'it returns false'. Refute it at one input. -/
def fnExactJoinRegWrong : ChangeSpec := { name := "fnExactJoinReg", fn := fun _ => fun
  | [d1, d2] => { results := [.lit (.bool false)], args := [d1, d2] }
  | _ => none }
def FnExactJoinRegWrongFalsely : Prop := fnExactJoinRegRow.holds Try.pinned (OpenSpec.ofChange fnExactJoinRegWrong)

/-- 'laws.FnExactFlagsNew': WHATEVER THE INPUT: true; the input reads as it did. -/
def fnExactFlagsNewSpec : ChangeSpec := { name := "fnExactFlagsNew", fn := fun _ => fun
  | [d1, d2] => { results := [.lit (.bool true)], args := [d1, d2] }
  | _ => none }
def fnExactFlagsNewRow : OpenClaim := { program := "ytdpabaebbdhmmak", sum := "d7be3d0367787a04266ba470826efc45cec6ddfe47fd51b976ca9b2c27c4e528", func := "loop.example/g00324/laws.FnExactFlagsNew", spec := "fnExactFlagsNew", apart := false }
def FnExactFlagsNewSaid : Prop := fnExactFlagsNewRow.holds Try.pinned (OpenSpec.ofChange fnExactFlagsNewSpec)

/-- ITS FALSE NEIGHBOUR: 'it returns false'. Refute it at one input. -/
def fnExactFlagsNewWrong : ChangeSpec := { name := "fnExactFlagsNew", fn := fun _ => fun
  | [d1, d2] => { results := [.lit (.bool false)], args := [d1, d2] }
  | _ => none }
def FnExactFlagsNewWrongFalsely : Prop := fnExactFlagsNewRow.holds Try.pinned (OpenSpec.ofChange fnExactFlagsNewWrong)

/-- 'laws.FnExactFlagsOk': WHATEVER THE INPUT: true; the input reads as it did. -/
def fnExactFlagsOkSpec : ChangeSpec := { name := "fnExactFlagsOk", fn := fun _ => fun
  | [d] => { results := [.lit (.bool true)], args := [d] }
  | _ => none }
def fnExactFlagsOkRow : OpenClaim := { program := "ytdpabaebbdhmmak", sum := "d7be3d0367787a04266ba470826efc45cec6ddfe47fd51b976ca9b2c27c4e528", func := "loop.example/g00324/laws.FnExactFlagsOk", spec := "fnExactFlagsOk", apart := false }
def FnExactFlagsOkSaid : Prop := fnExactFlagsOkRow.holds Try.pinned (OpenSpec.ofChange fnExactFlagsOkSpec)

/-- ITS FALSE NEIGHBOUR: 'it returns false'. Refute it at one input. -/
def fnExactFlagsOkWrong : ChangeSpec := { name := "fnExactFlagsOk", fn := fun _ => fun
  | [d] => { results := [.lit (.bool false)], args := [d] }
  | _ => none }
def FnExactFlagsOkWrongFalsely : Prop := fnExactFlagsOkRow.holds Try.pinned (OpenSpec.ofChange fnExactFlagsOkWrong)

/-- 'laws.FnExactFlagsOf': WHATEVER THE INPUT: true; the input reads as it did. -/
def fnExactFlagsOfSpec : ChangeSpec := { name := "fnExactFlagsOf", fn := fun _ => fun
  | [d] => { results := [.lit (.bool true)], args := [d] }
  | _ => none }
def fnExactFlagsOfRow : OpenClaim := { program := "ytdpabaebbdhmmak", sum := "d7be3d0367787a04266ba470826efc45cec6ddfe47fd51b976ca9b2c27c4e528", func := "loop.example/g00324/laws.FnExactFlagsOf", spec := "fnExactFlagsOf", apart := false }
def FnExactFlagsOfSaid : Prop := fnExactFlagsOfRow.holds Try.pinned (OpenSpec.ofChange fnExactFlagsOfSpec)

/-- ITS FALSE NEIGHBOUR: 'it returns false'. Refute it at one input. -/
def fnExactFlagsOfWrong : ChangeSpec := { name := "fnExactFlagsOf", fn := fun _ => fun
  | [d] => { results := [.lit (.bool false)], args := [d] }
  | _ => none }
def FnExactFlagsOfWrongFalsely : Prop := fnExactFlagsOfRow.holds Try.pinned (OpenSpec.ofChange fnExactFlagsOfWrong)

/-- 'laws.FnExactSetFlags': WHATEVER THE INPUT: true; the input reads as it did. -/
def fnExactSetFlagsSpec : ChangeSpec := { name := "fnExactSetFlags", fn := fun _ => fun
  | [d1, d2, d3] => { results := [.lit (.bool true)], args := [d1, d2, d3] }
  | _ => none }
def fnExactSetFlagsRow : OpenClaim := { program := "ytdpabaebbdhmmak", sum := "d7be3d0367787a04266ba470826efc45cec6ddfe47fd51b976ca9b2c27c4e528", func := "loop.example/g00324/laws.FnExactSetFlags", spec := "fnExactSetFlags", apart := false }
def FnExactSetFlagsSaid : Prop := fnExactSetFlagsRow.holds Try.pinned (OpenSpec.ofChange fnExactSetFlagsSpec)

/-- ITS FALSE NEIGHBOUR: 'it returns false'. Refute it at one input. -/
def fnExactSetFlagsWrong : ChangeSpec := { name := "fnExactSetFlags", fn := fun _ => fun
  | [d1, d2, d3] => { results := [.lit (.bool false)], args := [d1, d2, d3] }
  | _ => none }
def FnExactSetFlagsWrongFalsely : Prop := fnExactSetFlagsRow.holds Try.pinned (OpenSpec.ofChange fnExactSetFlagsWrong)

/-- 'laws.FnExactJoinFlags': WHATEVER THE INPUT: true; the input reads as it did. -/
def fnExactJoinFlagsSpec : ChangeSpec := { name := "fnExactJoinFlags", fn := fun _ => fun
  | [d1, d2] => { results := [.lit (.bool true)], args := [d1, d2] }
  | _ => none }
def fnExactJoinFlagsRow : OpenClaim := { program := "ytdpabaebbdhmmak", sum := "d7be3d0367787a04266ba470826efc45cec6ddfe47fd51b976ca9b2c27c4e528", func := "loop.example/g00324/laws.FnExactJoinFlags", spec := "fnExactJoinFlags", apart := false }
def FnExactJoinFlagsSaid : Prop := fnExactJoinFlagsRow.holds Try.pinned (OpenSpec.ofChange fnExactJoinFlagsSpec)

/-- ITS FALSE NEIGHBOUR: 'it returns false'. Refute it at one input. -/
def fnExactJoinFlagsWrong : ChangeSpec := { name := "fnExactJoinFlags", fn := fun _ => fun
  | [d1, d2] => { results := [.lit (.bool false)], args := [d1, d2] }
  | _ => none }
def FnExactJoinFlagsWrongFalsely : Prop := fnExactJoinFlagsRow.holds Try.pinned (OpenSpec.ofChange fnExactJoinFlagsWrong)

/- THE SECOND FORM. 'bulk': how many values and letters a reading holds, each counted each time it is reached (what is shared counts as often as it is met; a slice's spare places count too). A statement '..UptoSaid' is the law's where the arguments, and the package variables that the reading takes, are together of bulk at most 1048576: NARROWER than '..Said'. Prove '..Said' where nothing that the law and all that it calls make is longer than what came in: it says more and counts as full. Else prove '..UptoSaid'. A law counts once. -/
mutual
def uptoBulk {H : Type} : DataW H → Nat
  | .lit (.string bytes) => bytes.length + 1
  | .lit _ => 1
  | .nil => 1
  | .ptr d => uptoBulk d + 1
  | .slice elems spare => uptoBulkAll elems + uptoBulkAll spare + 1
  | .agg parts => uptoBulkAll parts + 1
  | .iface _ d => uptoBulk d + 1
  | .map entries => uptoBulkEntries entries + 1
  | .held _ => 1
def uptoBulkAll {H : Type} : List (DataW H) → Nat
  | [] => 0
  | d :: r => uptoBulk d + uptoBulkAll r
def uptoBulkEntries {H : Type} : List (Lit × DataW H) → Nat
  | [] => 0
  | x :: r => uptoBulkEntry x + uptoBulkEntries r
def uptoBulkEntry {H : Type} : Lit × DataW H → Nat
  | (.string bytes, d) => bytes.length + uptoBulk d + 1
  | (_, d) => uptoBulk d + 1
 end
def uptoSmall : (H : Type) → List (DataW H) → Bool := fun _ ds => decide (uptoBulkAll ds ≤ 1048576)
def OpenSpec.upto (s : _root_.Go.ChangeSpec) : _root_.Go.OpenSpec := { _root_.Go.OpenSpec.ofChange s with cond := some uptoSmall }

/-- 'laws.FnExactJoinReg', WHERE WHAT IT READS IS OF BULK AT MOST 1048576: true; the input reads as it did. -/
def fnExactJoinRegUptoRow : OpenClaim := { program := "ytdpabaebbdhmmak", sum := "d7be3d0367787a04266ba470826efc45cec6ddfe47fd51b976ca9b2c27c4e528", func := "loop.example/g00324/laws.FnExactJoinReg", spec := "fnExactJoinReg", apart := false, narrowed := true }
def FnExactJoinRegUptoSaid : Prop := fnExactJoinRegUptoRow.holds Try.pinned (OpenSpec.upto fnExactJoinRegSpec)

/-- 'laws.FnExactFlagsNew', WHERE WHAT IT READS IS OF BULK AT MOST 1048576: true; the input reads as it did. -/
def fnExactFlagsNewUptoRow : OpenClaim := { program := "ytdpabaebbdhmmak", sum := "d7be3d0367787a04266ba470826efc45cec6ddfe47fd51b976ca9b2c27c4e528", func := "loop.example/g00324/laws.FnExactFlagsNew", spec := "fnExactFlagsNew", apart := false, narrowed := true }
def FnExactFlagsNewUptoSaid : Prop := fnExactFlagsNewUptoRow.holds Try.pinned (OpenSpec.upto fnExactFlagsNewSpec)

/-- 'laws.FnExactFlagsOk', WHERE WHAT IT READS IS OF BULK AT MOST 1048576: true; the input reads as it did. -/
def fnExactFlagsOkUptoRow : OpenClaim := { program := "ytdpabaebbdhmmak", sum := "d7be3d0367787a04266ba470826efc45cec6ddfe47fd51b976ca9b2c27c4e528", func := "loop.example/g00324/laws.FnExactFlagsOk", spec := "fnExactFlagsOk", apart := false, narrowed := true }
def FnExactFlagsOkUptoSaid : Prop := fnExactFlagsOkUptoRow.holds Try.pinned (OpenSpec.upto fnExactFlagsOkSpec)

/-- 'laws.FnExactFlagsOf', WHERE WHAT IT READS IS OF BULK AT MOST 1048576: true; the input reads as it did. -/
def fnExactFlagsOfUptoRow : OpenClaim := { program := "ytdpabaebbdhmmak", sum := "d7be3d0367787a04266ba470826efc45cec6ddfe47fd51b976ca9b2c27c4e528", func := "loop.example/g00324/laws.FnExactFlagsOf", spec := "fnExactFlagsOf", apart := false, narrowed := true }
def FnExactFlagsOfUptoSaid : Prop := fnExactFlagsOfUptoRow.holds Try.pinned (OpenSpec.upto fnExactFlagsOfSpec)

/-- 'laws.FnExactSetFlags', WHERE WHAT IT READS IS OF BULK AT MOST 1048576: true; the input reads as it did. -/
def fnExactSetFlagsUptoRow : OpenClaim := { program := "ytdpabaebbdhmmak", sum := "d7be3d0367787a04266ba470826efc45cec6ddfe47fd51b976ca9b2c27c4e528", func := "loop.example/g00324/laws.FnExactSetFlags", spec := "fnExactSetFlags", apart := false, narrowed := true }
def FnExactSetFlagsUptoSaid : Prop := fnExactSetFlagsUptoRow.holds Try.pinned (OpenSpec.upto fnExactSetFlagsSpec)

/-- 'laws.FnExactJoinFlags', WHERE WHAT IT READS IS OF BULK AT MOST 1048576: true; the input reads as it did. -/
def fnExactJoinFlagsUptoRow : OpenClaim := { program := "ytdpabaebbdhmmak", sum := "d7be3d0367787a04266ba470826efc45cec6ddfe47fd51b976ca9b2c27c4e528", func := "loop.example/g00324/laws.FnExactJoinFlags", spec := "fnExactJoinFlags", apart := false, narrowed := true }
def FnExactJoinFlagsUptoSaid : Prop := fnExactJoinFlagsUptoRow.holds Try.pinned (OpenSpec.upto fnExactJoinFlagsSpec)

end Rows
end Go.Proofs.Ytdpabaebbdhmmak
