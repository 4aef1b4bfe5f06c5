/-
  No cell of these rows narrows 'for every input' (looked for: loops, veiled, ifaces, maps, wideKeys, modest, calm, conditions, laid).
  DERIVED. THE GIVEN ROWS OF THIS SEAT. 6 by the template 'for every input the law returns true; each argument reads behind the call as it read before'; 0 by the template 'total and deterministic' (their statements: YtfmacodnjhegcalTotals.lean).
  GIVEN WITH THE SEED: the statements are not yours to turn. If you find one false, say at which input.
  Laid BY PROGRAM, IN A SANDBOX (cutbox-rows.mjs): the forced cells as the released guide's own fill.sh prints them over the translation fb78e062a04c7c55… (all of the seat's roots in one cut). By AI agents, Wed Nov 11 2026. No macro, syntax, notation, axiom, sorry.
-/
import Derived.Test.YtfmacodnjhegcalChecked
import GoSem.Claim
import GoSem.ClaimJoined
import GoSem.ClaimMapViews
import Derived.JoinedTies
import Derived.KernelRfl
namespace Go.Proofs.Ytfmacodnjhegcal
/- THE CELL 'sum', in the pinned program and in every row, IS THE sha256 OF THE DUMP (.gsa) THAT YtfmacodnjhegcalProg.lean LOADS. Nothing in Lean hashes anything: it is a label: what it is worth is what the hold of that sum in a sandbox is worth. -/
noncomputable def Try.pinned : Pinned := { name := "ytfmacodnjhegcal", sum := "fb78e062a04c7c55f18a88ffe40393ffdce01aa60779b799147016c8e924c678", checked := Try.checked }
namespace Rows
def none {H : Type} : Left H := { results := [], args := [] }

/-- 'laws.FnExactMailOk': WHATEVER THE INPUT: true; the input reads as it did. -/
def fnExactMailOkSpec : ChangeSpec := { name := "fnExactMailOk", fn := fun _ => fun
  | [d] => { results := [.lit (.bool true)], args := [d] }
  | _ => none }
def fnExactMailOkRow : OpenClaim := { program := "ytfmacodnjhegcal", sum := "fb78e062a04c7c55f18a88ffe40393ffdce01aa60779b799147016c8e924c678", func := "loop.example/g00324/laws.FnExactMailOk", spec := "fnExactMailOk", apart := false }
def FnExactMailOkSaid : Prop := fnExactMailOkRow.holds Try.pinned (OpenSpec.ofChange fnExactMailOkSpec)

/-- ITS FALSE NEIGHBOUR: 'it returns false'. Refute it at one input. -/
def fnExactMailOkWrong : ChangeSpec := { name := "fnExactMailOk", fn := fun _ => fun
  | [d] => { results := [.lit (.bool false)], args := [d] }
  | _ => none }
def FnExactMailOkWrongFalsely : Prop := fnExactMailOkRow.holds Try.pinned (OpenSpec.ofChange fnExactMailOkWrong)

/-- 'laws.FnExactSameMail': WHATEVER THE INPUT: true; the input reads as it did. -/
def fnExactSameMailSpec : ChangeSpec := { name := "fnExactSameMail", fn := fun _ => fun
  | [d1, d2] => { results := [.lit (.bool true)], args := [d1, d2] }
  | _ => none }
def fnExactSameMailRow : OpenClaim := { program := "ytfmacodnjhegcal", sum := "fb78e062a04c7c55f18a88ffe40393ffdce01aa60779b799147016c8e924c678", func := "loop.example/g00324/laws.FnExactSameMail", spec := "fnExactSameMail", apart := false }
def FnExactSameMailSaid : Prop := fnExactSameMailRow.holds Try.pinned (OpenSpec.ofChange fnExactSameMailSpec)

/-- ITS FALSE NEIGHBOUR: 'it returns false'. Refute it at one input. -/
def fnExactSameMailWrong : ChangeSpec := { name := "fnExactSameMail", fn := fun _ => fun
  | [d1, d2] => { results := [.lit (.bool false)], args := [d1, d2] }
  | _ => none }
def FnExactSameMailWrongFalsely : Prop := fnExactSameMailRow.holds Try.pinned (OpenSpec.ofChange fnExactSameMailWrong)

/-- 'laws.FnExactJoinMail': WHATEVER THE INPUT: true; the input reads as it did. -/
def fnExactJoinMailSpec : ChangeSpec := { name := "fnExactJoinMail", fn := fun _ => fun
  | [d1, d2] => { results := [.lit (.bool true)], args := [d1, d2] }
  | _ => none }
def fnExactJoinMailRow : OpenClaim := { program := "ytfmacodnjhegcal", sum := "fb78e062a04c7c55f18a88ffe40393ffdce01aa60779b799147016c8e924c678", func := "loop.example/g00324/laws.FnExactJoinMail", spec := "fnExactJoinMail", apart := false }
def FnExactJoinMailSaid : Prop := fnExactJoinMailRow.holds Try.pinned (OpenSpec.ofChange fnExactJoinMailSpec)

/-- ITS FALSE NEIGHBOUR: 'it returns false'. Refute it at one input. -/
def fnExactJoinMailWrong : ChangeSpec := { name := "fnExactJoinMail", fn := fun _ => fun
  | [d1, d2] => { results := [.lit (.bool false)], args := [d1, d2] }
  | _ => none }
def FnExactJoinMailWrongFalsely : Prop := fnExactJoinMailRow.holds Try.pinned (OpenSpec.ofChange fnExactJoinMailWrong)

/-- 'laws.FnExactMailText': WHATEVER THE INPUT: true; the input reads as it did. -/
def fnExactMailTextSpec : ChangeSpec := { name := "fnExactMailText", fn := fun _ => fun
  | [d] => { results := [.lit (.bool true)], args := [d] }
  | _ => none }
def fnExactMailTextRow : OpenClaim := { program := "ytfmacodnjhegcal", sum := "fb78e062a04c7c55f18a88ffe40393ffdce01aa60779b799147016c8e924c678", func := "loop.example/g00324/laws.FnExactMailText", spec := "fnExactMailText", apart := false }
def FnExactMailTextSaid : Prop := fnExactMailTextRow.holds Try.pinned (OpenSpec.ofChange fnExactMailTextSpec)

/-- ITS FALSE NEIGHBOUR: 'it returns false'. Refute it at one input. -/
def fnExactMailTextWrong : ChangeSpec := { name := "fnExactMailText", fn := fun _ => fun
  | [d] => { results := [.lit (.bool false)], args := [d] }
  | _ => none }
def FnExactMailTextWrongFalsely : Prop := fnExactMailTextRow.holds Try.pinned (OpenSpec.ofChange fnExactMailTextWrong)

/-- 'laws.FnExactReadMail': WHATEVER THE INPUT: true; the input reads as it did. -/
def fnExactReadMailSpec : ChangeSpec := { name := "fnExactReadMail", fn := fun _ => fun
  | [d1, d2] => { results := [.lit (.bool true)], args := [d1, d2] }
  | _ => none }
def fnExactReadMailRow : OpenClaim := { program := "ytfmacodnjhegcal", sum := "fb78e062a04c7c55f18a88ffe40393ffdce01aa60779b799147016c8e924c678", func := "loop.example/g00324/laws.FnExactReadMail", spec := "fnExactReadMail", unfollowed := true, recurses := true, apart := false }
def FnExactReadMailSaid : Prop := fnExactReadMailRow.holds Try.pinned (OpenSpec.ofChange fnExactReadMailSpec)

/-- ITS FALSE NEIGHBOUR: 'it returns false'. Refute it at one input. -/
def fnExactReadMailWrong : ChangeSpec := { name := "fnExactReadMail", fn := fun _ => fun
  | [d1, d2] => { results := [.lit (.bool false)], args := [d1, d2] }
  | _ => none }
def FnExactReadMailWrongFalsely : Prop := fnExactReadMailRow.holds Try.pinned (OpenSpec.ofChange fnExactReadMailWrong)

/-- 'laws.FnExactNameOk': WHATEVER THE INPUT: true; the input reads as it did. -/
def fnExactNameOkSpec : ChangeSpec := { name := "fnExactNameOk", fn := fun _ => fun
  | [d] => { results := [.lit (.bool true)], args := [d] }
  | _ => none }
def fnExactNameOkRow : OpenClaim := { program := "ytfmacodnjhegcal", sum := "fb78e062a04c7c55f18a88ffe40393ffdce01aa60779b799147016c8e924c678", func := "loop.example/g00324/laws.FnExactNameOk", spec := "fnExactNameOk", apart := false }
def FnExactNameOkSaid : Prop := fnExactNameOkRow.holds Try.pinned (OpenSpec.ofChange fnExactNameOkSpec)

/-- ITS FALSE NEIGHBOUR: 'it returns false'. Refute it at one input. -/
def fnExactNameOkWrong : ChangeSpec := { name := "fnExactNameOk", fn := fun _ => fun
  | [d] => { results := [.lit (.bool false)], args := [d] }
  | _ => none }
def FnExactNameOkWrongFalsely : Prop := fnExactNameOkRow.holds Try.pinned (OpenSpec.ofChange fnExactNameOkWrong)

/- THE SECOND FORM. 'bulk': how many values and letters a reading holds, each counted each time it is reached (what is shared counts as often as it is met; a slice's spare places count too). A statement '..UptoSaid' is the law's where the arguments, and the package variables that the reading takes, are together of bulk at most 1048576: NARROWER than '..Said'. Prove '..Said' where nothing that the law and all that it calls make is longer than what came in: it says more and counts as full. Else prove '..UptoSaid'. A law counts once. -/
mutual
def uptoBulk {H : Type} : DataW H → Nat
  | .lit (.string bytes) => bytes.length + 1
  | .lit _ => 1
  | .nil => 1
  | .ptr d => uptoBulk d + 1
  | .slice elems spare => uptoBulkAll elems + uptoBulkAll spare + 1
  | .agg parts => uptoBulkAll parts + 1
  | .iface _ d => uptoBulk d + 1
  | .map entries => uptoBulkEntries entries + 1
  | .held _ => 1
def uptoBulkAll {H : Type} : List (DataW H) → Nat
  | [] => 0
  | d :: r => uptoBulk d + uptoBulkAll r
def uptoBulkEntries {H : Type} : List (Lit × DataW H) → Nat
  | [] => 0
  | x :: r => uptoBulkEntry x + uptoBulkEntries r
def uptoBulkEntry {H : Type} : Lit × DataW H → Nat
  | (.string bytes, d) => bytes.length + uptoBulk d + 1
  | (_, d) => uptoBulk d + 1
 end
def uptoSmall : (H : Type) → List (DataW H) → Bool := fun _ ds => decide (uptoBulkAll ds ≤ 1048576)
def OpenSpec.upto (s : _root_.Go.ChangeSpec) : _root_.Go.OpenSpec := { _root_.Go.OpenSpec.ofChange s with cond := some uptoSmall }

/-- 'laws.FnExactMailOk', WHERE WHAT IT READS IS OF BULK AT MOST 1048576: true; the input reads as it did. -/
def fnExactMailOkUptoRow : OpenClaim := { program := "ytfmacodnjhegcal", sum := "fb78e062a04c7c55f18a88ffe40393ffdce01aa60779b799147016c8e924c678", func := "loop.example/g00324/laws.FnExactMailOk", spec := "fnExactMailOk", apart := false, narrowed := true }
def FnExactMailOkUptoSaid : Prop := fnExactMailOkUptoRow.holds Try.pinned (OpenSpec.upto fnExactMailOkSpec)

/-- 'laws.FnExactSameMail', WHERE WHAT IT READS IS OF BULK AT MOST 1048576: true; the input reads as it did. -/
def fnExactSameMailUptoRow : OpenClaim := { program := "ytfmacodnjhegcal", sum := "fb78e062a04c7c55f18a88ffe40393ffdce01aa60779b799147016c8e924c678", func := "loop.example/g00324/laws.FnExactSameMail", spec := "fnExactSameMail", apart := false, narrowed := true }
def FnExactSameMailUptoSaid : Prop := fnExactSameMailUptoRow.holds Try.pinned (OpenSpec.upto fnExactSameMailSpec)

/-- 'laws.FnExactJoinMail', WHERE WHAT IT READS IS OF BULK AT MOST 1048576: true; the input reads as it did. -/
def fnExactJoinMailUptoRow : OpenClaim := { program := "ytfmacodnjhegcal", sum := "fb78e062a04c7c55f18a88ffe40393ffdce01aa60779b799147016c8e924c678", func := "loop.example/g00324/laws.FnExactJoinMail", spec := "fnExactJoinMail", apart := false, narrowed := true }
def FnExactJoinMailUptoSaid : Prop := fnExactJoinMailUptoRow.holds Try.pinned (OpenSpec.upto fnExactJoinMailSpec)

/-- 'laws.FnExactMailText', WHERE WHAT IT READS IS OF BULK AT MOST 1048576: true; the input reads as it did. -/
def fnExactMailTextUptoRow : OpenClaim := { program := "ytfmacodnjhegcal", sum := "fb78e062a04c7c55f18a88ffe40393ffdce01aa60779b799147016c8e924c678", func := "loop.example/g00324/laws.FnExactMailText", spec := "fnExactMailText", apart := false, narrowed := true }
def FnExactMailTextUptoSaid : Prop := fnExactMailTextUptoRow.holds Try.pinned (OpenSpec.upto fnExactMailTextSpec)

/-- 'laws.FnExactReadMail', WHERE WHAT IT READS IS OF BULK AT MOST 1048576: true; the input reads as it did. -/
def fnExactReadMailUptoRow : OpenClaim := { program := "ytfmacodnjhegcal", sum := "fb78e062a04c7c55f18a88ffe40393ffdce01aa60779b799147016c8e924c678", func := "loop.example/g00324/laws.FnExactReadMail", spec := "fnExactReadMail", unfollowed := true, recurses := true, apart := false, narrowed := true }
def FnExactReadMailUptoSaid : Prop := fnExactReadMailUptoRow.holds Try.pinned (OpenSpec.upto fnExactReadMailSpec)

/-- 'laws.FnExactNameOk', WHERE WHAT IT READS IS OF BULK AT MOST 1048576: true; the input reads as it did. -/
def fnExactNameOkUptoRow : OpenClaim := { program := "ytfmacodnjhegcal", sum := "fb78e062a04c7c55f18a88ffe40393ffdce01aa60779b799147016c8e924c678", func := "loop.example/g00324/laws.FnExactNameOk", spec := "fnExactNameOk", apart := false, narrowed := true }
def FnExactNameOkUptoSaid : Prop := fnExactNameOkUptoRow.holds Try.pinned (OpenSpec.upto fnExactNameOkSpec)

end Rows
end Go.Proofs.Ytfmacodnjhegcal
