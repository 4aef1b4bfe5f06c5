/-
  No cell of these rows narrows 'for every input' (looked for: loops, veiled, ifaces, maps, wideKeys, modest, calm, conditions, laid).
  DERIVED. THE GIVEN ROWS OF THIS SEAT. 5 by the template 'for every input the law returns true; each argument reads behind the call as it read before'; 0 by the template 'total and deterministic' (their statements: YtjobfolipbfhlaoGreatTotals.lean).
  GIVEN WITH THE SEED: the statements are not yours to turn. If you find one false, say at which input.
  Laid BY PROGRAM, IN A SANDBOX (cutbox-rows.mjs): the forced cells as the released guide's own fill.sh prints them over the translation 60cf20997f0712a8… (all of the seat's roots in one cut). By AI agents, Wed Nov 11 2026. No macro, syntax, notation, axiom, sorry.
-/
import Derived.Test.YtjobfolipbfhlaoGreatChecked
import GoSem.Claim
import GoSem.ClaimJoined
import GoSem.ClaimMapViews
import Derived.JoinedTies
import Derived.KernelRfl
namespace Go.Proofs.YtjobfolipbfhlaoGreat
/- THE CELL 'sum', in the pinned program and in every row, IS THE sha256 OF THE DUMP (.gsa) THAT YtjobfolipbfhlaoGreatProg.lean LOADS. Nothing in Lean hashes anything: it is a label: what it is worth is what the hold of that sum in a sandbox is worth. -/
noncomputable def Tryz.pinned : Pinned := { name := "ytjobfolipbfhlaogreat", sum := "60cf20997f0712a8ca89a6538d371af04bbbb8661f40935c3a2a6d33cc6e7738", checked := Tryz.checked }
namespace Rows
def none {H : Type} : Left H := { results := [], args := [] }

/-- 'laws.FnExactRenameBox': WHATEVER THE INPUT: true; the input reads as it did. -/
def fnExactRenameBoxSpec : ChangeSpec := { name := "fnExactRenameBox", fn := fun _ => fun
  | [d1, d2, d3] => { results := [.lit (.bool true)], args := [d1, d2, d3] }
  | _ => none }
def fnExactRenameBoxRow : OpenClaim := { program := "ytjobfolipbfhlaogreat", sum := "60cf20997f0712a8ca89a6538d371af04bbbb8661f40935c3a2a6d33cc6e7738", func := "loop.example/g00324/laws.FnExactRenameBox", spec := "fnExactRenameBox", unfollowed := true, recurses := true, apart := false }
def FnExactRenameBoxSaid : Prop := fnExactRenameBoxRow.holds Tryz.pinned (OpenSpec.ofChange fnExactRenameBoxSpec)

/-- ITS FALSE NEIGHBOUR: 'it returns false'. Refute it at one input. -/
def fnExactRenameBoxWrong : ChangeSpec := { name := "fnExactRenameBox", fn := fun _ => fun
  | [d1, d2, d3] => { results := [.lit (.bool false)], args := [d1, d2, d3] }
  | _ => none }
def FnExactRenameBoxWrongFalsely : Prop := fnExactRenameBoxRow.holds Tryz.pinned (OpenSpec.ofChange fnExactRenameBoxWrong)

/-- 'laws.FnExactDropBox': WHATEVER THE INPUT: true; the input reads as it did. -/
def fnExactDropBoxSpec : ChangeSpec := { name := "fnExactDropBox", fn := fun _ => fun
  | [d1, d2] => { results := [.lit (.bool true)], args := [d1, d2] }
  | _ => none }
def fnExactDropBoxRow : OpenClaim := { program := "ytjobfolipbfhlaogreat", sum := "60cf20997f0712a8ca89a6538d371af04bbbb8661f40935c3a2a6d33cc6e7738", func := "loop.example/g00324/laws.FnExactDropBox", spec := "fnExactDropBox", inPlace := ["slices.overlaps[int]"], unfollowed := true, recurses := true, apart := false }
def FnExactDropBoxSaid : Prop := fnExactDropBoxRow.holds Tryz.pinned (OpenSpec.ofChange fnExactDropBoxSpec)

/-- ITS FALSE NEIGHBOUR: 'it returns false'. Refute it at one input. -/
def fnExactDropBoxWrong : ChangeSpec := { name := "fnExactDropBox", fn := fun _ => fun
  | [d1, d2] => { results := [.lit (.bool false)], args := [d1, d2] }
  | _ => none }
def FnExactDropBoxWrongFalsely : Prop := fnExactDropBoxRow.holds Tryz.pinned (OpenSpec.ofChange fnExactDropBoxWrong)

/-- 'laws.FnExactPutMail': WHATEVER THE INPUT: true; the input reads as it did. -/
def fnExactPutMailSpec : ChangeSpec := { name := "fnExactPutMail", fn := fun _ => fun
  | [d1, d2, d3, d4, d5] => { results := [.lit (.bool true)], args := [d1, d2, d3, d4, d5] }
  | _ => none }
def fnExactPutMailRow : OpenClaim := { program := "ytjobfolipbfhlaogreat", sum := "60cf20997f0712a8ca89a6538d371af04bbbb8661f40935c3a2a6d33cc6e7738", func := "loop.example/g00324/laws.FnExactPutMail", spec := "fnExactPutMail", unfollowed := true, recurses := true, apart := false }
def FnExactPutMailSaid : Prop := fnExactPutMailRow.holds Tryz.pinned (OpenSpec.ofChange fnExactPutMailSpec)

/-- ITS FALSE NEIGHBOUR: 'it returns false'. Refute it at one input. -/
def fnExactPutMailWrong : ChangeSpec := { name := "fnExactPutMail", fn := fun _ => fun
  | [d1, d2, d3, d4, d5] => { results := [.lit (.bool false)], args := [d1, d2, d3, d4, d5] }
  | _ => none }
def FnExactPutMailWrongFalsely : Prop := fnExactPutMailRow.holds Tryz.pinned (OpenSpec.ofChange fnExactPutMailWrong)

/-- 'laws.FnExactMarkMail': WHATEVER THE INPUT: true; the input reads as it did. -/
def fnExactMarkMailSpec : ChangeSpec := { name := "fnExactMarkMail", fn := fun _ => fun
  | [d1, d2, d3, d4] => { results := [.lit (.bool true)], args := [d1, d2, d3, d4] }
  | _ => none }
def fnExactMarkMailRow : OpenClaim := { program := "ytjobfolipbfhlaogreat", sum := "60cf20997f0712a8ca89a6538d371af04bbbb8661f40935c3a2a6d33cc6e7738", func := "loop.example/g00324/laws.FnExactMarkMail", spec := "fnExactMarkMail", unfollowed := true, recurses := true, apart := false }
def FnExactMarkMailSaid : Prop := fnExactMarkMailRow.holds Tryz.pinned (OpenSpec.ofChange fnExactMarkMailSpec)

/-- ITS FALSE NEIGHBOUR: 'it returns false'. Refute it at one input. -/
def fnExactMarkMailWrong : ChangeSpec := { name := "fnExactMarkMail", fn := fun _ => fun
  | [d1, d2, d3, d4] => { results := [.lit (.bool false)], args := [d1, d2, d3, d4] }
  | _ => none }
def FnExactMarkMailWrongFalsely : Prop := fnExactMarkMailRow.holds Tryz.pinned (OpenSpec.ofChange fnExactMarkMailWrong)

/-- 'laws.FnExactDropMail': WHATEVER THE INPUT: true; the input reads as it did. -/
def fnExactDropMailSpec : ChangeSpec := { name := "fnExactDropMail", fn := fun _ => fun
  | [d1, d2, d3] => { results := [.lit (.bool true)], args := [d1, d2, d3] }
  | _ => none }
def fnExactDropMailRow : OpenClaim := { program := "ytjobfolipbfhlaogreat", sum := "60cf20997f0712a8ca89a6538d371af04bbbb8661f40935c3a2a6d33cc6e7738", func := "loop.example/g00324/laws.FnExactDropMail", spec := "fnExactDropMail", inPlace := ["slices.overlaps[int]"], unfollowed := true, recurses := true, apart := false }
def FnExactDropMailSaid : Prop := fnExactDropMailRow.holds Tryz.pinned (OpenSpec.ofChange fnExactDropMailSpec)

/-- ITS FALSE NEIGHBOUR: 'it returns false'. Refute it at one input. -/
def fnExactDropMailWrong : ChangeSpec := { name := "fnExactDropMail", fn := fun _ => fun
  | [d1, d2, d3] => { results := [.lit (.bool false)], args := [d1, d2, d3] }
  | _ => none }
def FnExactDropMailWrongFalsely : Prop := fnExactDropMailRow.holds Tryz.pinned (OpenSpec.ofChange fnExactDropMailWrong)

/- THE SECOND FORM. 'bulk': how many values and letters a reading holds, each counted each time it is reached (what is shared counts as often as it is met; a slice's spare places count too). A statement '..UptoSaid' is the law's where the arguments, and the package variables that the reading takes, are together of bulk at most 1048576: NARROWER than '..Said'. Prove '..Said' where nothing that the law and all that it calls make is longer than what came in: it says more and counts as full. Else prove '..UptoSaid'. A law counts once. -/
mutual
def uptoBulk {H : Type} : DataW H → Nat
  | .lit (.string bytes) => bytes.length + 1
  | .lit _ => 1
  | .nil => 1
  | .ptr d => uptoBulk d + 1
  | .slice elems spare => uptoBulkAll elems + uptoBulkAll spare + 1
  | .agg parts => uptoBulkAll parts + 1
  | .iface _ d => uptoBulk d + 1
  | .map entries => uptoBulkEntries entries + 1
  | .held _ => 1
def uptoBulkAll {H : Type} : List (DataW H) → Nat
  | [] => 0
  | d :: r => uptoBulk d + uptoBulkAll r
def uptoBulkEntries {H : Type} : List (Lit × DataW H) → Nat
  | [] => 0
  | x :: r => uptoBulkEntry x + uptoBulkEntries r
def uptoBulkEntry {H : Type} : Lit × DataW H → Nat
  | (.string bytes, d) => bytes.length + uptoBulk d + 1
  | (_, d) => uptoBulk d + 1
 end
def uptoSmall : (H : Type) → List (DataW H) → Bool := fun _ ds => decide (uptoBulkAll ds ≤ 1048576)
def OpenSpec.upto (s : _root_.Go.ChangeSpec) : _root_.Go.OpenSpec := { _root_.Go.OpenSpec.ofChange s with cond := some uptoSmall }

/-- 'laws.FnExactRenameBox', WHERE WHAT IT READS IS OF BULK AT MOST 1048576: true; the input reads as it did. -/
def fnExactRenameBoxUptoRow : OpenClaim := { program := "ytjobfolipbfhlaogreat", sum := "60cf20997f0712a8ca89a6538d371af04bbbb8661f40935c3a2a6d33cc6e7738", func := "loop.example/g00324/laws.FnExactRenameBox", spec := "fnExactRenameBox", unfollowed := true, recurses := true, apart := false, narrowed := true }
def FnExactRenameBoxUptoSaid : Prop := fnExactRenameBoxUptoRow.holds Tryz.pinned (OpenSpec.upto fnExactRenameBoxSpec)

/-- 'laws.FnExactDropBox', WHERE WHAT IT READS IS OF BULK AT MOST 1048576: true; the input reads as it did. -/
def fnExactDropBoxUptoRow : OpenClaim := { program := "ytjobfolipbfhlaogreat", sum := "60cf20997f0712a8ca89a6538d371af04bbbb8661f40935c3a2a6d33cc6e7738", func := "loop.example/g00324/laws.FnExactDropBox", spec := "fnExactDropBox", inPlace := ["slices.overlaps[int]"], unfollowed := true, recurses := true, apart := false, narrowed := true }
def FnExactDropBoxUptoSaid : Prop := fnExactDropBoxUptoRow.holds Tryz.pinned (OpenSpec.upto fnExactDropBoxSpec)

/-- 'laws.FnExactPutMail', WHERE WHAT IT READS IS OF BULK AT MOST 1048576: true; the input reads as it did. -/
def fnExactPutMailUptoRow : OpenClaim := { program := "ytjobfolipbfhlaogreat", sum := "60cf20997f0712a8ca89a6538d371af04bbbb8661f40935c3a2a6d33cc6e7738", func := "loop.example/g00324/laws.FnExactPutMail", spec := "fnExactPutMail", unfollowed := true, recurses := true, apart := false, narrowed := true }
def FnExactPutMailUptoSaid : Prop := fnExactPutMailUptoRow.holds Tryz.pinned (OpenSpec.upto fnExactPutMailSpec)

/-- 'laws.FnExactMarkMail', WHERE WHAT IT READS IS OF BULK AT MOST 1048576: true; the input reads as it did. -/
def fnExactMarkMailUptoRow : OpenClaim := { program := "ytjobfolipbfhlaogreat", sum := "60cf20997f0712a8ca89a6538d371af04bbbb8661f40935c3a2a6d33cc6e7738", func := "loop.example/g00324/laws.FnExactMarkMail", spec := "fnExactMarkMail", unfollowed := true, recurses := true, apart := false, narrowed := true }
def FnExactMarkMailUptoSaid : Prop := fnExactMarkMailUptoRow.holds Tryz.pinned (OpenSpec.upto fnExactMarkMailSpec)

/-- 'laws.FnExactDropMail', WHERE WHAT IT READS IS OF BULK AT MOST 1048576: true; the input reads as it did. -/
def fnExactDropMailUptoRow : OpenClaim := { program := "ytjobfolipbfhlaogreat", sum := "60cf20997f0712a8ca89a6538d371af04bbbb8661f40935c3a2a6d33cc6e7738", func := "loop.example/g00324/laws.FnExactDropMail", spec := "fnExactDropMail", inPlace := ["slices.overlaps[int]"], unfollowed := true, recurses := true, apart := false, narrowed := true }
def FnExactDropMailUptoSaid : Prop := fnExactDropMailUptoRow.holds Tryz.pinned (OpenSpec.upto fnExactDropMailSpec)

end Rows
end Go.Proofs.YtjobfolipbfhlaoGreat
