/- Tik, Til, Tim, Tin, Tio, Tip. -/
import Derived.Test.YtjobfolipbfhlaoGreatdTij
import Derived.Lib.AppendZerosOnto
namespace Go.Proofs.YtjobfolipbfhlaoGreat
open Go.RowKit Go.ChangeMaps

theorem size_bx : (Tryz.prog.info? 53).map (·.size) = some 7 := by kernel_rfl

end Go.Proofs.YtjobfolipbfhlaoGreat

namespace Go.Proofs.YtjobfolipbfhlaoGreat
open Go.RowKit Go.ChangeMaps

abbrev zbx : Value := .agg #[.int .i64 0, .string ⟨#[]⟩, .int .i64 0, .int .i64 0, .int .i64 0, .slice none 0 0, .slice none 0 0]
end Go.Proofs.YtjobfolipbfhlaoGreat

namespace Go.Proofs.YtjobfolipbfhlaoGreat
open Go.RowKit Go.ChangeMaps

def insY (i : Nat) (y : Y9) (Y : List Y9) : List Y9 := Y.take i ++ y :: Y.drop i
theorem heap_drew (W : World) : W.drew.heap = W.heap := rfl
theorem cell_drew (W : World) (p : Addr) : W.drew.cell? p = W.cell? p := rfl
theorem OwX.one {W : World} {y : Y9} (h : OwX W y.lo y.hi y.mv y.gv y.L y.G) : ∀ u ∈ yc [y], u.oneCell' = true := yc_one h.slices.1 h.slices.2
end Go.Proofs.YtjobfolipbfhlaoGreat

namespace Go.Proofs.YtjobfolipbfhlaoGreat
open Go.RowKit Go.ChangeMaps

abbrev zb7 : List Value := (Builtin.zeroCells zbx.cells 1).toList
def delY (i : Nat) (Y : List Y9) : List Y9 := Y.take i ++ Y.drop (i + 1)
theorem delY_len {i : Nat} {Y : List Y9} (h : i < Y.length) : (delY i Y).length = Y.length - 1 := by
  unfold delY
  simp only [List.length_append, List.length_take, List.length_drop]
  omega
end Go.Proofs.YtjobfolipbfhlaoGreat

namespace Go.Proofs.YtjobfolipbfhlaoGreat
open Go.RowKit Go.ChangeMaps

end Go.Proofs.YtjobfolipbfhlaoGreat

namespace Go.Proofs.YtjobfolipbfhlaoGreat
open Go.RowKit Go.ChangeMaps

def insX (x : X7) (S : List X7) : List X7 := S.take (S.countP (fun b => decide (b.1 < x.1))) ++ x :: S.drop (S.countP (fun b => decide (b.1 < x.1)))
end Go.Proofs.YtjobfolipbfhlaoGreat

