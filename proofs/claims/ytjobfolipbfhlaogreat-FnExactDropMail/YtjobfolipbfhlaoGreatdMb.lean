/- Mb. -/
import Derived.Test.YtjobfolipbfhlaoGreatdMa
import Derived.Test.YtjobfolipbfhlaoGreatProg
import Derived.WalkKit
import Derived.WalkSpells
import Derived.WalkLawsBesides
import Derived.BigQuiet
import Derived.Deep.QuietTactic
import Derived.Deep.RegionHeld3
import Derived.Laws.Bits128
import Derived.Deep.Cut
namespace Go.Proofs.YtjobfolipbfhlaoGreat
open Go.RowKit

/-- The code's bytes lie below block cb. -/
def Code (w : World) (cb : Nat) (ao : Option Addr) (n : Nat) : Prop :=
  0 < n → ∃ b off, ao = some ⟨b, off, none⟩ ∧ b < cb ∧ ∀ j, j < n → ∃ z : Nat, z < 256 ∧ w.cell? ⟨b, off + j, none⟩ = some (.int .u8 (z : Int))

end Go.Proofs.YtjobfolipbfhlaoGreat

namespace Go.Proofs.YtjobfolipbfhlaoGreat
open Go.RowKit

theorem ret_str' {a b : ByteArray} (h : a = b) : Ending.returned (.string a) = .returned (.string b) := by rw [h]

end Go.Proofs.YtjobfolipbfhlaoGreat

namespace Go.Proofs.YtjobfolipbfhlaoGreat
open Go.RowKit

theorem Tryz.info3 : (Tryz.prog.info? 3).map (fun i => (i.zero, i.size, i.bytes)) = some (some (.int .i64 0), 1, 8) := by kernel_rfl

/-- A number as an int's cell. -/
def ic (z : Nat) : Value := .int .i64 (z : Int)

end Go.Proofs.YtjobfolipbfhlaoGreat

namespace Go.Proofs.YtjobfolipbfhlaoGreat
open Go.RowKit

theorem Rg.kept {W W' : World} {k ty cb : Nat} {v t b : Int} (h : Rg W k ty v t b) (hg : W.grownBy W' (some cb)) (hk : k ≠ cb) : Rg W' k ty v t b := (hg.block k h.lt (by simpa using hk)).trans h
theorem Sg.kept {W W' : World} {k ty cb : Nat} {t b : Int} (h : Sg W k ty t b) (hg : W.grownBy W' (some cb)) (hk : k ≠ cb) : Sg W' k ty t b := (hg.block k h.lt (by simpa using hk)).trans h
theorem gre (w : World) (cb : Nat) : w.grownBy w (some cb) := ⟨rfl, rfl, rfl, Nat.le_refl _, fun _ _ _ => rfl⟩
theorem gdr {w w2 : World} {cb : Nat} (h : w.grownBy w2 (some cb)) : w.grownBy w2.drew (some cb) := ⟨h.os, h.tape, h.output, h.size, h.block⟩
end Go.Proofs.YtjobfolipbfhlaoGreat

