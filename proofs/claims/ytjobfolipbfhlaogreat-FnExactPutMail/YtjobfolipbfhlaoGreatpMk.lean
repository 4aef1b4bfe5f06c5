/- Mk. -/

import Derived.Test.YtjobfolipbfhlaoGreatpMkz
namespace Go.Proofs.YtjobfolipbfhlaoGreat
open Go.RowKit Go.ChangeMaps

def fgm (m : M4) (n st sb : Int) : M4 := (m.1, m.2.1, sl m.2.2.1 n st sb, m.2.2.2)
def fmOk (g : Int) (nm : ByteArray) (t b nx : Int) (L : List M4) (G : List Int) (gid n st sb : Int) : Bool :=
  bxOk g nm t b nx L G && (L.any (fun m => decide (m.1 = gid)) && (flr n && stOk st sb))
def fmL (p : Bool) (L : List M4) (gid n st sb : Int) : List M4 := if p = true then L.map (fun m => if m.1 = gid then fgm m n st sb else m) else L
theorem fmL_no (L : List M4) (gid n st sb : Int) : fmL false L gid n st sb = L := by rw [fmL, if_neg (by decide)]
theorem fmL_len (p : Bool) (L : List M4) (gid n st sb : Int) : (fmL p L gid n st sb).length = L.length := by unfold fmL; split <;> simp
end Go.Proofs.YtjobfolipbfhlaoGreat

namespace Go.Proofs.YtjobfolipbfhlaoGreat
open Go.RowKit Go.ChangeMaps

end Go.Proofs.YtjobfolipbfhlaoGreat

namespace Go.Proofs.YtjobfolipbfhlaoGreat
open Go.RowKit Go.ChangeMaps

end Go.Proofs.YtjobfolipbfhlaoGreat

