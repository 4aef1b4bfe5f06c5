/- Mk. -/

import Derived.Test.YtjobfolipbfhlaoGreatdMkz
namespace Go.Proofs.YtjobfolipbfhlaoGreat
open Go.RowKit Go.ChangeMaps

theorem any_split {L : List M4} {gid : Int} (h : uq L = true) (ha : L.any (fun m => decide (m.1 = gid)) = true) :
    ∃ A m C, L = A ++ m :: C ∧ m.1 = gid ∧ (∀ x ∈ A, x.1 ≠ gid) ∧ (∀ x ∈ C, x.1 ≠ gid) := by
  obtain ⟨m, hm, he⟩ := List.any_eq_true.1 ha
  simp only [decide_eq_true_eq] at he
  obtain ⟨A, C, rfl⟩ := List.append_of_mem hm
  unfold uq at h
  simp only [decide_eq_true_eq, List.map_append, List.map_cons] at h
  obtain ⟨-, h2, h3⟩ := List.nodup_append.1 h
  have h4 := (List.nodup_cons.1 h2).1
  refine ⟨A, m, C, rfl, he, fun x hx e => ?_, fun x hx e => ?_⟩
  · exact h3 _ (List.mem_map_of_mem hx) m.1 (List.mem_cons_self ..) (by rw [e, he])
  · exact h4 (by rw [he, ← e]; exact List.mem_map_of_mem hx)
def fgm (m : M4) (n st sb : Int) : M4 := (m.1, m.2.1, sl m.2.2.1 n st sb, m.2.2.2)
def fmOk (g : Int) (nm : ByteArray) (t b nx : Int) (L : List M4) (G : List Int) (gid n st sb : Int) : Bool :=
  bxOk g nm t b nx L G && (L.any (fun m => decide (m.1 = gid)) && (flr n && stOk st sb))
def fmL (p : Bool) (L : List M4) (gid n st sb : Int) : List M4 := if p = true then L.map (fun m => if m.1 = gid then fgm m n st sb else m) else L
theorem fmL_no (L : List M4) (gid n st sb : Int) : fmL false L gid n st sb = L := by rw [fmL, if_neg (by decide)]
theorem fmL_len (p : Bool) (L : List M4) (gid n st sb : Int) : (fmL p L gid n st sb).length = L.length := by unfold fmL; split <;> simp
end Go.Proofs.YtjobfolipbfhlaoGreat

namespace Go.Proofs.YtjobfolipbfhlaoGreat
open Go.RowKit Go.ChangeMaps

end Go.Proofs.YtjobfolipbfhlaoGreat

namespace Go.Proofs.YtjobfolipbfhlaoGreat
open Go.RowKit Go.ChangeMaps

end Go.Proofs.YtjobfolipbfhlaoGreat

