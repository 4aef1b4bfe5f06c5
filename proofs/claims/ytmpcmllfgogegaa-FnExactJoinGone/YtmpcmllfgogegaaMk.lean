/- FlagP, FlagM, FlagI, in one text. -/
import Derived.Test.YtmpcmllfgogegaaMkz
namespace Go.Proofs.Ytmpcmllfgogegaa
open Go.RowKit Go.ChangeMaps

theorem any_split {L : List M4} {gid : Int} (h : uq L = true) (ha : L.any (fun m => decide (m.1 = gid)) = true) :
    ∃ A m C, L = A ++ m :: C ∧ m.1 = gid ∧ (∀ x ∈ A, x.1 ≠ gid) ∧ (∀ x ∈ C, x.1 ≠ gid) := by
  obtain ⟨m, hm, he⟩ := List.any_eq_true.1 ha
  simp only [decide_eq_true_eq] at he
  obtain ⟨A, C, rfl⟩ := List.append_of_mem hm
  unfold uq at h
  simp only [decide_eq_true_eq, List.map_append, List.map_cons] at h
  obtain ⟨-, h2, h3⟩ := List.nodup_append.1 h
  have h4 := (List.nodup_cons.1 h2).1
  refine ⟨A, m, C, rfl, he, fun x hx e => ?_, fun x hx e => ?_⟩
  · exact h3 _ (List.mem_map_of_mem hx) m.1 (List.mem_cons_self ..) (by rw [e, he])
  · exact h4 (by rw [he, ← e]; exact List.mem_map_of_mem hx)
def fgm (m : M4) (n st sb : Int) : M4 := (m.1, m.2.1, sl m.2.2.1 n st sb, m.2.2.2)
def fmOk (g : Int) (nm : ByteArray) (t b nx : Int) (L : List M4) (G : List Int) (gid n st sb : Int) : Bool :=
  bxOk g nm t b nx L G && (L.any (fun m => decide (m.1 = gid)) && (flr n && stOk st sb))
def fmL (p : Bool) (L : List M4) (gid n st sb : Int) : List M4 := if p = true then L.map (fun m => if m.1 = gid then fgm m n st sb else m) else L
theorem map_skip {A : List M4} {gid : Int} (f : M4 → M4) (h : ∀ x ∈ A, x.1 ≠ gid) : A.map (fun m => if m.1 = gid then f m else m) = A := by
  induction A with
  | nil => rfl
  | cons a A ih =>
    rw [List.map_cons, ih (fun x hx => h x (List.mem_cons_of_mem _ hx)), if_neg (h a (List.mem_cons_self ..))]
theorem fmL_split {A C : List M4} {m : M4} {gid n st sb : Int} (hm : m.1 = gid) (ha : ∀ x ∈ A, x.1 ≠ gid) (hc : ∀ x ∈ C, x.1 ≠ gid) : fmL true (A ++ m :: C) gid n st sb = A ++ fgm m n st sb :: C := by
  rw [fmL, if_pos rfl, List.map_append, List.map_cons, map_skip (fun m => fgm m n st sb) ha, map_skip (fun m => fgm m n st sb) hc, if_pos hm]
theorem fmL_no (L : List M4) (gid n st sb : Int) : fmL false L gid n st sb = L := by rw [fmL, if_neg (by decide)]
theorem fmL_len (p : Bool) (L : List M4) (gid n st sb : Int) : (fmL p L gid n st sb).length = L.length := by unfold fmL; split <;> simp
theorem fm_sm (p : Bool) {L : List M4} {gid n st sb : Int} (h : Sm L) : Sm (fmL p L gid n st sb) := by
  unfold fmL
  split
  · intro m hm
    obtain ⟨x, hx, rfl⟩ := List.mem_map.1 hm
    have := h x hx
    split
    · exact ⟨by simp only [fgm]; rw [sl_len]; exact this.1, this.2⟩
    · exact this
  · exact h
theorem fm_fz (p : Bool) (L : List M4) (gid n st sb : Int) : fz (fmL p L gid n st sb) = fz L := by
  unfold fmL
  split
  · induction L with
    | nil => rfl
    | cons m L ih =>
      rw [List.map_cons]
      simp only [fz]
      rw [ih]
      split
      · simp only [fgm]; rw [sl_len]
      · rfl
  · rfl
/-- Uids stay as they were. -/
theorem upr_swap {A C : List M4} {m m' : M4} (h : Upr (A ++ m :: C)) (hu : m'.2.1 = m.2.1) : Upr (A ++ m' :: C) := by
  unfold Upr at h ⊢
  rw [List.pairwise_append, List.pairwise_cons] at h ⊢
  refine ⟨h.1, ⟨fun x hx => by rw [hu]; exact h.2.1.1 x hx, h.2.1.2⟩, fun x hx y hy => ?_⟩
  rcases List.mem_cons.1 hy with rfl | hy
  · rw [hu]; exact h.2.2 x hx m (List.mem_cons_self ..)
  · exact h.2.2 x hx y (List.mem_cons_of_mem _ hy)

theorem zc_set1 (Z : List Z5) (i : Nat) (z : Z5) (h : i < Z.length) (h0 : z.1 = Z[i].1) (h1 : z.2.1 = Z[i].2.1) (h3 : z.2.2.2.2 = Z[i].2.2.2.2) :
    (zc Z).set (i * 4 + 2) z.2.2.1 = zc (Z.set i z) := by
  induction Z generalizing i with
  | nil => simp at h
  | cons y Z ih =>
    cases i with
    | zero =>
      simp only [List.getElem_cons_zero] at h0 h1 h3
      simp [zc, h0, h1, h3]
    | succ i =>
      have h' : i < Z.length := by simpa using h
      have := ih i h' (by simpa using h0) (by simpa using h1) (by simpa using h3)
      have e : (i + 1) * 4 + 2 = i * 4 + 2 + 1 + 1 + 1 + 1 := by omega
      rw [e]
      simpa [zc] using this
end Go.Proofs.Ytmpcmllfgogegaa

namespace Go.Proofs.Ytmpcmllfgogegaa
open Go.RowKit Go.ChangeMaps

theorem heap_far (W : World) {k j : Nat} (h : ¬ k = j) (i : Nat) (v : Value) (hj : j < W.heap.size) : (W.setCell ⟨k, i, none⟩ v).heap[j]? = W.heap[j]? := by
  have hg : W.grownBy (W.setCell ⟨k, i, none⟩ v) (some k) := wst (wre _ _) _ _
  exact hg.block j hj (fun e => h (by simpa using e.symm))

end Go.Proofs.Ytmpcmllfgogegaa

namespace Go.Proofs.Ytmpcmllfgogegaa
open Go.RowKit Go.ChangeMaps

end Go.Proofs.Ytmpcmllfgogegaa

