/- Mk. -/

import Derived.Test.YtmpcmllfgogegaaGreatjMkz
namespace Go.Proofs.YtmpcmllfgogegaaGreat
open Go.RowKit Go.ChangeMaps
theorem any_split {L : List M4} {gid : Int} (h : uq L = true) (ha : L.any (fun m => decide (m.1 = gid)) = true) :
  ∃ A m C, L = A ++ m :: C ∧ m.1 = gid ∧ (∀ x ∈ A, x.1 ≠ gid) ∧ (∀ x ∈ C, x.1 ≠ gid) := by
 obtain ⟨m, hm, he⟩ := List.any_eq_true.1 ha
 simp only [decide_eq_true_eq] at he
 obtain ⟨A, C, rfl⟩ := List.append_of_mem hm
 unfold uq at h
 simp only [decide_eq_true_eq, List.map_append, List.map_cons] at h
 obtain ⟨-, h2, h3⟩ := List.nodup_append.1 h
 have h4 := (List.nodup_cons.1 h2).1
 refine ⟨A, m, C, rfl, he, fun x hx e => ?_, fun x hx e => ?_⟩
 ·exact h3 _ (List.mem_map_of_mem hx) m.1 (List.mem_cons_self ..) (by rw [e, he])
 ·exact h4 (by rw [he, ← e]; exact List.mem_map_of_mem hx)
def fgm (m : M4) (n st sb : Int) : M4 := (m.1, m.2.1, sl m.2.2.1 n st sb, m.2.2.2)
def fmOk (g : Int) (nm : ByteArray) (t b nx : Int) (L : List M4) (G : List Int) (gid n st sb : Int) : Bool :=
 bxOk g nm t b nx L G && (L.any (fun m => decide (m.1 = gid)) && (flr n && stOk st sb))
def fmL (p : Bool) (L : List M4) (gid n st sb : Int) : List M4 := if p = true then L.map (fun m => if m.1 = gid then fgm m n st sb else m) else L
theorem map_skip {A : List M4} {gid : Int} (f : M4 → M4) (h : ∀ x ∈ A, x.1 ≠ gid) : A.map (fun m => if m.1 = gid then f m else m) = A := by
 induction A with
 | nil => rfl
 | cons a A ih =>
  rw [List.map_cons, ih (fun x hx => h x (List.mem_cons_of_mem _ hx)), if_neg (h a (List.mem_cons_self ..))]
theorem fmL_split {A C : List M4} {m : M4} {gid n st sb : Int} (hm : m.1 = gid) (ha : ∀ x ∈ A, x.1 ≠ gid) (hc : ∀ x ∈ C, x.1 ≠ gid) : fmL true (A ++ m :: C) gid n st sb = A ++ fgm m n st sb :: C := by
 rw [fmL, if_pos rfl, List.map_append, List.map_cons, map_skip (fun m => fgm m n st sb) ha, map_skip (fun m => fgm m n st sb) hc, if_pos hm]
theorem fmL_no (L : List M4) (gid n st sb : Int) : fmL false L gid n st sb = L := by rw [fmL, if_neg (by decide)]
theorem fmL_len (p : Bool) (L : List M4) (gid n st sb : Int) : (fmL p L gid n st sb).length = L.length := by unfold fmL; split <;> simp
theorem zc_set1 (Z : List Z5) (i : Nat) (z : Z5) (h : i < Z.length) (h0 : z.1 = Z[i].1) (h1 : z.2.1 = Z[i].2.1) (h3 : z.2.2.2.2 = Z[i].2.2.2.2) :
  (zc Z).set (i * 4 + 2) z.2.2.1 = zc (Z.set i z) := by
 induction Z generalizing i with
 | nil => simp at h
 | cons y Z ih =>
  cases i with
  | zero =>
   simp only [List.getElem_cons_zero] at h0 h1 h3
   simp [zc, h0, h1, h3]
  | succ i =>
   have h' : i < Z.length := by simpa using h
   have := ih i h' (by simpa using h0) (by simpa using h1) (by simpa using h3)
   have e : (i + 1) * 4 + 2 = i * 4 + 2 + 1 + 1 + 1 + 1 := by omega
   rw [e]
   simpa [zc] using this
theorem OwZ.flags {W : World} {B g n c : Nat} {Z : List Z5} (h : OwZ W B (.slice (some ⟨g, 0, none⟩) n c) Z) (i : Nat) (hi : i < Z.length) (z : Z5) (h0 : z.1 = Z[i].1) (h1 : z.2.1 = Z[i].2.1) (h3 : z.2.2.2.2 = Z[i].2.2.2.2) (ho : Ow W B z.2.2.1 z.2.2.2.1) (hg : z.2.2.1.ownBlock ≠ some g) (hd : ∀ y ∈ Z, Dj z.2.2.1 y.2.2.1) :
  OwZ (W.setCell ⟨g, i * 4 + 2, none⟩ z.2.2.1) B (.slice (some ⟨g, 0, none⟩) n c) (Z.set i z) := by
 obtain rfl := h.ms.1
 have hgr : W.grownBy (W.setCell ⟨g, i * 4 + 2, none⟩ z.2.2.1) (some g) := wst (wre _ _) _ _
 have h2 := (World.ownsRow.stored h.row (i * 4 + 2) z.2.2.1).1
 rw [zc_set1 Z i z hi h0 h1 h3] at h2
 have hk : ∀ {x : Value} {l : List R3}, Ow W B x l → x.ownBlock ≠ some g → Ow (W.setCell ⟨g, i * 4 + 2, none⟩ z.2.2.1) B x l :=
  fun hx hne => World.ownsRow.kept hx hgr (Or.inr hne)
 refine ⟨by simpa using h2, fun y hy => ?_, fun y hy => ?_, pair_set h.apart i z hd (fun y hy => (hd y hy).symm)⟩
 ·rcases mem_set hy with hy | rfl
  ·exact hk (h.each y hy) (far_of h hy)
  ·exact hk ho hg
 ·rcases mem_set hy with hy | rfl
  ·exact h.off y hy
  ·exact fun j hj hj' => hg (by rw [hj', ← hj]; rfl)
theorem heap_far (W : World) {k j : Nat} (h : ¬ k = j) (i : Nat) (v : Value) (hj : j < W.heap.size) : (W.setCell ⟨k, i, none⟩ v).heap[j]? = W.heap[j]? := by
 have hg : W.grownBy (W.setCell ⟨k, i, none⟩ v) (some k) := wst (wre _ _) _ _
 exact hg.block j hj (fun e => h (by simpa using e.symm))
end Go.Proofs.YtmpcmllfgogegaaGreat
namespace Go.Proofs.YtmpcmllfgogegaaGreat
open Go.RowKit Go.ChangeMaps
end Go.Proofs.YtmpcmllfgogegaaGreat
