/- Tiq. -/

import Derived.Test.YtjobfolipbfhlaoGreatdTip
namespace Go.Proofs.YtjobfolipbfhlaoGreat
open Go.RowKit Go.ChangeMaps

/-! What a right store is. -/
theorem sOk_all {y tm : Int} {S : List X7} {G : List Int} (h : sOk y tm S G = true) : S.length ≤ 5 ∧ gnM 20 G = true ∧ (∀ i, i < S.length → stp7 tm G S i = true) ∧ (gids S).Nodup := by
  unfold sOk at h
  simp only [Bool.and_eq_true, decide_eq_true_eq] at h
  obtain ⟨_, _, h1, h2, h3, h4⟩ := h
  exact ⟨by omega, h2, fun i hi => List.all_eq_true.1 h3 i (List.mem_range.2 hi), h4⟩
theorem stp7_all {tm : Int} {G : List Int} {S : List X7} (h : ∀ i, i < S.length → stp7 tm G S i = true) {i : Nat} (hi : i < S.length) : bxx S[i] = true ∧ pg S i < S[i].1 ∧ fidx (isN S[i].2.1) S 0 = (i : Int) ∧ inl S[i].1 G = false ∧ tmOk tm S[i].2.2.1 S[i].2.2.2.2.2.1 = true := by
  have h1 := h i hi
  rw [stp7_at hi rfl] at h1
  simp only [Bool.and_eq_true, decide_eq_true_eq, Bool.not_eq_true'] at h1
  exact ⟨h1.1, h1.2.1, h1.2.2.1, h1.2.2.2.1, h1.2.2.2.2⟩
theorem sOk_pw {y tm : Int} {S : List X7} {G : List Int} (h : sOk y tm S G = true) : S.Pairwise (fun a b => a.1 < b.1) := by
  obtain ⟨_, _, h3, _⟩ := sOk_all h
  have hs : ∀ i (hi : i + 1 < S.length), S[i].1 < S[i + 1].1 := fun i hi => by
    have h1 := (stp7_all h3 hi).2.1
    rw [pg_succ (by omega)] at h1
    exact h1
  rw [List.pairwise_iff_getElem]
  intro i j hi hj hij
  obtain ⟨d, rfl⟩ : ∃ d, j = i + 1 + d := ⟨j - (i + 1), by omega⟩
  induction d with
  | zero => exact hs i hj
  | succ d ih =>
    have h1 := ih (by omega) (by omega)
    have h2 := hs (i + 1 + d) hj
    exact Int.lt_trans h1 h2
theorem gnM_parts {mo : Int} {G : List Int} (h : gnM mo G = true) : asc 0 G = true ∧ (G.length : Int) ≤ mo := by
  unfold gnM at h
  simpa only [Bool.and_eq_true, decide_eq_true_eq] using h
theorem sOk_gone {y tm : Int} {S : List X7} {G : List Int} (h : sOk y tm S G = true) : G.Pairwise (· < ·) ∧ G.length ≤ 20 := by
  obtain ⟨h1, h2⟩ := gnM_parts (sOk_all h).2.1
  exact ⟨asc_pair h1, by omega⟩

/-! A box of an owned store renamed. -/
def rnK (nm : ByteArray) (S : List X7) (_ : X7) : Bool := !(S.any (isN nm))
def rnF (y tm : Int) (nm : ByteArray) (x : X7) : X7 := (x.1, nm, tm + 1, y, x.2.2.2.2)
def dbO (S : List X7) (gid : Int) : Bool := decide (0 ≤ fidx (isG gid) S 0)
def dbS (S : List X7) (gid : Int) : List X7 := if 0 ≤ fidx (isG gid) S 0 then S.take (fidx (isG gid) S 0).toNat ++ S.drop ((fidx (isG gid) S 0).toNat + 1) else S
theorem db_no {S : List X7} {gid : Int} (h : fidx (isG gid) S 0 < 0) : dbO S gid = false ∧ dbS S gid = S := by
  unfold dbO dbS
  rw [if_neg (by omega)]
  exact ⟨by simp; omega, rfl⟩
end Go.Proofs.YtjobfolipbfhlaoGreat

