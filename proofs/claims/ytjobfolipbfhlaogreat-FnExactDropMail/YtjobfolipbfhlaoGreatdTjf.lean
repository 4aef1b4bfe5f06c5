/- Tjf. -/

import Derived.Test.YtjobfolipbfhlaoGreatdBqq
namespace Go.Proofs.YtjobfolipbfhlaoGreat
open Go.RowKit Go.ChangeMaps

theorem fidx_first {α : Type} {p : α → Bool} (S : List α) (i k : Nat) (hi : i < S.length) (h1 : ∀ j (hj : j < i), p (S[j]'(Nat.lt_trans hj hi)) = false) (h2 : p S[i] = true) : fidx p S k = ((k + i : Nat) : Int) := by
  induction S generalizing i k with
  | nil => simp at hi
  | cons x S ih =>
    cases i with
    | zero =>
      have h3 : p x = true := h2
      simp [fidx, h3]
    | succ i =>
      have h3 : p x = false := h1 0 (by omega)
      have h4 := ih i (k + 1) (by simpa using hi) (fun j hj => by have := h1 (j + 1) (by omega); simpa using this) (by simpa using h2)
      simp only [fidx, h3]
      rw [if_neg (by decide), h4]
      congr 1
      omega
theorem fidx_before {α : Type} {p : α → Bool} (S : List α) (i k : Nat) (h : fidx p S k = ((k + i : Nat) : Int)) : ∀ j (_ : j < i) (hl : j < S.length), p S[j] = false := by
  induction S generalizing i k with
  | nil => intro j hj hl; simp at hl
  | cons x S ih =>
    intro j hj hl
    cases hx : p x with
    | true =>
      simp only [fidx, hx, if_true] at h
      omega
    | false =>
      simp only [fidx, hx] at h
      rw [if_neg (by decide)] at h
      cases j with
      | zero => exact hx
      | succ j => exact ih (i - 1) (k + 1) (by rw [h]; congr 1; omega) j (by omega) (by simpa using hl)
theorem sOk_iff {y tm : Int} {S : List X7} {G : List Int} : sOk y tm S G = true ↔ ((1 ≤ y ∧ y ≤ 2) ∧ (0 ≤ tm ∧ tm ≤ 100000) ∧ S.length ≤ 5 ∧ gnM 20 G = true ∧ (gids S).Nodup ∧ (∀ x ∈ S, bxx x = true ∧ inl x.1 G = false ∧ tmOk tm x.2.2.1 x.2.2.2.2.2.1 = true) ∧ S.Pairwise (fun a b => a.1 < b.1) ∧ S.Pairwise (fun a b => a.2.1 ≠ b.2.1)) := by
  constructor
  · intro h
    have hpw := sOk_pw h
    obtain ⟨_, _, h3, _⟩ := sOk_all h
    unfold sOk at h
    simp only [Bool.and_eq_true, decide_eq_true_eq] at h
    obtain ⟨ha, hb, hc, hd, _, he⟩ := h
    refine ⟨ha, hb, by omega, hd, he, fun x hx => ?_, hpw, ?_⟩
    · obtain ⟨i, hi, rfl⟩ := List.getElem_of_mem hx
      have h4 := stp7_all h3 hi
      exact ⟨h4.1, h4.2.2.2.1, h4.2.2.2.2⟩
    · rw [List.pairwise_iff_getElem]
      intro i j hi hj hij e
      have h4 := (stp7_all h3 hj).2.2.1
      have h5 := fidx_before S j 0 (by rw [h4]; simp) i hij hi
      simp [isN, e] at h5
  · rintro ⟨ha, hb, hc, hd, he, hf, hg, hn⟩
    unfold sOk
    simp only [Bool.and_eq_true, decide_eq_true_eq]
    refine ⟨ha, hb, by omega, hd, List.all_eq_true.2 (fun i hi => ?_), he⟩
    have hi := List.mem_range.1 hi
    obtain ⟨h1, h2, h3⟩ := hf S[i] (List.getElem_mem hi)
    have hpg : pg S i < S[i].1 := by
      cases i with
      | zero =>
        rw [pg_zero]
        simp only [bxx, bxOk, Bool.and_eq_true] at h1
        exact gok_pos h1.1
      | succ i =>
        rw [pg_succ (by omega)]
        exact (List.pairwise_iff_getElem.1 hg) i (i + 1) (by omega) hi (by omega)
    have hfi : fidx (isN S[i].2.1) S 0 = (i : Int) := by
      rw [fidx_first S i 0 hi (fun j hj => ?_) (by simp [isN])]
      · simp
      · have := (List.pairwise_iff_getElem.1 hn) j i (by omega) hi hj
        simp [isN, this]
    unfold stp7
    rw [List.getElem?_eq_getElem hi]
    simp only [h1, hpg, hfi, h2, h3, decide_true, Bool.not_false, Bool.and_self]
theorem isG_at {S : List X7} {gid : Int} {i : Nat} (hi : i < S.length) (h : isG gid S[i] = true) : S[i].1 = gid := by simpa [isG] using h
theorem split_at {S : List X7} {i : Nat} (hi : i < S.length) : S = S.take i ++ S[i] :: S.drop (i + 1) := by
  rw [← List.drop_eq_getElem_cons hi, List.take_append_drop]
theorem dropM_right {y tm : Int} {S : List X7} {G : List Int} {box gid : Int} : (sOk y tm S G && (chB S box (dmK gid) (dmF gid)).1) = (sOk y tm S G && ((chB S box (dmK gid) (dmF gid)).1 && sOk y tm (chB S box (dmK gid) (dmF gid)).2 G)) := by
  cases hs : sOk y tm S G with
  | false => rfl
  | true =>
    rcases fidx_cases (isG box) S 0 with hneg | ⟨i, hi, hiz, hpi⟩
    · rw [chB_no hneg]; rfl
    · rw [Nat.zero_add] at hiz
      rw [chB_at (ok := dmK gid) (f := dmF gid) hiz hi rfl]
      simp only [Bool.true_and]
      cases hk : dmK gid S[i] with
      | false => rfl
      | true =>
        simp only [Bool.true_and]
        symm
        obtain ⟨ha, hb, hc, hd, he, hf, hg, hn⟩ := sOk_iff.1 hs
        have h0 := hf S[i] (List.getElem_mem hi)
        have hsp := split_at hi
        have hset : S.set i (dmF gid S[i]) = S.take i ++ dmF gid S[i] :: S.drop (i + 1) := by rw [List.set_eq_take_append_cons_drop, if_pos hi]
        have hm1 : (S.set i (dmF gid S[i])).map (fun x => x.1) = S.map (fun x => x.1) := by
          rw [List.map_set]
          have : (dmF gid S[i]).1 = (S.map (fun x => x.1))[i]'(by simpa using hi) := by simp [dmF]
          rw [this, List.set_getElem_self]
        have hm2 : (S.set i (dmF gid S[i])).map (fun x => x.2.1) = S.map (fun x => x.2.1) := by
          rw [List.map_set]
          have : (dmF gid S[i]).2.1 = (S.map (fun x => x.2.1))[i]'(by simpa using hi) := by simp [dmF]
          rw [this, List.set_getElem_self]
        refine sOk_iff.2 ⟨ha, hb, by rw [List.length_set]; exact hc, hd, ?_, fun x hx => ?_, ?_, ?_⟩
        · refine List.Nodup.sublist ?_ he
          have e : gids S = gids (S.take i ++ S[i] :: S.drop (i + 1)) := by rw [← hsp]
          rw [e, hset]
          unfold gids
          rw [List.flatMap_append, List.flatMap_append, List.flatMap_cons, List.flatMap_cons]
          refine (List.Sublist.refl _).append (List.Sublist.append ?_ (List.Sublist.refl _))
          exact List.Sublist.map _ (tk_sub _ _ _)
        · rcases mem_set hx with hx | rfl
          · exact hf x hx
          · refine ⟨?_, h0.2.1, ?_⟩
            · exact tk_right h0.1
            · have h5 := h0.2.2
              simp only [tmOk, Bool.and_eq_true] at h5 ⊢
              refine ⟨h5.1, List.all_eq_true.2 (fun m hm => List.all_eq_true.1 h5.2 m ((tk_sub _ _ _).subset hm))⟩
        · rw [← List.pairwise_map (f := fun x : X7 => x.1) (R := fun a b => a < b), hm1, List.pairwise_map]; exact hg
        · rw [← List.pairwise_map (f := fun x : X7 => x.2.1) (R := fun a b => a ≠ b), hm2, List.pairwise_map]; exact hn
end Go.Proofs.YtjobfolipbfhlaoGreat

