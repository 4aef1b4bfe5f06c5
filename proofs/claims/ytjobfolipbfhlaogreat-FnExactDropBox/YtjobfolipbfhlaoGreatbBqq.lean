/- Bqq. -/

import Derived.Test.YtjobfolipbfhlaoGreatbTiv
namespace Go.Proofs.YtjobfolipbfhlaoGreat
open Go.RowKit Go.ChangeMaps

theorem bit_le (n : Int) (i : Nat) : 0 ≤ bit n i ∧ bit n i ≤ 1 := by unfold bit; omega
theorem sl_ok {l : List R3} {n t b : Int} (h : flOk l = true) : flOk (sl l n t b) = true := by
  unfold sl
  split
  · simp only [flOk, Bool.and_eq_true, decide_eq_true_eq, List.all_eq_true] at h ⊢
    refine ⟨by rw [List.length_mapIdx]; exact h.1, fun p hp => ?_⟩
    obtain ⟨i, hi, rfl⟩ := List.mem_mapIdx.1 hp
    have ho := h.2 l[i] (List.getElem_mem hi)
    unfold sp
    split
    · exact ho
    · unfold pp
      split
      · next h1 =>
        simp only [Bool.and_eq_true] at h1
        have h2 := bit_le n i
        simp only [okp, Bool.and_eq_true, decide_eq_true_eq]
        exact ⟨h1.1, h2.2⟩
      · exact ho
  · exact h
theorem fgm_ok {m : M4} {n st sb : Int} (h : mlOk m.1 m.2.1 m.2.2.1 m.2.2.2 = true) : mlOk (fgm m n st sb).1 (fgm m n st sb).2.1 (fgm m n st sb).2.2.1 (fgm m n st sb).2.2.2 = true := by
  simp only [mlOk, Bool.and_eq_true, fgm] at h ⊢
  exact ⟨h.1, h.2.1, sl_ok h.2.2.1, h.2.2.2⟩
theorem inl_pin {x y : Int} {G : List Int} (h : inl y G = false) (hx : y ≠ x) : inl y (pin x G) = false := by
  cases hi : inl y (pin x G) with
  | false => rfl
  | true =>
    have hmem : ∀ {l : List Int}, inl y l = true → y ∈ l := by
      intro l
      induction l with
      | nil => intro h; simp [inl] at h
      | cons a l ih =>
        intro h
        simp only [inl, Bool.or_eq_true, decide_eq_true_eq] at h
        rcases h with h | h
        · rw [h]; exact List.mem_cons_self ..
        · exact List.mem_cons_of_mem _ (ih h)
    have h1 := hmem hi
    unfold pin at h1
    rcases List.mem_append.1 h1 with h1 | h1
    · exact absurd rfl (inl_not h y (List.mem_filter.1 h1).1)
    · rcases List.mem_cons.1 h1 with h1 | h1
      · exact absurd h1 hx
      · exact absurd rfl (inl_not h y (List.mem_filter.1 h1).1)
theorem asc_of {G : List Int} {a : Int} (hp : G.Pairwise (· < ·)) (hg : ∀ y ∈ G, gok y = true) (ha : ∀ y ∈ G, a < y) : asc a G = true := by
  induction G generalizing a with
  | nil => rfl
  | cons x G ih =>
    obtain ⟨h1, h2⟩ := List.pairwise_cons.1 hp
    simp only [asc, Bool.and_eq_true, decide_eq_true_eq]
    exact ⟨⟨ha x (List.mem_cons_self ..), hg x (List.mem_cons_self ..)⟩, ih h2 (fun y hy => hg y (List.mem_cons_of_mem _ hy)) h1⟩
theorem asc_gok {G : List Int} {a : Int} (h : asc a G = true) : ∀ y ∈ G, gok y = true := by
  induction G generalizing a with
  | nil => intro y hy; simp at hy
  | cons x G ih =>
    simp only [asc, Bool.and_eq_true, decide_eq_true_eq] at h
    intro y hy
    rcases List.mem_cons.1 hy with rfl | hy
    · exact h.1.2
    · exact ih h.2 y hy
theorem pin_gn {x : Int} {G : List Int} (h : gnOk G = true) (hx : gok x = true) (hn : ∀ y ∈ G, y ≠ x) (hl : G.length < 40) : gnOk (pin x G) = true ∧ (pin x G).length = G.length + 1 := by
  simp only [gnOk, Bool.and_eq_true, decide_eq_true_eq] at h ⊢
  have hp := asc_pair h.1
  have hk := asc_gok h.1
  have hlen : (pin x G).length = G.length + 1 := by
    rw [pin_place hp hn]
    rw [List.length_append, List.length_cons, List.length_take, List.length_drop]
    have := List.countP_le_length (p := fun y => decide (y < x)) (l := G)
    omega
  refine ⟨⟨asc_of ?_ ?_ ?_, by rw [hlen]; omega⟩, hlen⟩
  · unfold pin
    rw [List.pairwise_append, List.pairwise_cons]
    refine ⟨hp.filter _, ⟨fun y hy => by simpa using (List.mem_filter.1 hy).2, hp.filter _⟩, fun y hy z hz => ?_⟩
    have h1 : y < x := by simpa using (List.mem_filter.1 hy).2
    rcases List.mem_cons.1 hz with rfl | hz
    · exact h1
    · have h2 : x < z := by simpa using (List.mem_filter.1 hz).2
      omega
  · intro y hy
    unfold pin at hy
    rcases List.mem_append.1 hy with hy | hy
    · exact hk y (List.mem_filter.1 hy).1
    · rcases List.mem_cons.1 hy with rfl | hy
      · exact hx
      · exact hk y (List.mem_filter.1 hy).1
  · intro y hy
    have : gok y = true := by
      unfold pin at hy
      rcases List.mem_append.1 hy with hy | hy
      · exact hk y (List.mem_filter.1 hy).1
      · rcases List.mem_cons.1 hy with rfl | hy
        · exact hx
        · exact hk y (List.mem_filter.1 hy).1
    exact gok_pos this
theorem am_right {g : Int} {nm : ByteArray} {t b nx : Int} {L : List M4} {G : List Int} {gid fl : Int} {tx : ByteArray} {st sb : Int} (h : bxOk g nm t b nx L G = true) : bxOk g nm t b (amN (amOk g nm t b nx L G gid fl tx st sb) nx) (amL (amOk g nm t b nx L G gid fl tx st sb) L (nwm gid nx fl tx st sb)) G = true := by
  cases hk : amOk g nm t b nx L G gid fl tx st sb with
  | false => rw [amN, amL, if_neg (by decide), if_neg (by decide)]; exact h
  | true =>
    rw [amN, amL, if_pos rfl, if_pos rfl]
    simp only [amOk, Bool.and_eq_true] at hk
    exact hk.2.2.2.2
end Go.Proofs.YtjobfolipbfhlaoGreat

