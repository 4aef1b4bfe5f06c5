/- Bqq. -/

import Derived.Test.YtjobfolipbfhlaoGreatdTiu
namespace Go.Proofs.YtjobfolipbfhlaoGreat
open Go.RowKit Go.ChangeMaps

theorem bx_iff {g : Int} {nm : ByteArray} {t b nx : Int} {L : List M4} {G : List Int} : bxOk g nm t b nx L G = true ↔
    gok g = true ∧ nmOk nm = true ∧ stOk t b = true ∧ (1 ≤ nx ∧ nx ≤ 10000) ∧ L.length ≤ 10 ∧ gnOk G = true ∧ (∀ m ∈ L, mlOk m.1 m.2.1 m.2.2.1 m.2.2.2 = true ∧ m.2.1 < nx ∧ inl m.1 G = false) ∧ Upr L ∧ uq L = true := by
  constructor
  · intro h
    have hp := bx_parts h
    simp only [bxOk, Bool.and_eq_true, decide_eq_true_eq, bxm] at h
    obtain ⟨h1, h2, h3, h4, h5, h6, h7, h8⟩ := h
    refine ⟨h1, h2, h3, h4, by omega, h6, fun m hm => ?_, alr_upr h7, h8⟩
    obtain ⟨i, hi, rfl⟩ := List.getElem_of_mem hm
    have h9 := List.all_eq_true.1 h7 i (List.mem_range.2 hi)
    rw [stp_at hi (g := L[i].1) (u := L[i].2.1) (l := L[i].2.2.1) (t := L[i].2.2.2) rfl] at h9
    simp only [Bool.and_eq_true, decide_eq_true_eq, Bool.not_eq_true'] at h9
    exact ⟨h9.1, h9.2.1, h9.2.2.2⟩
  · rintro ⟨h1, h2, h3, h4, h5, h6, h7, h8, h9⟩
    simp only [bxOk, Bool.and_eq_true, decide_eq_true_eq, bxm]
    refine ⟨h1, h2, h3, h4, by omega, h6, alr_all (fun i hi => ?_), h9⟩
    have hm := h7 L[i] (List.getElem_mem hi)
    rw [stp_at hi (g := L[i].1) (u := L[i].2.1) (l := L[i].2.2.1) (t := L[i].2.2.2) rfl]
    simp only [Bool.and_eq_true, decide_eq_true_eq, Bool.not_eq_true']
    refine ⟨hm.1, hm.2.1, ?_, hm.2.2⟩
    cases i with
    | zero => rw [us_zero]; exact mlOk_pos hm.1
    | succ i =>
      rw [us_succ (by omega)]
      exact List.pairwise_iff_getElem.1 h8 i (i + 1) (by omega) hi (by omega)
theorem bit_le (n : Int) (i : Nat) : 0 ≤ bit n i ∧ bit n i ≤ 1 := by unfold bit; omega
theorem inl_pin {x y : Int} {G : List Int} (h : inl y G = false) (hx : y ≠ x) : inl y (pin x G) = false := by
  cases hi : inl y (pin x G) with
  | false => rfl
  | true =>
    have hmem : ∀ {l : List Int}, inl y l = true → y ∈ l := by
      intro l
      induction l with
      | nil => intro h; simp [inl] at h
      | cons a l ih =>
        intro h
        simp only [inl, Bool.or_eq_true, decide_eq_true_eq] at h
        rcases h with h | h
        · rw [h]; exact List.mem_cons_self ..
        · exact List.mem_cons_of_mem _ (ih h)
    have h1 := hmem hi
    unfold pin at h1
    rcases List.mem_append.1 h1 with h1 | h1
    · exact absurd rfl (inl_not h y (List.mem_filter.1 h1).1)
    · rcases List.mem_cons.1 h1 with h1 | h1
      · exact absurd h1 hx
      · exact absurd rfl (inl_not h y (List.mem_filter.1 h1).1)
theorem asc_of {G : List Int} {a : Int} (hp : G.Pairwise (· < ·)) (hg : ∀ y ∈ G, gok y = true) (ha : ∀ y ∈ G, a < y) : asc a G = true := by
  induction G generalizing a with
  | nil => rfl
  | cons x G ih =>
    obtain ⟨h1, h2⟩ := List.pairwise_cons.1 hp
    simp only [asc, Bool.and_eq_true, decide_eq_true_eq]
    exact ⟨⟨ha x (List.mem_cons_self ..), hg x (List.mem_cons_self ..)⟩, ih h2 (fun y hy => hg y (List.mem_cons_of_mem _ hy)) h1⟩
theorem asc_gok {G : List Int} {a : Int} (h : asc a G = true) : ∀ y ∈ G, gok y = true := by
  induction G generalizing a with
  | nil => intro y hy; simp at hy
  | cons x G ih =>
    simp only [asc, Bool.and_eq_true, decide_eq_true_eq] at h
    intro y hy
    rcases List.mem_cons.1 hy with rfl | hy
    · exact h.1.2
    · exact ih h.2 y hy
theorem pin_gn {x : Int} {G : List Int} (h : gnOk G = true) (hx : gok x = true) (hn : ∀ y ∈ G, y ≠ x) (hl : G.length < 40) : gnOk (pin x G) = true ∧ (pin x G).length = G.length + 1 := by
  simp only [gnOk, Bool.and_eq_true, decide_eq_true_eq] at h ⊢
  have hp := asc_pair h.1
  have hk := asc_gok h.1
  have hlen : (pin x G).length = G.length + 1 := by
    rw [pin_place hp hn]
    rw [List.length_append, List.length_cons, List.length_take, List.length_drop]
    have := List.countP_le_length (p := fun y => decide (y < x)) (l := G)
    omega
  refine ⟨⟨asc_of ?_ ?_ ?_, by rw [hlen]; omega⟩, hlen⟩
  · unfold pin
    rw [List.pairwise_append, List.pairwise_cons]
    refine ⟨hp.filter _, ⟨fun y hy => by simpa using (List.mem_filter.1 hy).2, hp.filter _⟩, fun y hy z hz => ?_⟩
    have h1 : y < x := by simpa using (List.mem_filter.1 hy).2
    rcases List.mem_cons.1 hz with rfl | hz
    · exact h1
    · have h2 : x < z := by simpa using (List.mem_filter.1 hz).2
      omega
  · intro y hy
    unfold pin at hy
    rcases List.mem_append.1 hy with hy | hy
    · exact hk y (List.mem_filter.1 hy).1
    · rcases List.mem_cons.1 hy with rfl | hy
      · exact hx
      · exact hk y (List.mem_filter.1 hy).1
  · intro y hy
    have : gok y = true := by
      unfold pin at hy
      rcases List.mem_append.1 hy with hy | hy
      · exact hk y (List.mem_filter.1 hy).1
      · rcases List.mem_cons.1 hy with rfl | hy
        · exact hx
        · exact hk y (List.mem_filter.1 hy).1
    exact gok_pos this
theorem tk_right {g : Int} {nm : ByteArray} {t b nx : Int} {L : List M4} {G : List Int} {gid : Int} (h : bxOk g nm t b nx L G = true) : bxOk g nm t b nx (tkL (tkOk g nm t b nx L G gid) L gid) (tkG (tkOk g nm t b nx L G gid) G gid) = true := by
  cases hk : tkOk g nm t b nx L G gid with
  | false => rw [tkL_no, tkG_no]; exact h
  | true =>
    simp only [tkOk, Bool.and_eq_true, decide_eq_true_eq] at hk
    obtain ⟨h1, h2, h3, h4, h5, h6, h7, h8, h9⟩ := bx_iff.1 h
    obtain ⟨A, m, C, hL, hm, hA, hC⟩ := any_split h9 hk.2.1
    have hmem : m ∈ L := by rw [hL]; simp
    have hmm := h7 m hmem
    have hgk : gok gid = true := by
      have := hmm.1
      simp only [mlOk, Bool.and_eq_true] at this
      rw [← hm]
      exact this.1
    have hni : ∀ y ∈ G, y ≠ gid := by rw [← hm]; exact inl_not hmm.2.2
    have hsub := tk_sub true L gid
    rw [tkG, if_pos rfl]
    refine bx_iff.2 ⟨h1, h2, h3, h4, Nat.le_trans hsub.length_le h5, (pin_gn h6 hgk hni hk.2.2).1, fun x hx => ?_, upr_sub hsub h8, ?_⟩
    · have hx' := h7 x (hsub.subset hx)
      refine ⟨hx'.1, hx'.2.1, inl_pin hx'.2.2 ?_⟩
      rw [tkL, if_pos rfl] at hx
      simpa using (List.mem_filter.1 hx).2
    · unfold uq at h9 ⊢
      simp only [decide_eq_true_eq] at h9 ⊢
      exact h9.sublist (hsub.map _)
end Go.Proofs.YtjobfolipbfhlaoGreat

