/- What is done to a drawn box, as numbers and lists. -/
import Derived.Test.YtfmacodnjhegcabGreatMm
namespace Go.Proofs.YtfmacodnjhegcabGreat
open Go.RowKit Go.ChangeMaps

theorem inl_of {x : Int} {G : List Int} (h : ∀ y ∈ G, y ≠ x) : inl x G = false := by
  cases hi : inl x G with
  | false => rfl
  | true =>
    have hmem : ∀ {l : List Int}, inl x l = true → x ∈ l := by
      intro l
      induction l with
      | nil => intro h; simp [inl] at h
      | cons a l ih =>
        intro h
        simp only [inl, Bool.or_eq_true, decide_eq_true_eq] at h
        rcases h with h | h
        · rw [h]; exact List.mem_cons_self ..
        · exact List.mem_cons_of_mem _ (ih h)
    exact absurd rfl (h x (hmem hi))
theorem inl_mem {x : Int} {G : List Int} (h : x ∈ G) : inl x G = true := by
  cases hi : inl x G with
  | true => rfl
  | false => exact absurd rfl (inl_not hi x h)
theorem fnew_ok {fl st sb : Int} (h : stOk st sb = true) : flOk (fnew fl st sb) = true := by
  have h0 := bit_le fl 0
  have h1 := bit_le fl 1
  have h2 := bit_le fl 2
  simp only [flOk, fnew, List.all_cons, List.all_nil, okp, rgOk, h, Bool.and_eq_true, decide_eq_true_eq, Bool.true_and]
  refine ⟨rfl, ⟨⟨h0.1, by omega⟩, h0.2⟩, ⟨⟨h1.1, by omega⟩, h1.2⟩, ⟨⟨h2.1, by omega⟩, h2.2⟩, trivial⟩
section
variable {g : Int} {nm : ByteArray} {t b nx : Int} {L : List M4} {G : List Int}
theorem am_new {gid fl : Int} {tx : ByteArray} {st sb : Int} (h : bxOk g nm t b nx L G = true) (hx : nx ≤ 9999) (hg : gok gid = true) (hL : ∀ m ∈ L, m.1 ≠ gid) (hG : ∀ y ∈ G, y ≠ gid) (hs : stOk st sb = true) (ht : tx.size ≤ 60) (hl : L.length < 10) :
    bxOk g nm t b (nx + 1) (L ++ [nwm gid nx fl tx st sb]) G = true := by
  obtain ⟨h1, h2, h3, h4, h5, h6, h7, h8, h9⟩ := bx_iff.1 h
  refine bx_iff.2 ⟨h1, h2, h3, ⟨by omega, by omega⟩, by rw [List.length_append]; simp only [List.length_cons, List.length_nil]; omega, h6, fun m hm => ?_, ?_, ?_⟩
  · rcases List.mem_append.1 hm with hm | hm
    · have := h7 m hm
      exact ⟨this.1, by omega, this.2.2⟩
    · simp only [List.mem_cons, List.not_mem_nil, or_false] at hm
      subst hm
      refine ⟨?_, by show nx < nx + 1; omega, inl_of hG⟩
      show mlOk gid nx (fnew fl st sb) tx = true
      simp only [mlOk, Bool.and_eq_true, decide_eq_true_eq]
      refine ⟨hg, ?_, fnew_ok hs, by omega⟩
      simp only [gok, Bool.and_eq_true, decide_eq_true_eq]
      omega
  · unfold Upr at h8 ⊢
    rw [List.pairwise_append]
    refine ⟨h8, List.pairwise_singleton _ _, fun x hx y hy => ?_⟩
    simp only [List.mem_cons, List.not_mem_nil, or_false] at hy
    subst hy
    exact (h7 x hx).2.1
  · unfold uq at h9 ⊢
    simp only [decide_eq_true_eq] at h9 ⊢
    rw [List.map_append, List.nodup_append]
    refine ⟨h9, by simp, fun a ha c hc => ?_⟩
    obtain ⟨m, hm, rfl⟩ := List.mem_map.1 ha
    simp only [List.map_cons, List.map_nil, List.mem_cons, List.not_mem_nil, or_false] at hc
    subst hc
    exact hL m hm
theorem any_no {gid : Int} (hL : ∀ m ∈ L, m.1 ≠ gid) : L.any (fun m => decide (m.1 = gid)) = false := by
  rw [List.any_eq_false]
  intro m hm
  simp [hL m hm]
theorem am_room {gid fl : Int} {tx : ByteArray} {st sb : Int} (h : bxOk g nm t b nx L G = true) (hx : nx ≤ 9999) (hg : gok gid = true) (hL : ∀ m ∈ L, m.1 ≠ gid) (hG : ∀ y ∈ G, y ≠ gid) (hf : flr fl = true) (hs : stOk st sb = true) (ht : tx.size ≤ 60) :
    amOk g nm t b nx L G gid fl tx st sb = decide (L.length < 10) := by
  unfold amOk
  rw [h, any_no hL, inl_of hG, hf]
  simp only [Bool.true_and, Bool.not_false]
  by_cases hl : L.length < 10
  · rw [am_new h hx hg hL hG hs ht hl]; simp [hl]
  · have : bxOk g nm t b (nx + 1) (L ++ [nwm gid nx fl tx st sb]) G = false := by
      cases hb : bxOk g nm t b (nx + 1) (L ++ [nwm gid nx fl tx st sb]) G with
      | false => rfl
      | true =>
        have := (bx_small hb).1
        rw [List.length_append] at this
        simp only [List.length_cons, List.length_nil] at this
        omega
    rw [this]; simp [hl]
theorem am_shut {gid fl : Int} {tx : ByteArray} {st sb : Int} (h : inl gid G = true) : amOk g nm t b nx L G gid fl tx st sb = false := by
  unfold amOk
  rw [h]
  simp
theorem am_twice {gid fl : Int} {tx : ByteArray} {st sb : Int} (h : L.any (fun m => decide (m.1 = gid)) = true) : amOk g nm t b nx L G gid fl tx st sb = false := by
  unfold amOk
  rw [h]
  simp
theorem Dbx.off {k : Nat} {gid : Int} (h : Dbx k g nm t b nx L G) (hg : 18 < gid) : (∀ m ∈ L, m.1 ≠ gid) ∧ ∀ y ∈ G, y ≠ gid :=
  ⟨fun m hm => by have := (h.each m hm).1; omega, fun y hy => by have := h.out y hy; omega⟩
theorem tk_back {m : M4} (hL : ∀ x ∈ L, x.1 ≠ m.1) : tkL true (L ++ [m]) m.1 = L := by
  rw [tkL, if_pos rfl, List.filter_append, List.filter_eq_self.2 (fun x hx => by simpa using hL x hx)]
  simp
theorem pin_mem {x y : Int} (h : y ∈ pin x G) : y = x ∨ y ∈ G := by
  unfold pin at h
  rcases List.mem_append.1 h with h | h
  · exact .inr (List.mem_filter.1 h).1
  · rcases List.mem_cons.1 h with h | h
    · exact .inl h
    · exact .inr (List.mem_filter.1 h).1
theorem pin_in (x : Int) (G : List Int) : x ∈ pin x G := by
  unfold pin
  simp
/-- All that the law of boxes asks of numbers and lists. -/
theorem fn_boxes {fl : Int} (h : Dbx 11 g nm t b nx L G) (hf : 0 ≤ fl ∧ fl ≤ 7) (hl : L.length < 10) (tx tx2 tx3 tx4 : ByteArray) (h1 : tx.size ≤ 60) (h3 : tx3.size ≤ 60) :
    amOk g nm t b nx L G 77 fl tx 60 1 = true ∧ bxOk g nm t b (nx + 1) (L ++ [nwm 77 nx fl tx 60 1]) G = true ∧ mat 77 (L ++ [nwm 77 nx fl tx 60 1]) 0 = ((L.length : Nat) : Int) ∧
    tkOk g nm t b (nx + 1) (L ++ [nwm 77 nx fl tx 60 1]) G 77 = true ∧ tkL true (L ++ [nwm 77 nx fl tx 60 1]) 77 = L ∧ bxOk g nm t b (nx + 1) L (pin 77 G) = true ∧ mat 77 L 0 = -1 ∧
    amOk g nm t b (nx + 1) L (pin 77 G) 77 0 tx2 60 1 = false ∧ amOk g nm t b (nx + 1) L (pin 77 G) 78 0 tx3 60 1 = true ∧
    amOk g nm t b (nx + 1) (L ++ [nwm 77 nx fl tx 60 1]) G 77 0 tx4 60 1 = false ∧ nx + 1 ≤ 9999 := by
  have hn := h.next
  have hp := (bx_iff.1 h.right).2.2.2.1
  obtain ⟨o1, o2⟩ := h.off (gid := 77) (by decide)
  obtain ⟨q1, q2⟩ := h.off (gid := 78) (by decide)
  have hflr : flr fl = true := by simp only [flr, Bool.and_eq_true, decide_eq_true_eq]; exact hf
  have e1 : amOk g nm t b nx L G 77 fl tx 60 1 = true := by
    rw [am_room h.right (by omega) (by decide) o1 o2 hflr (by decide) h1]; simp [hl]
  have e2 := am_new (fl := fl) h.right (by omega) (gid := 77) (by decide) o1 o2 (st := 60) (sb := 1) (by decide) h1 hl
  have e3 : mat 77 (L ++ [nwm 77 nx fl tx 60 1]) 0 = ((L.length : Nat) : Int) := by
    have := mat_split (g := 77) L (nwm 77 nx fl tx 60 1) [] 0 o1 rfl
    simpa using this
  have e4 : tkOk g nm t b (nx + 1) (L ++ [nwm 77 nx fl tx 60 1]) G 77 = true := by
    unfold tkOk
    rw [e2]
    have := h.gone
    simp only [List.any_append, Bool.true_and, Bool.and_eq_true, Bool.or_eq_true, decide_eq_true_eq]
    refine ⟨.inr ?_, by omega⟩
    simp [nwm]
  have e5 : tkL true (L ++ [nwm 77 nx fl tx 60 1]) 77 = L := tk_back (m := nwm 77 nx fl tx 60 1) o1
  have e6 : bxOk g nm t b (nx + 1) L (pin 77 G) = true := by
    have := tk_right (gid := 77) e2
    rw [e4, e5, tkG, if_pos rfl] at this
    exact this
  refine ⟨e1, e2, e3, e4, e5, e6, mat_none L 0 o1, am_shut (inl_mem (pin_in 77 G)), ?_, am_twice ?_, by omega⟩
  · rw [am_room e6 (by omega) (by decide) q1 (fun y hy => ?_) (by decide) (by decide) h3]
    · simp [hl]
    · rcases pin_mem hy with rfl | hy
      · decide
      · exact q2 y hy
  · simp [nwm]
/-- A box that is full takes none. -/
theorem fn_full {fl : Int} (h : Dbx 11 g nm t b nx L G) (hf : 0 ≤ fl ∧ fl ≤ 7) (hl : ¬ L.length < 10) (tx : ByteArray) (h1 : tx.size ≤ 60) : amOk g nm t b nx L G 77 fl tx 60 1 = false := by
  have hn := h.next
  obtain ⟨o1, o2⟩ := h.off (gid := 77) (by decide)
  have hflr : flr fl = true := by simp only [flr, Bool.and_eq_true, decide_eq_true_eq]; exact hf
  rw [am_room h.right (by omega) (by decide) o1 o2 hflr (by decide) h1]
  simp [hl]
end
end Go.Proofs.YtfmacodnjhegcabGreat
