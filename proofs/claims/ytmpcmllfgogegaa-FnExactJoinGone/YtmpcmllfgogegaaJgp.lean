/- Numbers of two lists, ascending, each once. -/
import Derived.Test.YtmpcmllfgogegaaTky
namespace Go.Proofs.Ytmpcmllfgogegaa
open Go.RowKit Go.ChangeMaps

theorem in_mem (x : Int) (G : List Int) : inl x G = true ↔ x ∈ G := by
  induction G with
  | nil => simp [inl]
  | cons y G ih => simp only [inl, Bool.or_eq_true, decide_eq_true_eq, ih, List.mem_cons]; exact ⟨fun h => h.imp Eq.symm id, fun h => h.imp Eq.symm id⟩
theorem in_false (x : Int) (G : List Int) : inl x G = false ↔ ¬ x ∈ G := by rw [← in_mem, Bool.not_eq_true]
theorem in_cong {x : Int} {G H : List Int} (h : x ∈ G ↔ x ∈ H) : inl x G = inl x H := by
  cases e : inl x H with
  | true => exact (in_mem x G).2 (h.2 ((in_mem x H).1 e))
  | false => exact (in_false x G).2 (fun hg => (in_false x H).1 e (h.1 hg))
theorem pn_mem (x y : Int) (G : List Int) : y ∈ pin x G ↔ y = x ∨ y ∈ G := by
  simp only [pin, List.mem_append, List.mem_cons, List.mem_filter, decide_eq_true_eq]
  constructor
  · rintro (h | h | h)
    · exact .inr h.1
    · exact .inl h
    · exact .inr h.1
  · rintro (h | h)
    · exact .inr (.inl h)
    · rcases Int.lt_trichotomy y x with h1 | h1 | h1
      · exact .inl ⟨h, h1⟩
      · exact .inr (.inl h1)
      · exact .inr (.inr ⟨h, h1⟩)
theorem pn_len (x : Int) (G : List Int) : (pin x G).length ≤ G.length + 1 := by
  induction G with
  | nil => simp [pin]
  | cons y G ih =>
    simp only [pin, List.length_append, List.length_cons, List.filter_cons] at ih ⊢
    by_cases h : y < x
    · have h2 : ¬ x < y := by omega
      simp only [h, h2, decide_true, decide_false, if_true, if_false, List.length_cons, Bool.false_eq_true]; omega
    · simp only [h, decide_false, if_false, Bool.false_eq_true]
      by_cases h2 : x < y
      · simp only [h2, decide_true, if_true, List.length_cons]; omega
      · simp only [h2, decide_false, if_false, Bool.false_eq_true]; omega
theorem pn_asc {x : Int} {G : List Int} (h : G.Pairwise (· < ·)) : (pin x G).Pairwise (· < ·) := by
  unfold pin
  rw [List.pairwise_append, List.pairwise_cons]
  refine ⟨h.sublist List.filter_sublist, ⟨fun y hy => ?_, h.sublist List.filter_sublist⟩, fun y hy z hz => ?_⟩
  · simpa using (List.mem_filter.1 hy).2
  · have h1 : y < x := by simpa using (List.mem_filter.1 hy).2
    rcases List.mem_cons.1 hz with rfl | hz
    · exact h1
    · have h2 : x < z := by simpa using (List.mem_filter.1 hz).2
      omega
/-- A number put in, unless it is there. -/
def ins1 (o : List Int) (x : Int) : List Int := if inl x o = true then o else pin x o
theorem ins1_mem (o : List Int) (x y : Int) : y ∈ ins1 o x ↔ y = x ∨ y ∈ o := by
  unfold ins1
  split
  · rename_i h
    exact ⟨.inr, fun h' => h'.elim (fun e => e ▸ (in_mem x o).1 h) id⟩
  · exact pn_mem x y o
theorem ins1_len (o : List Int) (x : Int) : (ins1 o x).length ≤ o.length + 1 := by
  unfold ins1
  split
  · omega
  · exact pn_len x o
theorem ins1_asc {o : List Int} (x : Int) (h : o.Pairwise (· < ·)) : (ins1 o x).Pairwise (· < ·) := by
  unfold ins1
  split
  · exact h
  · exact pn_asc h
/-- All of a list, ascending, each once. -/
def asl (a : List Int) : List Int := a.foldl ins1 []
theorem asl_snoc (a : List Int) (x : Int) : asl (a ++ [x]) = ins1 (asl a) x := by simp [asl, List.foldl_append]
theorem foldi_mem (a o : List Int) (y : Int) : y ∈ a.foldl ins1 o ↔ y ∈ a ∨ y ∈ o := by
  induction a generalizing o with
  | nil => simp
  | cons x a ih =>
    rw [List.foldl_cons, ih, ins1_mem, List.mem_cons]
    constructor
    · rintro (h | h | h)
      · exact .inl (.inr h)
      · exact .inl (.inl h)
      · exact .inr h
    · rintro ((h | h) | h)
      · exact .inr (.inl h)
      · exact .inl h
      · exact .inr (.inr h)
theorem asl_mem (a : List Int) (y : Int) : y ∈ asl a ↔ y ∈ a := by rw [asl, foldi_mem]; simp
theorem foldi_asc (a o : List Int) (h : o.Pairwise (· < ·)) : (a.foldl ins1 o).Pairwise (· < ·) := by
  induction a generalizing o with
  | nil => exact h
  | cons x a ih => exact ih _ (ins1_asc x h)
theorem asl_asc (a : List Int) : (asl a).Pairwise (· < ·) := foldi_asc a [] List.Pairwise.nil
theorem foldi_len (a o : List Int) : (a.foldl ins1 o).length ≤ o.length + a.length := by
  induction a generalizing o with
  | nil => simp
  | cons x a ih => rw [List.foldl_cons]; have h := ih (ins1 o x); have h2 := ins1_len o x; rw [List.length_cons]; omega
theorem asl_len (a : List Int) : (asl a).length ≤ a.length := by have := foldi_len a []; simpa [asl] using this
/-- Lists that ascend are the same, where they have the same. -/
theorem asc_same {a b : List Int} (ha : a.Pairwise (· < ·)) (hb : b.Pairwise (· < ·)) (h : ∀ y, y ∈ a ↔ y ∈ b) : a = b := by
  induction a generalizing b with
  | nil =>
    cases b with
    | nil => rfl
    | cons y b => exact absurd ((h y).2 (by simp)) (by simp)
  | cons x a ih =>
    cases b with
    | nil => exact absurd ((h x).1 (by simp)) (by simp)
    | cons y b =>
      have hx := List.pairwise_cons.1 ha
      have hy := List.pairwise_cons.1 hb
      have e : x = y := by
        rcases List.mem_cons.1 ((h x).1 (by simp)) with e | e
        · exact e
        · rcases List.mem_cons.1 ((h y).2 (by simp)) with e' | e'
          · exact e'.symm
          · have h1 := hx.1 y e'; have h2 := hy.1 x e; omega
      subst e
      rw [ih hx.2 hy.2 (fun z => ?_)]
      constructor
      · intro hz
        rcases List.mem_cons.1 ((h z).1 (List.mem_cons_of_mem _ hz)) with e | e
        · have := hx.1 z hz; omega
        · exact e
      · intro hz
        rcases List.mem_cons.1 ((h z).2 (List.mem_cons_of_mem _ hz)) with e | e
        · have := hy.1 z hz; omega
        · exact e
theorem asl_same {a b : List Int} (h : ∀ y, y ∈ a ↔ y ∈ b) : asl a = asl b :=
  asc_same (asl_asc a) (asl_asc b) (fun y => by rw [asl_mem, asl_mem]; exact h y)
theorem asl_of {a : List Int} (h : a.Pairwise (· < ·)) : asl a = a := asc_same (asl_asc a) h (fun y => asl_mem a y)
end Go.Proofs.Ytmpcmllfgogegaa
