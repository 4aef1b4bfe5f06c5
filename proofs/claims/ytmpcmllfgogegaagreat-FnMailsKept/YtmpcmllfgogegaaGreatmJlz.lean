/- Jlz. -/

import Derived.Test.YtmpcmllfgogegaaGreatmJly
namespace Go.Proofs.YtmpcmllfgogegaaGreat
open Go.RowKit Go.ChangeMaps
theorem same_len {α : Type} {X Y : List α} (hx : X.Pairwise (· ≠ ·)) (hy : Y.Pairwise (· ≠ ·)) (h : ∀ y, y ∈ X ↔ y ∈ Y) : X.length = Y.length := by
 have sub : ∀ {X Y : List α}, X.Pairwise (· ≠ ·) → (∀ y, y ∈ X → y ∈ Y) → X.length ≤ Y.length := by
  intro X
  induction X with
  | nil => intro Y _ _; exact Nat.zero_le _
  | cons x X ih =>
   intro Y hx h
   have p := List.pairwise_cons.1 hx
   obtain ⟨s, t, rfl⟩ := List.append_of_mem (h x (by simp))
   have := ih (Y := s ++ t) p.2 (fun y hy => by
     rcases List.mem_append.1 (h y (List.mem_cons_of_mem _ hy)) with k | k
     · exact List.mem_append_left _ k
     · rcases List.mem_cons.1 k with k | k
       · exact absurd k.symm (p.1 y hy)
       · exact List.mem_append_right _ k)
   simp only [List.length_append, List.length_cons] at this ⊢
   omega
 exact Nat.le_antisymm (sub hx (fun y hy => (h y).1 hy)) (sub hy (fun y hy => (h y).2 hy))
theorem filt_two (J : List Int) (p : Int → Bool) : (J.filter p).length + (J.filter (fun x => !p x)).length = J.length := by
 induction J with
 | nil => rfl
 | cons x J ih =>
  simp only [List.filter_cons, List.length_cons]
  cases p x <;> simp <;> omega
theorem count_two {X Y J : List Int} (hx : X.Pairwise (· ≠ ·)) (hy : Y.Pairwise (· ≠ ·)) (hj : J.Pairwise (· ≠ ·)) (h : ∀ g ∈ J, g ∈ X ∨ g ∈ Y) : (X.filter (fun g => inl g J)).length + (Y.filter (fun g => inl g J && !inl g X)).length = J.length := by
 have e1 : (X.filter (fun g => inl g J)).length = (J.filter (fun g => inl g X)).length := same_len (hx.sublist List.filter_sublist) (hj.sublist List.filter_sublist) (fun y => by
   rw [List.mem_filter, List.mem_filter, in_mem, in_mem]; exact And.comm)
 have e2 : (Y.filter (fun g => inl g J && !inl g X)).length = (J.filter (fun g => !inl g X)).length := same_len (hy.sublist List.filter_sublist) (hj.sublist List.filter_sublist) (fun y => by
   rw [List.mem_filter, List.mem_filter, Bool.and_eq_true, in_mem, Bool.not_eq_true', in_false]
   constructor
   · exact fun k => ⟨k.2.1, k.2.2⟩
   · exact fun k => ⟨(h y k.1).resolve_left k.2, k.1, k.2⟩)
 rw [e1, e2, filt_two]
theorem hol_inl (g : Int) (L : List M4) : hol g L = inl g (L.map (·.1)) := by
 unfold hol
 induction L with
 | nil => rfl
 | cons m L ih =>
  rw [fnd, List.map_cons, inl]
  by_cases e : m.1 = g
  ·rw [if_pos e]; simp [e]
  ·rw [if_neg e, ih]; simp [e]
theorem hol_joined {A B : List M4} {GA GB : List Int} {na nb : Int} {g : Int} (hg : g ∈ A.map (·.1)) (hn : inl g GA = false) : hol g (jms A B GA GB na nb (asl (A.map (·.1) ++ B.map (·.1)))).1 = !inl g GB := by
 have k := jms_gids A B GA GB na nb (asl (A.map (·.1) ++ B.map (·.1))) ([], mx8 na nb) (fun x hx => gids_have hx) g
 have hm : g ∈ asl (A.map (·.1) ++ B.map (·.1)) := (asl_mem _ _).2 (List.mem_append_left _ hg)
 rw [hol_inl]
 cases e : inl g GB with
 | false =>
  rw [Bool.not_false, in_mem]
  exact k.2 (.inr ⟨hm, by rw [hn, e]; rfl⟩)
 | true =>
  rw [Bool.not_true, in_false]
  intro hc
  rcases k.1 hc with c | c
  ·cases c
  ·rw [e, Bool.or_true] at c; cases c.2
end Go.Proofs.YtmpcmllfgogegaaGreat
