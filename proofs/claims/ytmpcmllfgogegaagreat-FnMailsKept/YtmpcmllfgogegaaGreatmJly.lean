/- Jly. -/

import Derived.Test.YtmpcmllfgogegaaGreatmD
namespace Go.Proofs.YtmpcmllfgogegaaGreat
open Go.RowKit Go.ChangeMaps
theorem jms_gids (A B : List M4) (GA GB : List Int) (na nb : Int) : ∀ (gs : List Int) (s : List M4 × Int), (∀ g ∈ gs, ¬ (fnd g A = none ∧ fnd g B = none)) → ∀ g, (g ∈ (gs.foldl (jst A B GA GB na nb) s).1.map (·.1) ↔ g ∈ s.1.map (·.1) ∨ (g ∈ gs ∧ (inl g GA || inl g GB) = false))
 | [], s, _, g => by simp
 | x :: gs, s, h, g => by
  rw [List.foldl_cons]
  rcases jst_cases A B GA GB na nb s x with ⟨e, e2⟩ | ⟨hin, m, n, hm, _, e⟩
  ·rw [e, jms_gids A B GA GB na nb gs s (fun y hy => h y (List.mem_cons_of_mem _ hy)) g, List.mem_cons]
   constructor
   ·exact fun k => k.imp id (fun k => ⟨.inr k.1, k.2⟩)
   ·rintro (k | ⟨k1 | k1, k2⟩)
    ·exact .inl k
    ·subst k1; rw [e2] at k2; cases k2
    ·exact .inr ⟨k1, k2⟩
  ·have hg : m.1 = x := hm.trans (gm_gid (h x (by simp)))
   rw [e, jms_gids A B GA GB na nb gs (ptm m s.1, n) (fun y hy => h y (List.mem_cons_of_mem _ hy)) g, List.mem_cons]
   have hp : g ∈ (ptm m s.1).map (·.1) ↔ g = x ∨ g ∈ s.1.map (·.1) := by
    rw [List.mem_map, List.mem_map]
    constructor
    ·rintro ⟨y, hy, rfl⟩
     rcases (ptm_mem _ _ y).1 hy with k | k
     ·left; rw [k]; exact hg
     ·exact .inr ⟨y, k, rfl⟩
    ·rintro (k | ⟨y, hy, rfl⟩)
     ·exact ⟨m, (ptm_mem _ _ m).2 (.inl rfl), by rw [k]; exact hg⟩
     ·exact ⟨y, (ptm_mem _ _ y).2 (.inr hy), rfl⟩
   show g ∈ (ptm m s.1).map (·.1) ∨ _ ↔ _
   rw [hp]
   constructor
   ·rintro ((k | k) | k)
    ·subst k; exact .inr ⟨.inl rfl, hin⟩
    ·exact .inl k
    ·exact .inr ⟨.inr k.1, k.2⟩
   ·rintro (k | ⟨k1 | k1, k2⟩)
    ·exact .inl (.inr k)
    ·exact .inl (.inl k1)
    ·exact .inr ⟨k1, k2⟩
end Go.Proofs.YtmpcmllfgogegaaGreat
