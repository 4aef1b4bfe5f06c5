/- Jly. -/

import Derived.Test.YtmpcmllfgogegaaGreatuHim
namespace Go.Proofs.YtmpcmllfgogegaaGreat
open Go.RowKit Go.ChangeMaps
theorem w64_in {x : Int} (h1 : -9223372036854775808 ≤ x) (h2 : x ≤ 9223372036854775807) : w64 x = x := by
 have h := IntKind.wrap_i64 x
 show wrap64 x = x
 unfold wrap64
 omega
theorem jms_new (A B : List M4) (GA GB : List Int) (na nb N0 : Int) : ∀ (gs : List Int) (s : List M4 × Int), 0 ≤ N0 → N0 ≤ s.2 → s.2 + gs.length ≤ 9223372036854775806 →
  s.2 ≤ (gs.foldl (jst A B GA GB na nb) s).2 ∧ ∀ m ∈ (gs.foldl (jst A B GA GB na nb) s).1, m ∈ s.1 ∨ (m = gm A B m.1 ∧ kep A B na nb m.1 = true ∧ m.1 ∈ gs) ∨ N0 ≤ m.2.1 ∨ (∃ g ∈ gs, m = gm A B g ∧ kep A B na nb g = true)
 | [], s, _, _, _ => ⟨Int.le_refl _, fun m hm => .inl hm⟩
 | g :: gs, s, h0, h1, h2 => by
  rw [List.foldl_cons]
  rw [List.length_cons] at h2
  rcases jst_cases A B GA GB na nb s g with ⟨e, _⟩ | ⟨_, m, n, hm, hc, e⟩
  ·rw [e]
   have r := jms_new A B GA GB na nb N0 gs s h0 h1 (by omega)
   refine ⟨r.1, fun m hm => ?_⟩
   rcases r.2 m hm with k | ⟨k1, k2, k3⟩ | k | ⟨x, x1, x2⟩
   ·exact .inl k
   ·exact .inr (.inl ⟨k1, k2, List.mem_cons_of_mem _ k3⟩)
   ·exact .inr (.inr (.inl k))
   ·exact .inr (.inr (.inr ⟨x, List.mem_cons_of_mem _ x1, x2⟩))
  ·rw [e]
   have hn : s.2 ≤ n ∧ n ≤ s.2 + 1 := by
    rcases hc with ⟨_, _, rfl⟩ | ⟨_, _, rfl⟩
    ·omega
    ·rw [w64_in (by omega) (by omega)]; omega
   have r := jms_new A B GA GB na nb N0 gs (ptm m s.1, n) h0 (by omega) (by omega)
   refine ⟨Int.le_trans hn.1 r.1, fun y hy => ?_⟩
   rcases r.2 y hy with k | ⟨k1, k2, k3⟩ | k | ⟨x, x1, x2⟩
   ·rcases (ptm_mem _ _ y).1 k with rfl | k
    ·rcases hc with ⟨e1, e2, _⟩ | ⟨e1, _, _⟩
     ·exact .inr (.inr (.inr ⟨g, by simp, e1, e2⟩))
     ·exact .inr (.inr (.inl (by rw [e1]; exact h1)))
    ·exact .inl k
   ·exact .inr (.inl ⟨k1, k2, List.mem_cons_of_mem _ k3⟩)
   ·exact .inr (.inr (.inl k))
   ·exact .inr (.inr (.inr ⟨x, List.mem_cons_of_mem _ x1, x2⟩))
theorem mx8_ge (x y : Int) : x ≤ mx8 x y ∧ y ≤ mx8 x y := by unfold mx8; split <;> omega
theorem uid_kept {A B : List M4} {GA GB : List Int} {na nb : Int} (h0 : 0 ≤ mx8 na nb) (hN : mx8 na nb + (asl (A.map (·.1) ++ B.map (·.1))).length ≤ 9223372036854775806)
  (ha : ∀ x ∈ A, x.2.1 < na) (hb : ∀ x ∈ B, x.2.1 < nb) (ua : ∀ x ∈ A, ∀ y ∈ A, x.2.1 = y.2.1 → x = y) (ub : ∀ x ∈ B, ∀ y ∈ B, x.2.1 = y.2.1 → x = y)
  {m : M4} (hm : m ∈ (jms A B GA GB na nb (asl (A.map (·.1) ++ B.map (·.1)))).1) (hold : ¬ (na ≤ m.2.1 ∧ nb ≤ m.2.1)) :
  (∀ x ∈ A, x.2.1 = m.2.1 → x.1 = m.1) ∧ (∀ x ∈ B, x.2.1 = m.2.1 → x.1 = m.1) ∧ (∀ x, fnd m.1 A = some x → x.2.1 = m.2.1) ∧ (∀ y, fnd m.1 B = some y → y.2.1 = m.2.1) ∧ (fnd m.1 A = none → na ≤ m.2.1) ∧ (fnd m.1 B = none → nb ≤ m.2.1) := by
 have r := (jms_new A B GA GB na nb (mx8 na nb) (asl (A.map (·.1) ++ B.map (·.1))) ([], mx8 na nb) h0 (Int.le_refl _) hN).2 m hm
 have hmx := mx8_ge na nb
 have key : ∃ g, ¬ (fnd g A = none ∧ fnd g B = none) ∧ m = gm A B g ∧ kep A B na nb g = true := by
  rcases r with k | ⟨k1, k2, k3⟩ | k | ⟨g, g1, g2, g3⟩
  ·cases k
  ·exact ⟨m.1, gids_have k3, k1, k2⟩
  ·exact absurd ⟨by omega, by omega⟩ hold
  ·exact ⟨g, gids_have g1, g2, g3⟩
 obtain ⟨g, hg, rfl, hk⟩ := key
 have eg : (gm A B g).1 = g := gm_gid hg
 rw [eg]
 unfold kep hol at hk
 rw [Bool.and_eq_true, Bool.or_eq_true, Bool.or_eq_true] at hk
 cases h1 : fnd g A with
 | none =>
  cases h2 : fnd g B with
  | none => exact absurd ⟨h1, h2⟩ hg
  | some y =>
   have e : gm A B g = y := by unfold gm; rw [h1, h2]
   have ky := hk.2
   rw [h2] at ky
   simp only [Option.isSome_some, Bool.not_true, Bool.false_eq_true, false_or] at ky
   unfold kpu at ky
   rw [h2, h1] at ky
   simp only [decide_eq_true_eq] at ky
   have my := fnd_mem h2
   rw [e]
   refine ⟨fun x hx ex => ?_, fun x hx ex => ?_, fun x hx => ?_, fun x hx => ?_, fun _ => ky, fun h => ?_⟩
   ·have := ha x hx; omega
   ·rw [ub x hx y my.1 ex]; exact my.2
   ·simp at hx
   ·obtain rfl := Option.some.inj hx; rfl
   ·simp at h
 | some x =>
  have mx := fnd_mem h1
  have kx := hk.1
  rw [h1] at kx
  simp only [Option.isSome_some, Bool.not_true, Bool.false_eq_true, false_or] at kx
  unfold kpu at kx
  rw [h1] at kx
  cases h2 : fnd g B with
  | none =>
   have e : gm A B g = x := by unfold gm; rw [h1, h2]
   rw [h2] at kx
   simp only [decide_eq_true_eq] at kx
   rw [e]
   refine ⟨fun y hy ey => ?_, fun y hy ey => ?_, fun y hy => ?_, fun y hy => ?_, fun h => ?_, fun _ => kx⟩
   ·rw [ua y hy x mx.1 ey]; exact mx.2
   ·have := hb y hy; omega
   ·obtain rfl := Option.some.inj hy; rfl
   ·simp at hy
   ·simp at h
  | some y =>
   have my := fnd_mem h2
   rw [h2] at kx
   have exy : x.2.1 = y.2.1 := by simpa using kx
   have e : (gm A B g).2.1 = x.2.1 := by
    unfold gm
    rw [h1, h2]
    show jmu x.1 x.2.1 y.1 y.2.1 = x.2.1
    unfold jmu
    split
    ·split <;> omega
    ·rfl
   rw [e]
   refine ⟨fun z hz ez => ?_, fun z hz ez => ?_, fun z hz => ?_, fun z hz => ?_, fun h => ?_, fun h => ?_⟩
   ·rw [ua z hz x mx.1 ez]; exact mx.2
   ·rw [ub z hz y my.1 (by omega)]; exact my.2
   ·obtain rfl := Option.some.inj hz; rfl
   ·obtain rfl := Option.some.inj hz; exact exy.symm
   ·simp at h
   ·simp at h
end Go.Proofs.YtmpcmllfgogegaaGreat
