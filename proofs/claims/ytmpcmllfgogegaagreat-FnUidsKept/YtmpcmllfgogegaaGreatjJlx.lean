/- Jlw, Jlx. -/

import Derived.Test.YtmpcmllfgogegaaGreatjJby
namespace Go.Proofs.YtmpcmllfgogegaaGreat
open Go.RowKit Go.ChangeMaps
theorem jpw_comm (p q : R3) : jp p q = jp q p := by
 have iff : ∀ p q : R3, jp p q = if (p.2.1 = q.2.1 ∧ p.2.2 = q.2.2 ∧ p.1 < q.1) ∨ p.2.1 < q.2.1 ∨ (p.2.1 = q.2.1 ∧ p.2.2 < q.2.2) then q else p := by
  intro p q
  unfold jp
  by_cases h : cb q.1 q.2.1 q.2.2 p.1 p.2.1 p.2.2 = true
  ·rw [if_pos h, if_pos (by have := cb_iff.1 h; omega)]
  ·rw [if_neg h, if_neg (fun k => h (cb_iff.2 (by omega)))]
 rw [iff, iff]
 split
 ·rw [if_neg (by omega)]
 ·split
  ·rfl
  ·exact Prod.ext (by omega) (Prod.ext (by omega) (by omega))
theorem jpw_self (p : R3) : jp p p = p := by unfold jp; split <;> rfl
theorem jlw_comm (a b : List R3) : jl a b = jl b a := by
 unfold jl
 induction a generalizing b with
 | nil => cases b <;> rfl
 | cons p a ih =>
  cases b with
  | nil => rfl
  | cons q b => rw [List.zipWith_cons_cons, List.zipWith_cons_cons, jpw_comm, ih]
theorem jlw_self (a : List R3) : jl a a = a := by
 unfold jl
 induction a with
 | nil => rfl
 | cons p a ih => rw [List.zipWith_cons_cons, jpw_self, ih]
theorem ba_ext {x y : ByteArray} (h : x.toList = y.toList) : x = y := by
 cases x; cases y
 rename_i a b
 have : a.toList = b.toList := by simpa [ByteArray.toList_eq] using h
 congr 1
 exact Array.toList_inj.1 this
theorem mxs_comm (x y : ByteArray) : mxs x y = mxs y x := by
 unfold mxs
 have h := less_tri x.toList y.toList
 have h2 := less_tri y.toList x.toList
 cases e : Op.bytesLess x.toList y.toList with
 | true =>
  have e2 : Op.bytesLess y.toList x.toList = false := by rw [e] at h; simp at h; exact h.1
  rw [e2]; rfl
 | false =>
  cases e2 : Op.bytesLess y.toList x.toList with
  | true => rfl
  | false =>
   rw [e, e2] at h
   simp at h
   exact (ba_ext h).symm
theorem mxs_self (x : ByteArray) : mxs x x = x := by unfold mxs; split <;> rfl
theorem gm_comm (A B : List M4) (g : Int) : gm A B g = gm B A g := by
 unfold gm
 cases h1 : fnd g A with
 | none => cases h2 : fnd g B <;> rfl
 | some x =>
  cases h2 : fnd g B with
  | none => rfl
  | some y =>
   have e : x.1 = y.1 := (fnd_mem h1).2.trans (fnd_mem h2).2.symm
   show (x.1, jmu x.1 x.2.1 y.1 y.2.1, jml x.1 x.2.2.1 y.1 y.2.2.1, jmt x.1 x.2.2.2 y.1 y.2.2.2) = (y.1, jmu y.1 y.2.1 x.1 x.2.1, jml y.1 y.2.2.1 x.1 x.2.2.1, jmt y.1 y.2.2.2 x.1 x.2.2.2)
   rw [e]
   unfold jmu jml jmt
   rw [if_pos rfl, if_pos rfl, if_pos rfl, if_pos rfl, if_pos rfl, if_pos rfl, jlw_comm, mxs_comm]
   congr 2
   split <;> split <;> omega
theorem kep_comm (A B : List M4) (na nb g : Int) : kep A B na nb g = kep B A nb na g := by unfold kep; rw [Bool.and_comm]
theorem mx8_comm (x y : Int) : mx8 x y = mx8 y x := by unfold mx8; split <;> split <;> omega
theorem jst_comm (A B : List M4) (GA GB : List Int) (na nb : Int) : jst A B GA GB na nb = jst B A GB GA nb na := by
 funext s g
 unfold jst
 rw [Bool.or_comm, kep_comm, gm_comm]
theorem jms_comm (A B : List M4) (GA GB : List Int) (na nb : Int) (gs : List Int) : jms A B GA GB na nb gs = jms B A GB GA nb na gs := by
 unfold jms
 rw [jst_comm, mx8_comm]
theorem asl_comm (a b : List Int) : asl (a ++ b) = asl (b ++ a) := asl_same (fun y => by rw [List.mem_append, List.mem_append]; exact Or.comm)
theorem bnm_comm (nm : ByteArray) (t b : Int) (nm' : ByteArray) (t' b' : Int) : bnm nm t b nm' t' b' = true → bnm nm' t' b' nm t b = false := by
 intro h
 unfold bnm at h ⊢
 simp only [Bool.or_eq_true, Bool.and_eq_true, decide_eq_true_eq, later_iff] at h
 rw [Bool.or_eq_false_iff]
 refine ⟨?_, ?_⟩
 ·rw [← Bool.not_eq_true, later_iff]; omega
 ·rcases h with h | ⟨⟨h1, h2⟩, h3⟩
  ·have : ¬ (t' = t ∧ b' = b) := by omega
   by_cases e : t' = t
   ·have e2 : ¬ b' = b := fun e2 => this ⟨e, e2⟩
    simp [e2]
   ·simp [e]
  ·have := less_tri nm.toList nm'.toList
   rw [h3] at this
   rw [this]; simp
theorem bnm_none {nm : ByteArray} {t b : Int} {nm' : ByteArray} {t' b' : Int} (h1 : bnm nm t b nm' t' b' = false) (h2 : bnm nm' t' b' nm t b = false) : nm = nm' ∧ t = t' ∧ b = b' := by
 unfold bnm at h1 h2
 rw [Bool.or_eq_false_iff, ← Bool.not_eq_true, later_iff] at h1 h2
 have et : t = t' := by omega
 have eb : b = b' := by omega
 refine ⟨?_, et, eb⟩
 have q1 := h1.2
 have q2 := h2.2
 simp only [et, eb, decide_true, Bool.true_and, Bool.not_eq_false', Bool.or_eq_true] at q1 q2
 rcases q1 with q1 | q1
 ·rcases q2 with q2 | q2
  ·have := less_tri nm'.toList nm.toList
   rw [q1, q2] at this; simp at this
  ·exact ba_ext (by simpa using q2)
 ·exact (ba_ext (by simpa using q1)).symm
theorem jbN_comm (g : Int) (nm : ByteArray) (t b : Int) (nm' : ByteArray) (t' b' : Int) : jbN g nm t b g nm' t' b' = jbN g nm' t' b' g nm t b ∧ jbT g nm t b g nm' t' b' = jbT g nm' t' b' g nm t b ∧ jbB g nm t b g nm' t' b' = jbB g nm' t' b' g nm t b := by
 unfold jbN jbT jbB
 cases e : bnm nm t b nm' t' b' with
 | true =>
  have e2 := bnm_comm nm t b nm' t' b' e
  simp [e2]
 | false =>
  cases e2 : bnm nm' t' b' nm t b with
  | true => simp
  | false =>
   obtain ⟨h1, h2, h3⟩ := bnm_none e e2
   simp [h1, h2, h3]
theorem jbX_comm (g nx : Int) (L : List M4) (G : List Int) (nx' : Int) (L' : List M4) (G' : List Int) : jbX g nx L G g nx' L' G' = jbX g nx' L' G' g nx L G ∧ jbL g nx L G g nx' L' G' = jbL g nx' L' G' g nx L G ∧ jbG g G g G' = jbG g G' g G := by
 unfold jbX jbL jbG
 rw [if_pos rfl, if_pos rfl, if_pos rfl, if_pos rfl, if_pos rfl, if_pos rfl, jms_comm, asl_comm (L.map _), asl_comm G]
 exact ⟨rfl, rfl, rfl⟩
def ug (x y : M4) : Prop := x.2.1 < y.2.1 ∨ (x.2.1 = y.2.1 ∧ x.1 < y.1)
theorem strict_same {α : Type} {R : α → α → Prop} (asym : ∀ x y, R x y → ¬ R y x) {X Y : List α} (hx : X.Pairwise R) (hy : Y.Pairwise R) (h : ∀ y, y ∈ X ↔ y ∈ Y) : X = Y := by
 induction X generalizing Y with
 | nil =>
  cases Y with
  | nil => rfl
  | cons y Y => exact absurd ((h y).2 (by simp)) (by simp)
 | cons x X ih =>
  cases Y with
  | nil => exact absurd ((h x).1 (by simp)) (by simp)
  | cons y Y =>
   have px := List.pairwise_cons.1 hx
   have py := List.pairwise_cons.1 hy
   have e : x = y := by
    rcases List.mem_cons.1 ((h x).1 (by simp)) with e | e
    ·exact e
    ·rcases List.mem_cons.1 ((h y).2 (by simp)) with e' | e'
     ·exact e'.symm
     ·exact absurd (py.1 x e) (asym x y (px.1 y e'))
   subst e
   rw [ih px.2 py.2 (fun z => ?_)]
   constructor
   ·intro hz
    rcases List.mem_cons.1 ((h z).1 (List.mem_cons_of_mem _ hz)) with e | e
    ·subst e; exact absurd (px.1 z hz) (fun k => asym z z k k)
    ·exact e
   ·intro hz
    rcases List.mem_cons.1 ((h z).2 (List.mem_cons_of_mem _ hz)) with e | e
    ·subst e; exact absurd (py.1 z hz) (fun k => asym z z k k)
    ·exact e
theorem ug_asym (x y : M4) : ug x y → ¬ ug y x := by unfold ug; omega
theorem ptm_ug {m : M4} {L : List M4} (h : L.Pairwise ug) (hg : ∀ y ∈ L, y.1 < m.1) : (ptm m L).Pairwise ug := by
 unfold ptm
 rw [List.pairwise_append, List.pairwise_cons]
 refine ⟨h.sublist List.filter_sublist, ⟨fun y hy => ?_, h.sublist List.filter_sublist⟩, fun y hy z hz => ?_⟩
 ·exact .inl (by simpa using (List.mem_filter.1 hy).2)
 ·have h1 : y.2.1 ≤ m.2.1 := by simpa using (List.mem_filter.1 hy).2
  rcases List.mem_cons.1 hz with rfl | hz
  ·have h2 := hg y (List.mem_filter.1 hy).1
   unfold ug; omega
  ·have h2 : m.2.1 < z.2.1 := by simpa using (List.mem_filter.1 hz).2
   exact .inl (by omega)
theorem gm_gid {A B : List M4} {g : Int} (h : ¬ (fnd g A = none ∧ fnd g B = none)) : (gm A B g).1 = g := by
 unfold gm
 cases h1 : fnd g A with
 | none =>
  cases h2 : fnd g B with
  | none => exact absurd ⟨h1, h2⟩ h
  | some y => exact (fnd_mem h2).2
 | some x =>
  cases h2 : fnd g B with
  | none => exact (fnd_mem h1).2
  | some y => exact (fnd_mem h1).2
theorem jst_cases (A B : List M4) (GA GB : List Int) (na nb : Int) (s : List M4 × Int) (g : Int) : jst A B GA GB na nb s g = s ∧ (inl g GA || inl g GB) = true ∨ (inl g GA || inl g GB) = false ∧ ∃ m n, m.1 = (gm A B g).1 ∧ (m = gm A B g ∧ kep A B na nb g = true ∧ n = s.2 ∨ m = stu (gm A B g) s.2 ∧ kep A B na nb g = false ∧ n = w64 (s.2 + 1)) ∧ jst A B GA GB na nb s g = (ptm m s.1, n) := by
 unfold jst
 cases h1 : (inl g GA || inl g GB) with
 | true => exact .inl ⟨by simp, rfl⟩
 | false =>
  refine .inr ⟨rfl, ?_⟩
  cases h2 : kep A B na nb g with
  | true => exact ⟨gm A B g, s.2, rfl, .inl ⟨rfl, rfl, rfl⟩, by simp⟩
  | false => exact ⟨stu (gm A B g) s.2, w64 (s.2 + 1), rfl, .inr ⟨rfl, rfl, rfl⟩, by simp⟩
theorem jms_ug (A B : List M4) (GA GB : List Int) (na nb : Int) : ∀ (gs : List Int) (s : List M4 × Int), gs.Pairwise (· < ·) → (∀ g ∈ gs, ¬ (fnd g A = none ∧ fnd g B = none)) → s.1.Pairwise ug → (∀ y ∈ s.1, ∀ g ∈ gs, y.1 < g) →
  (gs.foldl (jst A B GA GB na nb) s).1.Pairwise ug ∧ ∀ y, y ∈ (gs.foldl (jst A B GA GB na nb) s).1 → y ∈ s.1 ∨ (y.1 ∈ gs ∧ (inl y.1 GA || inl y.1 GB) = false)
 | [], s, _, _, h3, _ => ⟨h3, fun _ h => .inl h⟩
 | g :: gs, s, h1, h2, h3, h4 => by
  have p1 := List.pairwise_cons.1 h1
  rw [List.foldl_cons]
  rcases jst_cases A B GA GB na nb s g with ⟨e, _⟩ | ⟨hin, m, n, hm, _, e⟩
  ·rw [e]
   have r := jms_ug A B GA GB na nb gs s p1.2 (fun x hx => h2 x (List.mem_cons_of_mem _ hx)) h3 (fun y hy x hx => h4 y hy x (List.mem_cons_of_mem _ hx))
   exact ⟨r.1, fun y hy => (r.2 y hy).imp id (fun k => ⟨List.mem_cons_of_mem _ k.1, k.2⟩)⟩
  ·rw [e]
   have hg : m.1 = g := hm.trans (gm_gid (h2 g (by simp)))
   have r := jms_ug A B GA GB na nb gs (ptm m s.1, n) p1.2 (fun x hx => h2 x (List.mem_cons_of_mem _ hx)) (ptm_ug h3 (fun y hy => by rw [hg]; exact h4 y hy g (by simp))) (fun y hy x hx => by
     rcases (ptm_mem _ _ y).1 hy with rfl | hy
     · rw [hg]; exact p1.1 x hx
     · exact h4 y hy x (List.mem_cons_of_mem _ hx))
   refine ⟨r.1, fun y hy => ?_⟩
   rcases r.2 y hy with k | k
   ·rcases (ptm_mem _ _ y).1 k with rfl | k
    ·exact .inr ⟨by rw [hg]; simp, by rw [hg]; exact hin⟩
    ·exact .inl k
   ·exact .inr ⟨List.mem_cons_of_mem _ k.1, k.2⟩
theorem fnd_some {x : Int} : ∀ {l : List M4}, x ∈ l.map (·.1) → fnd x l ≠ none
 | [], h => by simp at h
 | y :: l, h => by
  rw [fnd]
  by_cases e : y.1 = x
  ·rw [if_pos e]; simp
  ·rw [if_neg e]
   rw [List.map_cons, List.mem_cons] at h
   exact fnd_some (h.resolve_left (fun h' => e h'.symm))
theorem gids_have {A B : List M4} {g : Int} (h : g ∈ asl (A.map (·.1) ++ B.map (·.1))) : ¬ (fnd g A = none ∧ fnd g B = none) := fun hc => by
 rcases List.mem_append.1 ((asl_mem _ g).1 h) with k | k
 ·exact fnd_some k hc.1
 ·exact fnd_some k hc.2
theorem fnd_one {L : List M4} (h : ∀ x ∈ L, ∀ y ∈ L, x.1 = y.1 → x = y) {m : M4} (hm : m ∈ L) : fnd m.1 L = some m := by
 cases e : fnd m.1 L with
 | none => exact absurd e (fnd_some (List.mem_map_of_mem hm))
 | some y => rw [h y (fnd_mem e).1 m hm (fnd_mem e).2]
theorem jms_self {L : List M4} {G : List Int} {nx : Int} (h1 : L.Pairwise ug) (h2 : ∀ x ∈ L, ∀ y ∈ L, x.1 = y.1 → x = y) (h3 : ∀ x ∈ L, inl x.1 G = false) : jms L L G G nx nx (asl (L.map (·.1) ++ L.map (·.1))) = (L, nx) := by
 have hgm : ∀ m ∈ L, gm L L m.1 = m := fun m hm => by
  unfold gm
  rw [fnd_one h2 hm]
  show (m.1, jmu m.1 m.2.1 m.1 m.2.1, jml m.1 m.2.2.1 m.1 m.2.2.1, jmt m.1 m.2.2.2 m.1 m.2.2.2) = m
  unfold jmu jml jmt
  rw [if_pos rfl, if_pos rfl, if_pos rfl, jlw_self, mxs_self]
  split <;> rfl
 have hkp : ∀ m ∈ L, kep L L nx nx m.1 = true := fun m hm => by
  unfold kep hol kpu
  rw [fnd_one h2 hm]
  simp
 have hmem : ∀ g ∈ asl (L.map (·.1) ++ L.map (·.1)), ∃ m ∈ L, m.1 = g := fun g hg => by
  rcases List.mem_append.1 ((asl_mem _ g).1 hg) with k | k <;> exact List.mem_map.1 k
 have hall : ∀ m ∈ L, m.1 ∈ asl (L.map (·.1) ++ L.map (·.1)) := fun m hm => (asl_mem _ _).2 (List.mem_append_left _ (List.mem_map_of_mem hm))
 have hu := jms_ug L L G G nx nx (asl (L.map (·.1) ++ L.map (·.1))) ([], mx8 nx nx) (asl_asc _) (fun g hg => gids_have hg) List.Pairwise.nil (fun y hy => by cases hy)
 have key : ∀ (gs : List Int) (s : List M4 × Int), (∀ g ∈ gs, ∃ m ∈ L, m.1 = g) → (gs.foldl (jst L L G G nx nx) s).2 = s.2 ∧ ∀ y, y ∈ (gs.foldl (jst L L G G nx nx) s).1 ↔ y ∈ s.1 ∨ (y ∈ L ∧ y.1 ∈ gs) := by
  intro gs
  induction gs with
  | nil => intro s _; exact ⟨rfl, fun y => by simp⟩
  | cons g gs ih =>
   intro s hs
   obtain ⟨m, hm, rfl⟩ := hs g (by simp)
   rw [List.foldl_cons]
   have e : jst L L G G nx nx s m.1 = (ptm m s.1, s.2) := by
    unfold jst
    rw [h3 m hm, if_neg (by simp), if_pos (hkp m hm), hgm m hm]
   rw [e]
   have r := ih (ptm m s.1, s.2) (fun x hx => hs x (List.mem_cons_of_mem _ hx))
   refine ⟨r.1, fun y => ?_⟩
   rw [r.2 y, ptm_mem, List.mem_cons]
   constructor
   ·rintro ((k | k) | k)
    ·subst k; exact .inr ⟨hm, .inl rfl⟩
    ·exact .inl k
    ·exact .inr ⟨k.1, .inr k.2⟩
   ·rintro (k | ⟨k1, k2 | k2⟩)
    ·exact .inl (.inr k)
    ·exact .inl (.inl (h2 y k1 m hm k2))
    ·exact .inr ⟨k1, k2⟩
 have r := key (asl (L.map (·.1) ++ L.map (·.1))) ([], mx8 nx nx) hmem
 have e1 : (jms L L G G nx nx (asl (L.map (·.1) ++ L.map (·.1)))).1 = L := strict_same ug_asym hu.1 h1 (fun y => by
   rw [show (jms L L G G nx nx (asl (L.map (·.1) ++ L.map (·.1)))) = (asl (L.map (·.1) ++ L.map (·.1))).foldl (jst L L G G nx nx) ([], mx8 nx nx) from rfl, r.2 y]
   exact ⟨fun k => k.elim (fun k => by cases k) (fun k => k.1), fun k => .inr ⟨k, hall y k⟩⟩)
 have e2 : (jms L L G G nx nx (asl (L.map (·.1) ++ L.map (·.1)))).2 = nx := by
  rw [show (jms L L G G nx nx (asl (L.map (·.1) ++ L.map (·.1)))) = (asl (L.map (·.1) ++ L.map (·.1))).foldl (jst L L G G nx nx) ([], mx8 nx nx) from rfl, r.1]
  show mx8 nx nx = nx
  unfold mx8; split <;> rfl
 exact Prod.ext e1 e2
theorem jms_once (A B : List M4) (GA GB : List Int) (na nb : Int) : ∀ (gs : List Int) (s : List M4 × Int), gs.Pairwise (· < ·) → (∀ g ∈ gs, ¬ (fnd g A = none ∧ fnd g B = none)) → (∀ x ∈ s.1, ∀ y ∈ s.1, x.1 = y.1 → x = y) → (∀ y ∈ s.1, ∀ g ∈ gs, y.1 < g) →
  ∀ x ∈ (gs.foldl (jst A B GA GB na nb) s).1, ∀ y ∈ (gs.foldl (jst A B GA GB na nb) s).1, x.1 = y.1 → x = y
 | [], s, _, _, h3, _ => h3
 | g :: gs, s, h1, h2, h3, h4 => by
  have p1 := List.pairwise_cons.1 h1
  rw [List.foldl_cons]
  rcases jst_cases A B GA GB na nb s g with ⟨e, _⟩ | ⟨_, m, n, hm, _, e⟩
  ·rw [e]
   exact jms_once A B GA GB na nb gs s p1.2 (fun x hx => h2 x (List.mem_cons_of_mem _ hx)) h3 (fun y hy x hx => h4 y hy x (List.mem_cons_of_mem _ hx))
  ·rw [e]
   have hg : m.1 = g := hm.trans (gm_gid (h2 g (by simp)))
   refine jms_once A B GA GB na nb gs (ptm m s.1, n) p1.2 (fun x hx => h2 x (List.mem_cons_of_mem _ hx)) (fun x hx y hy exy => ?_) (fun y hy x hx => ?_)
   ·rcases (ptm_mem _ _ x).1 hx with ex | kx
    ·rcases (ptm_mem _ _ y).1 hy with ey | ky
     ·rw [ex, ey]
     ·have := h4 y ky g (by simp); rw [ex] at exy; omega
    ·rcases (ptm_mem _ _ y).1 hy with ey | ky
     ·have := h4 x kx g (by simp); rw [ey] at exy; omega
     ·exact h3 x kx y ky exy
   ·rcases (ptm_mem _ _ y).1 hy with rfl | hy
    ·rw [hg]; exact p1.1 x hx
    ·exact h4 y hy x (List.mem_cons_of_mem _ hx)
theorem jb_again (g nx : Int) (L : List M4) (G : List Int) (nx' : Int) (L' : List M4) (G' : List Int) :
  jbL g (jbX g nx L G g nx' L' G') (jbL g nx L G g nx' L' G') (jbG g G g G') g (jbX g nx L G g nx' L' G') (jbL g nx L G g nx' L' G') (jbG g G g G') = jbL g nx L G g nx' L' G' ∧
  jbX g (jbX g nx L G g nx' L' G') (jbL g nx L G g nx' L' G') (jbG g G g G') g (jbX g nx L G g nx' L' G') (jbL g nx L G g nx' L' G') (jbG g G g G') = jbX g nx L G g nx' L' G' ∧ jbG g (jbG g G g G') g (jbG g G g G') = jbG g G g G' := by
 have eL : jbL g nx L G g nx' L' G' = (jms L L' G G' nx nx' (asl (L.map (·.1) ++ L'.map (·.1)))).1 := if_pos rfl
 have eG : jbG g G g G' = asl (G ++ G') := if_pos rfl
 have hu := jms_ug L L' G G' nx nx' (asl (L.map (·.1) ++ L'.map (·.1))) ([], mx8 nx nx') (asl_asc _) (fun g hg => gids_have hg) List.Pairwise.nil (fun y hy => by cases hy)
 have ho := jms_once L L' G G' nx nx' (asl (L.map (·.1) ++ L'.map (·.1))) ([], mx8 nx nx') (asl_asc _) (fun g hg => gids_have hg) (fun x hx => by cases hx) (fun y hy => by cases hy)
 have hs := jms_self (L := jbL g nx L G g nx' L' G') (G := jbG g G g G') (nx := jbX g nx L G g nx' L' G') (by rw [eL]; exact hu.1) (by rw [eL]; exact ho) (fun x hx => by
   rw [eL] at hx
   rcases hu.2 x hx with k | k
   · cases k
   · rw [Bool.or_eq_false_iff] at k
     rw [eG, in_false]
     intro hx2
     rcases List.mem_append.1 ((asl_mem _ _).1 hx2) with e | e
     · exact (in_false _ _).1 k.2.1 e
     · exact (in_false _ _).1 k.2.2 e)
 refine ⟨?_, ?_, ?_⟩
 ·show (if g = g then _ else _) = _
  rw [if_pos rfl, hs]
 ·show (if g = g then _ else _) = _
  rw [if_pos rfl, hs]
 ·show (if g = g then _ else _) = _
  rw [if_pos rfl, eG]
  exact asc_same (asl_asc _) (asl_asc _) (fun y => by rw [asl_mem, List.mem_append, or_self])
end Go.Proofs.YtmpcmllfgogegaaGreat
