/- Copy6, CopyI, CopyJ, Bwith, in one text. -/
import Derived.Test.YtmpcmllfgogegaaItz
import Derived.Deep.Slices
namespace Go.Proofs.Ytmpcmllfgogegaa
open Go.RowKit Go.ChangeMaps

end Go.Proofs.Ytmpcmllfgogegaa

namespace Go.Proofs.Ytmpcmllfgogegaa
open Go.RowKit Go.ChangeMaps

/-- A row of mails as it lies, with the values of the flags. -/
theorem Ms.src {lo hh : Nat} {W : World} {ad : Addr} {L : List M4} (h : Ms lo hh W (some ad) L) : ∃ X : List Z5, X.map md = L ∧ (∀ x ∈ X, ∃ a c, x.2.2.1 = .slice a x.2.2.2.1.length c ∧ Rb lo hh W a x.2.2.2.1 ∧ (a = none → c = 0)) ∧ (∀ j u, (zc X)[j]? = some u → W.cell? (ad.add j) = some u) := by
  have hx : ∀ i, i < L.length → ∃ z : Z5, (∀ hi : i < L.length, md z = L[i]) ∧ (∃ a c, z.2.2.1 = .slice a z.2.2.2.1.length c ∧ Rb lo hh W a z.2.2.2.1 ∧ (a = none → c = 0)) ∧ (W.cell? (ad.add (i * 4)) = some (.int .i64 z.1) ∧ W.cell? (ad.add (i * 4 + 1)) = some (.int .i64 z.2.1) ∧ W.cell? (ad.add (i * 4 + 2)) = some z.2.2.1 ∧ W.cell? (ad.add (i * 4 + 3)) = some (.string z.2.2.2.2)) := by
    intro i hi
    obtain ⟨k, o, fa, fc, h1, _, _, h3, h4, h5⟩ := h.2 i hi
    simp only [Option.some.injEq] at h1
    subst h1
    refine ⟨(L[i].1, L[i].2.1, .slice fa L[i].2.2.1.length fc, L[i].2.2.1, L[i].2.2.2), fun _ => rfl, ⟨fa, fc, rfl, h4, h5⟩, ?_⟩
    simp only [addr_add]
    simpa only [Nat.add_assoc] using h3
  obtain ⟨r, hr⟩ := Go.Deep.choose_lt hx
  refine ⟨(List.range L.length).map r, ?_, ?_, ?_⟩
  · apply List.ext_getElem
    · simp
    · intro i h1 h2
      simp only [List.getElem_map, List.getElem_range]
      exact (hr i h2).1 h2
  · intro x hx
    obtain ⟨i, hi, rfl⟩ := List.mem_map.1 hx
    exact (hr i (List.mem_range.1 hi)).2.1
  · intro j u hu
    have hj : j < (zc ((List.range L.length).map r)).length := (List.getElem?_eq_some_iff.1 hu).1
    rw [zc_len] at hj
    have hi : j / 4 < ((List.range L.length).map r).length := by omega
    have hi' : j / 4 < L.length := by simpa using hi
    have e := zc_at _ (j / 4) hi
    simp only [List.getElem_map, List.getElem_range] at e
    obtain ⟨c0, c1, c2, c3⟩ := (hr (j / 4) hi').2.2
    have h4 : j % 4 = 0 ∨ j % 4 = 1 ∨ j % 4 = 2 ∨ j % 4 = 3 := by omega
    rcases h4 with h4 | h4 | h4 | h4
    · have ej : j = j / 4 * 4 := by omega
      rw [← ej] at e c0
      rw [c0, ← e.1, hu]
    · have ej : j = j / 4 * 4 + 1 := by omega
      rw [← ej] at e c1
      rw [c1, ← e.2.1, hu]
    · have ej : j = j / 4 * 4 + 2 := by omega
      rw [← ej] at e c2
      rw [c2, ← e.2.2.1, hu]
    · have ej : j = j / 4 * 4 + 3 := by omega
      rw [← ej] at e c3
      rw [c3, ← e.2.2.2, hu]

end Go.Proofs.Ytmpcmllfgogegaa

namespace Go.Proofs.Ytmpcmllfgogegaa
open Go.RowKit Go.ChangeMaps

theorem mid_set {P : List Z5} {x z : Z5} {C : List Z5} : (P ++ x :: C).set P.length z = P ++ z :: C := by
  rw [List.set_append_right _ _ (Nat.le_refl _)]; simp
theorem dropc {X : List Z5} {i : Nat} (h : i < X.length) : X.drop i = X[i] :: X.drop (i + 1) := List.drop_eq_getElem_cons h

end Go.Proofs.Ytmpcmllfgogegaa

namespace Go.Proofs.Ytmpcmllfgogegaa
open Go.RowKit Go.ChangeMaps

/-- In order, strictly, by Uids. -/
def Upr (L : List M4) : Prop := L.Pairwise fun x y => x.2.1 < y.2.1
theorem upr_eq : ∀ {l1 l2 : List M4}, Upr l1 → Upr l2 → l1.Perm l2 → l1 = l2
  | [], l2, _, _, hp => by rw [List.nil_perm.1 hp]
  | a :: l1, [], _, _, hp => by have := hp.length_eq; simp at this
  | a :: l1, b :: l2, h1, h2, hp => by
    obtain ⟨ha, h1'⟩ := List.pairwise_cons.1 h1
    obtain ⟨hb, h2'⟩ := List.pairwise_cons.1 h2
    have hab : a = b := by
      rcases List.mem_cons.1 (hp.mem_iff.1 (List.mem_cons_self)) with h | h
      · exact h
      · rcases List.mem_cons.1 (hp.mem_iff.2 (List.mem_cons_self)) with h' | h'
        · exact h'.symm
        · have k1 := ha b h'
          have k2 := hb a h
          omega
    subst hab
    rw [upr_eq h1' h2' (List.Perm.cons_inv hp)]
theorem srt_upr {Z : List Z5} (h : Srt Z Z.length) {L : List M4} (hp : (Z.map md).Perm L) (hL : Upr L) : Z.map md = L := by
  have hn : (L.map (fun m => m.2.1)).Nodup := by
    refine List.pairwise_map.2 (hL.imp ?_)
    intro x y hxy e
    omega
  have hn2 : ((Z.map md).map (fun m => m.2.1)).Nodup := (hp.map _).nodup_iff.2 hn
  refine upr_eq ?_ hL hp
  refine List.pairwise_iff_getElem.2 ?_
  intro i j hi hj hij
  simp only [List.length_map] at hi hj
  have h1 := h i j hij hj
  rw [uz_at hi, uz_at hj] at h1
  have h2 := List.pairwise_iff_getElem.1 hn2 i j (by simpa using hi) (by simpa using hj) hij
  simp only [List.getElem_map, md] at h2 ⊢
  omega

end Go.Proofs.Ytmpcmllfgogegaa

