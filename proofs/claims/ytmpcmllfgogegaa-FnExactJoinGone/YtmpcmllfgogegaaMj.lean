/- AddP, AddS, AddI, in one text. -/
import Derived.Test.YtmpcmllfgogegaaCpz
namespace Go.Proofs.Ytmpcmllfgogegaa
open Go.RowKit Go.ChangeMaps

theorem alr_at {nx : Int} {G : List Int} {L : List M4} (h : alr nx G L = true) {i : Nat} (hi : i < L.length) : L[i].2.1 < nx ∧ us L i < L[i].2.1 ∧ inl L[i].1 G = false := by
  unfold alr at h
  have h1 := List.all_eq_true.1 h i (List.mem_range.2 hi)
  rw [stp_at hi (g := L[i].1) (u := L[i].2.1) (l := L[i].2.2.1) (t := L[i].2.2.2) rfl] at h1
  simp only [Bool.and_eq_true, decide_eq_true_eq, Bool.not_eq_true'] at h1
  exact ⟨h1.2.1, h1.2.2.1, h1.2.2.2⟩
theorem alr_asc {nx : Int} {G : List Int} {L : List M4} (h : alr nx G L = true) : ∀ (j i : Nat) (hj : j < L.length) (hij : i < j), L[i].2.1 < L[j].2.1 := by
  intro j
  induction j with
  | zero => intro i hj hij; omega
  | succ j ih =>
    intro i hj hij
    have h1 := (alr_at h hj).2.1
    rw [us_succ (by omega)] at h1
    by_cases e : i = j
    · subst e; exact h1
    · have := ih i (by omega) (by omega)
      omega
theorem alr_upr {nx : Int} {G : List Int} {L : List M4} (h : alr nx G L = true) : Upr L :=
  List.pairwise_iff_getElem.2 fun i j _ hj hij => alr_asc h j i hj hij
theorem upr_snoc {nx : Int} {G : List Int} {L : List M4} (h : alr nx G L = true) (m : M4) (hm : m.2.1 = nx) : Upr (L ++ [m]) := by
  unfold Upr
  rw [List.pairwise_append]
  refine ⟨alr_upr h, by simp, ?_⟩
  intro x hx y hy
  simp at hy
  subst hy
  obtain ⟨i, hi, rfl⟩ := List.getElem_of_mem hx
  rw [hm]
  exact (alr_at h hi).1
/-- What a right box is good for. -/
theorem bx_parts {g : Int} {nm : ByteArray} {t b nx : Int} {L : List M4} {G : List Int} (h : bxOk g nm t b nx L G = true) : L.length ≤ 10 ∧ (1 ≤ nx ∧ nx ≤ 10000) ∧ alr nx G L = true ∧ uq L = true ∧ G.length ≤ 40 ∧ asc 0 G = true := by
  simp only [bxOk, Bool.and_eq_true, decide_eq_true_eq, bxm, gnOk] at h
  obtain ⟨_, _, _, ⟨h1, h2⟩, h3, ⟨h5, h6⟩, h4⟩ := h
  exact ⟨by omega, ⟨h1, h2⟩, h4.1, h4.2, by omega, h5⟩
theorem bx_gone {g : Int} {nm : ByteArray} {t b nx : Int} {L : List M4} {G : List Int} {m : M4} (h : inl m.1 G = true) : bxOk g nm t b nx (L ++ [m]) G = false := by
  have h1 : bxm nx G (L ++ [m]) = false := bxm_bad (i := L.length) (by simp) (by
    rw [stp_at (by simp) (g := m.1) (u := m.2.1) (l := m.2.2.1) (t := m.2.2.2) (by simp), h]
    simp)
  unfold bxOk
  rw [h1]
  simp
theorem mat_any (x : Int) (L : List M4) (k : Nat) : decide (0 ≤ mat x L k) = L.any (fun m => decide (m.1 = x)) := by
  induction L generalizing k with
  | nil => simp [mat]
  | cons m L ih =>
    by_cases h : m.1 = x
    · simp only [mat, h, if_true, List.any_cons, decide_true, Bool.true_or]
      simp
    · simp only [mat, h, if_false, List.any_cons, decide_false, Bool.false_or]
      exact ih _
theorem any_mde (x : Int) (E : List En) {L : List M4} (h : E.map mde = L) : E.any (fun e => decide (e.1.1 = x)) = L.any (fun m => decide (m.1 = x)) := by
  rw [← h, List.any_map]; rfl

/-- The new mail. -/
def nwm (gid nx fl : Int) (tx : ByteArray) (st sb : Int) : M4 := (gid, nx, fnew fl st sb, tx)
def flr (fl : Int) : Bool := decide (0 ≤ fl) && decide (fl ≤ 7)
/-- Whether a mail can be added. -/
def amOk (g : Int) (nm : ByteArray) (t b nx : Int) (L : List M4) (G : List Int) (gid fl : Int) (tx : ByteArray) (st sb : Int) : Bool :=
  bxOk g nm t b nx L G && (!(L.any (fun m => decide (m.1 = gid))) && (!(inl gid G) && (flr fl && bxOk g nm t b (nx + 1) (L ++ [nwm gid nx fl tx st sb]) G)))
def amL (p : Bool) (L : List M4) (m : M4) : List M4 := if p = true then L ++ [m] else L
def amN (p : Bool) (nx : Int) : Int := if p = true then nx + 1 else nx
theorem sm_snoc {L : List M4} (h : Sm L) {gid nx fl : Int} {tx : ByteArray} {st sb : Int} (ht : tx.size ≤ 1048576) : Sm (L ++ [nwm gid nx fl tx st sb]) := by
  intro m hm
  rcases List.mem_append.1 hm with hm | hm
  · exact h m hm
  · simp at hm
    subst hm
    exact ⟨by simp [nwm, fnew], ht⟩
theorem shl_nil_add {L : List M4} {m : M4} (hm : L.any (fun x => decide (x.1 = m.1)) = false) : pt L m = L ++ [m] :=
  pt_new (fun x hx e => by
    have := List.any_eq_false.1 hm x hx
    simp [e] at this)
end Go.Proofs.Ytmpcmllfgogegaa

namespace Go.Proofs.Ytmpcmllfgogegaa
open Go.RowKit Go.ChangeMaps

end Go.Proofs.Ytmpcmllfgogegaa

namespace Go.Proofs.Ytmpcmllfgogegaa
open Go.RowKit Go.ChangeMaps

end Go.Proofs.Ytmpcmllfgogegaa

