/- The walk of the law of a mail that is read. -/
import Derived.Test.YtjnpohbljjlicabMailWh
import Derived.Test.YtjnpohbljjlicabMailMk
namespace Go.Proofs.Ytjnpohbljjlicab
open Go.RowKit

theorem regs_len : ∀ (r : List Int), (regs r).length * 3 ≤ r.length
  | [] => by simp [regs]
  | [_] => by simp [regs]
  | [_, _] => by simp [regs]
  | _ :: _ :: _ :: r => by have := regs_len r; simp only [regs, List.length_cons]; omega
theorem rds_length {s : ByteArray} {a : Int} : ∀ (k : Nat) {r : List Int} {b : Int}, rds s a k = some (r, b) → r.length = k
  | 0, r, b, h => by simp only [rds, Option.some.injEq, Prod.mk.injEq] at h; rw [← h.1]; rfl
  | k + 1, r, b, h => by
    rw [rds] at h
    cases h1 : rds s a k with
    | none => rw [h1] at h; cases h
    | some p =>
      rw [h1] at h; simp only [Option.bind_some] at h
      cases h2 : rd s p.2 with
      | none => rw [h2] at h; cases h
      | some q =>
        rw [h2] at h
        simp only [Option.map_some, Option.some.injEq, Prod.mk.injEq] at h
        rw [← h.1, List.length_append, rds_length k h1]; rfl
theorem rm6_len {s : ByteArray} {a g u : Int} {l : List R3} {t : ByteArray} {c : Int} {q : Bool} (h : rm6 s a = (g, u, l, t, c, q)) : l.length ≤ 3 := by
  unfold rm6 at h
  split at h
  · next g' u' r b hr =>
    have hl := rds_length 11 hr
    split at h
    · split at h
      · simp only [Prod.mk.injEq] at h
        rw [← h.2.2.1]
        have := regs_len r
        simp only [List.length_cons] at hl
        omega
      · simp only [zero6, Prod.mk.injEq] at h; rw [← h.2.2.1]; simp
    · simp only [zero6, Prod.mk.injEq] at h; rw [← h.2.2.1]; simp
  · simp only [zero6, Prod.mk.injEq] at h; rw [← h.2.2.1]; simp

theorem rm_known {s : ByteArray} {a g u : Int} {l : List R3} {t : ByteArray} {c : Int} {q : Bool} (hr : rm6 s a = (g, u, l, t, c, q)) {w : World} {e : Ending} {w' : World} (h : RmPost s a w e w') :
    ∃ av cv, e = .returned (.tuple #[.agg #[.int .i64 g, .int .i64 u, .slice av l.length cv, .string t], .int .i64 c, .bool q]) ∧ Ow w' w.heap.size (.slice av l.length cv) l ∧ Below w.heap.size w w' := by
  obtain ⟨g', u', l', t', c', q', v, h1, h2, h3, h4⟩ := h
  rw [hr] at h1
  simp only [Prod.mk.injEq] at h1
  obtain ⟨rfl, rfl, rfl, rfl, rfl, rfl⟩ := h1
  obtain ⟨av, cv, hv, _⟩ := Ow.shape h3
  subst hv
  exact ⟨av, cv, h2, h3, h4⟩

end Go.Proofs.Ytjnpohbljjlicab
