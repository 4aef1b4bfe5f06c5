/- Mails held against each other. -/
import Derived.Test.YtegdejhgamkkbaaMailTo
namespace Go.Proofs.Ytegdejhgamkkbaa
open Go.RowKit

theorem take_grow {l m : List R3} {i : Nat} (hl : i < l.length) (hm : i < m.length) (h : l.take i = m.take i) (e : l[i] = m[i]) : l.take (i + 1) = m.take (i + 1) := by
  rw [List.take_succ_eq_append_getElem hl, List.take_succ_eq_append_getElem hm, h, e]
theorem ne_at {l m : List R3} {i : Nat} (hl : i < l.length) (hm : i < m.length) (e : ¬ l[i] = m[i]) : decide (l = m) = false := by
  apply decide_eq_false; rintro rfl; exact e rfl

theorem ne_three {v t b v' t' b' : Int} (h : ¬ ((v, t, b) : R3) = (v', t', b')) : (v == v') = false ∨ (v = v' ∧ (t == t') = false) ∨ (v = v' ∧ t = t' ∧ (b == b') = false) := by
  by_cases h1 : v = v'
  · by_cases h2 : t = t'
    · by_cases h3 : b = b'
      · exact absurd (by rw [h1, h2, h3]) h
      · exact Or.inr (Or.inr ⟨h1, h2, beq_eq_false_iff_ne.2 h3⟩)
    · exact Or.inr (Or.inl ⟨h1, beq_eq_false_iff_ne.2 h2⟩)
  · exact Or.inl (beq_eq_false_iff_ne.2 h1)
theorem bdn {a w : World} (h : Below a.heap.size a w) (k : Nat) : Below a.heap.size a (w.drewN k) := ⟨h.os, h.tape, h.output, h.size, h.block⟩

def smail (g u : Int) (l : List R3) (t : ByteArray) (g' u' : Int) (m : List R3) (t' : ByteArray) : Bool := decide (g = g') && decide (u = u') && decide (l = m) && decide (t = t')

theorem bytes_inj {t t' : ByteArray} (h : t.toList = t'.toList) : t = t' := by
  rw [ByteArray.toList_eq, ByteArray.toList_eq] at h
  cases t; cases t'; simp only [ByteArray.mk.injEq]; exact Array.toList_inj.1 h
theorem bytes_ne {t t' : ByteArray} (h : ¬ t = t') : (t.toList == t'.toList) = false := beq_eq_false_iff_ne.2 fun e => h (bytes_inj e)

end Go.Proofs.Ytegdejhgamkkbaa
