/- Names of boxes: whether one is right. -/
import Derived.Test.YtegdejhgamkkbaaMailJoinB
import Derived.Lib.ConvBytes
namespace Go.Proofs.Ytegdejhgamkkbaa
open Go.RowKit

def okc (c : UInt8) : Bool := (decide (97 ≤ c.toNat) && decide (c.toNat ≤ 122)) || (decide (48 ≤ c.toNat) && decide (c.toNat ≤ 57))
def nmOk (s : ByteArray) : Bool := s.data.toList.all okc && (decide (1 ≤ (s.size : Int)) && decide ((s.size : Int) ≤ 12))

theorem data_len (s : ByteArray) : s.data.toList.length = s.size := Array.length_toList
theorem data_take (s : ByteArray) (k : Nat) (h : k < s.size) : s.data.toList.take (k + 1) = s.data.toList.take k ++ [s[k]] := by
  rw [List.take_succ_eq_append_getElem (by rw [data_len]; exact h)]; rfl
theorem okc_take {s : ByteArray} {k : Nat} (h : k < s.size) (ha : (s.data.toList.take k).all okc = true) (hc : okc s[k] = true) : (s.data.toList.take (k + 1)).all okc = true := by
  rw [data_take s k h, List.all_append, ha, Bool.true_and]
  show (okc s[k] && true) = true
  rw [hc]; rfl
theorem nm_bad {s : ByteArray} {k : Nat} (h : k < s.size) (hc : okc s[k] = false) : nmOk s = false := by
  have : s.data.toList.all okc = false := by
    rw [List.all_eq_false]
    refine ⟨s[k], ?_, by simp [hc]⟩
    exact List.getElem_mem (l := s.data.toList) (n := k) (by rw [data_len]; exact h)
  rw [nmOk, this]; rfl
theorem nm_fin {s : ByteArray} {k : Nat} (h : ¬ k < s.size) (ha : (s.data.toList.take k).all okc = true) : nmOk s = (decide (1 ≤ (s.size : Int)) && decide ((s.size : Int) ≤ 12)) := by
  rw [List.take_of_length_le (by rw [data_len]; omega)] at ha
  rw [nmOk, ha]; rfl
theorem nm_len {s : ByteArray} (h : ¬ (1 ≤ (s.size : Int) ∧ (s.size : Int) ≤ 12)) : nmOk s = false := by
  have : (decide (1 ≤ (s.size : Int)) && decide ((s.size : Int) ≤ 12)) = false := by
    by_cases h1 : 1 ≤ (s.size : Int)
    · have h2 : ¬ (s.size : Int) ≤ 12 := fun x => h ⟨h1, x⟩
      simp [h2]
    · simp [h1]
  rw [nmOk, this, Bool.and_false]

/-- How a sign stands to the four bounds. -/
theorem okc_ways (b : UInt8) (c : Nat) (h : b.toNat = c) : (okc b = true ∧ 97 ≤ c ∧ c ≤ 122) ∨ (okc b = true ∧ 48 ≤ c ∧ c ≤ 57) ∨ (okc b = false ∧ c < 48) ∨ (okc b = false ∧ 57 < c ∧ c < 97) ∨ (okc b = false ∧ 122 < c) := by
  unfold okc
  rw [h]
  by_cases h1 : 97 ≤ c
  · by_cases h2 : c ≤ 122
    · exact .inl ⟨by simp [h1, h2], h1, h2⟩
    · refine .inr (.inr (.inr (.inr ⟨?_, by omega⟩)))
      have h3 : ¬ c ≤ 57 := by omega
      simp [h2, h3]
  · by_cases h2 : 48 ≤ c
    · by_cases h3 : c ≤ 57
      · exact .inr (.inl ⟨by simp [h2, h3], h2, h3⟩)
      · refine .inr (.inr (.inr (.inl ⟨by simp [h1, h3], by omega, by omega⟩)))
    · exact .inr (.inr (.inl ⟨by simp [h1, h2], by omega⟩))

end Go.Proofs.Ytegdejhgamkkbaa
