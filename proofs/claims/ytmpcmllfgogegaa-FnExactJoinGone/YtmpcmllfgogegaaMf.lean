/- Mdraw, MdrawB, Name, in one text. -/
import Derived.Test.YtmpcmllfgogegaaMe
import Derived.Lib.ConvBytes
namespace Go.Proofs.Ytmpcmllfgogegaa
open Go.RowKit

theorem six_texts (w : World) (e : Nat) (a b c d f g : ByteArray) : ∀ i (h : i < [a, b, c, d, f, g].length), (w.alloc (.cells #[.string a, .string b, .string c, .string d, .string f, .string g] e)).cell? ⟨w.heap.size, i, none⟩ = some (.string [a, b, c, d, f, g][i]) := by
  intro i hi
  have h := heap_alloc_new w (.cells #[.string a, .string b, .string c, .string d, .string f, .string g] e)
  have h2 : i = 0 ∨ i = 1 ∨ i = 2 ∨ i = 3 ∨ i = 4 ∨ i = 5 := by simp at hi; omega
  rcases h2 with rfl | rfl | rfl | rfl | rfl | rfl
  · exact cell_of_row _ _ 0 _ _ _ h
  · exact cell_of_row _ _ 1 _ _ _ h
  · exact cell_of_row _ _ 2 _ _ _ h
  · exact cell_of_row _ _ 3 _ _ _ h
  · exact cell_of_row _ _ 4 _ _ _ h
  · exact cell_of_row _ _ 5 _ _ _ h

end Go.Proofs.Ytmpcmllfgogegaa

namespace Go.Proofs.Ytmpcmllfgogegaa
open Go.RowKit

theorem four_ints (w : World) (r : Nat) (h : r < 4) : ∃ z : Int, (w.alloc (.cells #[.int .i64 0, .int .i64 9999, .int .i64 10000, .int .i64 (-1)] 3)).cell? ⟨w.heap.size, r, none⟩ = some (.int .i64 z) := by
  have hh := heap_alloc_new w (.cells #[.int .i64 0, .int .i64 9999, .int .i64 10000, .int .i64 (-1)] 3)
  have h2 : r = 0 ∨ r = 1 ∨ r = 2 ∨ r = 3 := by omega
  rcases h2 with rfl | rfl | rfl | rfl
  · exact ⟨_, cell_of_row _ _ 0 _ _ _ hh⟩
  · exact ⟨_, cell_of_row _ _ 1 _ _ _ hh⟩
  · exact ⟨_, cell_of_row _ _ 2 _ _ _ hh⟩
  · exact ⟨_, cell_of_row _ _ 3 _ _ _ hh⟩
theorem three_ints_some (w : World) (r : Nat) (h : r < 3) : ∃ z : Int, (w.alloc (.cells #[.int .i64 0, .int .i64 9999, .int .i64 10000] 3)).cell? ⟨w.heap.size, r, none⟩ = some (.int .i64 z) := by
  have hh := heap_alloc_new w (.cells #[.int .i64 0, .int .i64 9999, .int .i64 10000] 3)
  have h2 : r = 0 ∨ r = 1 ∨ r = 2 := by omega
  rcases h2 with rfl | rfl | rfl
  · exact ⟨_, cell_of_row _ _ 0 _ _ _ hh⟩
  · exact ⟨_, cell_of_row _ _ 1 _ _ _ hh⟩
  · exact ⟨_, cell_of_row _ _ 2 _ _ _ hh⟩

theorem Dl.lower {W : World} {B B' : Nat} {v : Value} {l : List R3} (h : Dl W B v l) (hB : B' ≤ B) : Dl W B' v l := by
  obtain ⟨a, c, h1, h2, h3, h4, h5, h6⟩ := h
  exact ⟨a, c, h1, h2, h3, h4, h5, fun x e => Nat.le_trans hB (h6 x e)⟩

theorem Dl.far {W : World} {B k o n c : Nat} {u : Value} {a : Option Addr} {l : List R3} (h : Dl W B (.slice a n c) l) (hk : ∀ y, a = some y → y.block ≠ k) : Dl (W.setCell ⟨k, o, none⟩ u) B (.slice a n c) l := by
  obtain ⟨a', c', h1, h2, h3, h4, h5, h6⟩ := h
  simp only [Value.slice.injEq] at h1
  obtain ⟨rfl, rfl, rfl⟩ := h1
  exact ⟨a, c, rfl, h2, h3, h4, h5.grown (only_set (cb := k)) hk, h6⟩

theorem tmod4 (x : Nat) : (x : Int).tmod 4 = 0 ∨ (x : Int).tmod 4 = 1 ∨ (x : Int).tmod 4 = 2 ∨ (x : Int).tmod 4 = 3 := by rw [Int.tmod_eq_emod_of_nonneg (by omega)]; omega
theorem tmod3 (x : Nat) : (x : Int).tmod 3 = 0 ∨ (x : Int).tmod 3 = 1 ∨ (x : Int).tmod 3 = 2 := by rw [Int.tmod_eq_emod_of_nonneg (by omega)]; omega
theorem tmodTwo (x : Nat) : ∃ r : Nat, (x : Int).tmod 2 = (r : Int) ∧ r < 2 := ⟨x % 2, by rw [Int.tmod_eq_emod_of_nonneg (by omega)]; omega, by omega⟩

end Go.Proofs.Ytmpcmllfgogegaa

namespace Go.Proofs.Ytmpcmllfgogegaa
open Go.RowKit

def okc (c : UInt8) : Bool := (decide (97 ≤ c.toNat) && decide (c.toNat ≤ 122)) || (decide (48 ≤ c.toNat) && decide (c.toNat ≤ 57))
def nmOk (s : ByteArray) : Bool := s.data.toList.all okc && (decide (1 ≤ (s.size : Int)) && decide ((s.size : Int) ≤ 12))

theorem data_len (s : ByteArray) : s.data.toList.length = s.size := Array.length_toList
theorem data_take (s : ByteArray) (k : Nat) (h : k < s.size) : s.data.toList.take (k + 1) = s.data.toList.take k ++ [s[k]] := by
  rw [List.take_succ_eq_append_getElem (by rw [data_len]; exact h)]; rfl
theorem okc_take {s : ByteArray} {k : Nat} (h : k < s.size) (ha : (s.data.toList.take k).all okc = true) (hc : okc s[k] = true) : (s.data.toList.take (k + 1)).all okc = true := by
  rw [data_take s k h, List.all_append, ha, Bool.true_and]
  show (okc s[k] && true) = true
  rw [hc]; rfl
theorem nm_bad {s : ByteArray} {k : Nat} (h : k < s.size) (hc : okc s[k] = false) : nmOk s = false := by
  have : s.data.toList.all okc = false := by
    rw [List.all_eq_false]
    refine ⟨s[k], ?_, by simp [hc]⟩
    exact List.getElem_mem (l := s.data.toList) (n := k) (by rw [data_len]; exact h)
  rw [nmOk, this]; rfl
theorem nm_fin {s : ByteArray} {k : Nat} (h : ¬ k < s.size) (ha : (s.data.toList.take k).all okc = true) : nmOk s = (decide (1 ≤ (s.size : Int)) && decide ((s.size : Int) ≤ 12)) := by
  rw [List.take_of_length_le (by rw [data_len]; omega)] at ha
  rw [nmOk, ha]; rfl
theorem nm_len {s : ByteArray} (h : ¬ (1 ≤ (s.size : Int) ∧ (s.size : Int) ≤ 12)) : nmOk s = false := by
  have : (decide (1 ≤ (s.size : Int)) && decide ((s.size : Int) ≤ 12)) = false := by
    by_cases h1 : 1 ≤ (s.size : Int)
    · have h2 : ¬ (s.size : Int) ≤ 12 := fun x => h ⟨h1, x⟩
      simp [h2]
    · simp [h1]
  rw [nmOk, this, Bool.and_false]

/-- How a sign stands to the four bounds. -/
theorem okc_ways (b : UInt8) (c : Nat) (h : b.toNat = c) : (okc b = true ∧ 97 ≤ c ∧ c ≤ 122) ∨ (okc b = true ∧ 48 ≤ c ∧ c ≤ 57) ∨ (okc b = false ∧ c < 48) ∨ (okc b = false ∧ 57 < c ∧ c < 97) ∨ (okc b = false ∧ 122 < c) := by
  unfold okc
  rw [h]
  by_cases h1 : 97 ≤ c
  · by_cases h2 : c ≤ 122
    · exact .inl ⟨by simp [h1, h2], h1, h2⟩
    · refine .inr (.inr (.inr (.inr ⟨?_, by omega⟩)))
      have h3 : ¬ c ≤ 57 := by omega
      simp [h2, h3]
  · by_cases h2 : 48 ≤ c
    · by_cases h3 : c ≤ 57
      · exact .inr (.inl ⟨by simp [h2, h3], h2, h3⟩)
      · refine .inr (.inr (.inr (.inl ⟨by simp [h1, h3], by omega, by omega⟩)))
    · exact .inr (.inr (.inl ⟨by simp [h1, h2], by omega⟩))

end Go.Proofs.Ytmpcmllfgogegaa

