/- The walks of the two functions that read a short text, and of the law over them. -/
import Derived.Test.YtldcmfkmnjdfiaaShort
import Derived.Test.YtldcmfkmnjdfiaaReadA
import Derived.Test.YtldcmfkmnjdfiaaReadB
namespace Go.Proofs.Ytldcmfkmnjdfiaa
open Go.RowKit

theorem rv_some : ∀ (f : Nat) (l : List UInt8) (k n m d : Nat), rv f l k n = some (m, d) → m ≤ 1000000000 ∧ d ≤ k + l.length
  | 0, _, _, _, _, _, h => by simp [rv] at h
  | _ + 1, [], _, _, _, _, h => by simp [rv] at h
  | f + 1, c :: l, k, n, m, d, h => by
    by_cases hc : c.toNat < 128
    · by_cases h2 : 1000000000 < n + c.toNat % 128 * 128 ^ k ∨ (c.toNat = 0 ∧ 0 < k)
      · rw [rv_bad f k n c l hc h2] at h; simp at h
      · rw [rv_good f k n c l hc h2] at h
        simp only [Option.some.injEq, Prod.mk.injEq] at h
        obtain ⟨rfl, rfl⟩ := h
        simp only [List.length_cons]
        omega
    · rw [rv_more f k n c l hc] at h
      have := rv_some f l _ _ m d h
      simp only [List.length_cons]
      omega

/-- The place behind, and whether a text of n bytes lies there. -/
theorem rv_place {s : ByteArray} {k n d : Nat} (hk : k ≤ s.size) (h : rv 5 (s.data.toList.drop k) 0 0 = some (n, d)) : n ≤ 1000000000 ∧ k + d ≤ s.size := by
  have := rv_some _ _ _ _ _ _ h
  rw [List.length_drop, len_list] at this
  omega

theorem specRShort_no (s : ByteArray) (k : Int) (w : World) (hs : s.size ≤ 1048576)
    (h : (k < 0 ∨ s.size < k) ∨ (0 ≤ k ∧ k ≤ s.size ∧ rv 5 (s.data.toList.drop k.toNat) 0 0 = none)) :
    Calls Try.prog 61 #[.string s, .int .i64 k] w fun e w' => e = .returned (.tuple #[.string ⟨#[]⟩, .int .i64 0, .bool false]) ∧ Below w.heap.size w w' := by
  rcases h with h | ⟨h0, h1, h2⟩
  · go_enter Try.func61, Try.ntmps61
    go_wp2_with fail
    refine (specRead_no s k _ hs h).mono ?_; rintro e w1 ⟨rfl, rfl⟩
    go_wp2
    go_ret3
    exact ⟨rfl, Below.refl _ _⟩
  · obtain ⟨a, rfl⟩ : ∃ a : Nat, k = a := ⟨k.toNat, by omega⟩
    have HR : Hid (rv 5 (s.data.toList.drop a) 0 0 = none) := h2
    clear h2
    go_enter Try.func61, Try.ntmps61
    go_wp2_with fail
    refine (specRead_any s a _ hs (by omega)).mono ?_; rintro e w1 ⟨he, hb1⟩
    rw [HR.out] at he
    obtain rfl : e = .returned (.tuple #[.int .i64 0, .int .i64 0, .bool false]) := he
    go_wp2
    go_ret3
    exact ⟨rfl, hb1⟩

theorem implRShort_no (s : ByteArray) (k : Int) (w : World) (hs : s.size ≤ 1048576)
    (h : (k < 0 ∨ s.size < k) ∨ (0 ≤ k ∧ k ≤ s.size ∧ rv 5 (s.data.toList.drop k.toNat) 0 0 = none)) :
    Calls Try.prog 76 #[.string s, .int .i64 k] w fun e w' => e = .returned (.tuple #[.string ⟨#[]⟩, .int .i64 0, .bool false]) ∧ Below w.heap.size w w' := by
  rcases h with h | ⟨h0, h1, h2⟩
  · go_enter Try.func76, Try.ntmps76
    go_wp2_with fail
    refine (implRead_no s k _ h).mono ?_; rintro e w1 ⟨rfl, rfl⟩
    go_wp2
    go_ret3
    exact ⟨rfl, Below.refl _ _⟩
  · obtain ⟨a, rfl⟩ : ∃ a : Nat, k = a := ⟨k.toNat, by omega⟩
    have HR : Hid (rv 5 (s.data.toList.drop a) 0 0 = none) := h2
    clear h2
    go_enter Try.func76, Try.ntmps76
    go_wp2_with fail
    refine (implRead_any s a _ hs (by omega)).mono ?_; rintro e w1 ⟨he, hb1⟩
    rw [HR.out] at he
    obtain rfl : e = .returned (.tuple #[.int .i64 0, .int .i64 0, .bool false]) := he
    go_wp2
    go_ret3
    exact ⟨rfl, hb1⟩

theorem specRShort_bad (s : ByteArray) (a n d : Nat) (w : World) (hs : s.size ≤ 1048576) (ha : a ≤ s.size) (hr : rv 5 (s.data.toList.drop a) 0 0 = some (n, d)) (hbad : 20000 < n ∨ s.size < a + d + n) :
    Calls Try.prog 61 #[.string s, .int .i64 a] w fun e w' => e = .returned (.tuple #[.string ⟨#[]⟩, .int .i64 0, .bool false]) ∧ Below w.heap.size w w' := by
  have hp := rv_place ha hr
  have HR : Hid (rv 5 (s.data.toList.drop a) 0 0 = some (n, d)) := hr
  clear hr
  by_cases h2 : 20000 < n
  · clear hbad
    go_enter Try.func61, Try.ntmps61
    go_wp2_with fail
    refine (specRead_any s a _ hs ha).mono ?_; rintro e w1 ⟨he, hb1⟩
    rw [HR.out] at he
    obtain rfl : e = .returned (.tuple #[.int .i64 n, .int .i64 (a + d : Nat), .bool true]) := he
    go_wp2
    go_ret3
    exact ⟨rfl, hb1⟩
  · have h3 : s.size < a + d + n := by omega
    clear hbad
    go_enter Try.func61, Try.ntmps61
    go_wp2_with fail
    refine (specRead_any s a _ hs ha).mono ?_; rintro e w1 ⟨he, hb1⟩
    rw [HR.out] at he
    obtain rfl : e = .returned (.tuple #[.int .i64 n, .int .i64 (a + d : Nat), .bool true]) := he
    go_wp2
    go_ret3
    exact ⟨rfl, hb1⟩

theorem implRShort_bad (s : ByteArray) (a n d : Nat) (w : World) (hs : s.size ≤ 1048576) (ha : a ≤ s.size) (hr : rv 5 (s.data.toList.drop a) 0 0 = some (n, d)) (hbad : 20000 < n ∨ s.size < a + d + n) :
    Calls Try.prog 76 #[.string s, .int .i64 a] w fun e w' => e = .returned (.tuple #[.string ⟨#[]⟩, .int .i64 0, .bool false]) ∧ Below w.heap.size w w' := by
  have hp := rv_place ha hr
  have HR : Hid (rv 5 (s.data.toList.drop a) 0 0 = some (n, d)) := hr
  clear hr
  by_cases h2 : 20000 < n
  · clear hbad
    go_enter Try.func76, Try.ntmps76
    go_wp2_with fail
    refine (implRead_any s a _ hs ha).mono ?_; rintro e w1 ⟨he, hb1⟩
    rw [HR.out] at he
    obtain rfl : e = .returned (.tuple #[.int .i64 n, .int .i64 (a + d : Nat), .bool true]) := he
    go_wp2
    go_ret3
    exact ⟨rfl, hb1⟩
  · have h3 : s.size < a + d + n := by omega
    clear hbad
    go_enter Try.func76, Try.ntmps76
    go_wp2_with fail
    refine (implRead_any s a _ hs ha).mono ?_; rintro e w1 ⟨he, hb1⟩
    rw [HR.out] at he
    obtain rfl : e = .returned (.tuple #[.int .i64 n, .int .i64 (a + d : Nat), .bool true]) := he
    go_wp2
    go_ret3
    exact ⟨rfl, hb1⟩

theorem specRShort_yes (s : ByteArray) (a n d : Nat) (w : World) (hs : s.size ≤ 1048576) (ha : a ≤ s.size) (hr : rv 5 (s.data.toList.drop a) 0 0 = some (n, d)) (h2 : n ≤ 20000) (h3 : a + d + n ≤ s.size) :
    Calls Try.prog 61 #[.string s, .int .i64 a] w fun e w' => e = .returned (.tuple #[.string (s.extract (a + d) (a + d + n)), .int .i64 (a + d + n : Nat), .bool true]) ∧ Below w.heap.size w w' := by
  have HR : Hid (rv 5 (s.data.toList.drop a) 0 0 = some (n, d)) := hr
  clear hr
  go_enter Try.func61, Try.ntmps61
  go_wp2_with fail
  refine (specRead_any s a _ hs ha).mono ?_; rintro e w1 ⟨he, hb1⟩
  rw [HR.out] at he
  obtain rfl : e = .returned (.tuple #[.int .i64 n, .int .i64 (a + d : Nat), .bool true]) := he
  go_wp2
  go_ret3
  exact ⟨rfl, hb1⟩

theorem implRShort_yes (s : ByteArray) (a n d : Nat) (w : World) (hs : s.size ≤ 1048576) (ha : a ≤ s.size) (hr : rv 5 (s.data.toList.drop a) 0 0 = some (n, d)) (h2 : n ≤ 20000) (h3 : a + d + n ≤ s.size) :
    Calls Try.prog 76 #[.string s, .int .i64 a] w fun e w' => e = .returned (.tuple #[.string (s.extract (a + d) (a + d + n)), .int .i64 (a + d + n : Nat), .bool true]) ∧ Below w.heap.size w w' := by
  have HR : Hid (rv 5 (s.data.toList.drop a) 0 0 = some (n, d)) := hr
  have hsz : (s.extract (a + d) (a + d + n)).size ≤ 1048576 := by rw [ByteArray.size_extract]; omega
  clear hr
  go_enter Try.func76, Try.ntmps76
  go_wp2_with fail
  refine (implRead_any s a _ hs ha).mono ?_; rintro e w1 ⟨he, hb1⟩
  rw [HR.out] at he
  obtain rfl : e = .returned (.tuple #[.int .i64 n, .int .i64 (a + d : Nat), .bool true]) := he
  go_wp2_with fail
  refine (clone_any _ _ hsz).mono ?_; rintro e w2 ⟨rfl, hb2⟩
  go_wp2
  go_ret3
  exact ⟨rfl, hb1.trans (hb2.mono hb1.size)⟩

end Go.Proofs.Ytldcmfkmnjdfiaa
