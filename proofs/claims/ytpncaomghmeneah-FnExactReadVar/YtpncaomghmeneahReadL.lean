/- The walk of the law over the two functions that read a number in sevens. -/
import Derived.Test.YtpncaomghmeneahReadA
import Derived.Test.YtpncaomghmeneahReadB
namespace Go.Proofs.Ytpncaomghmeneah
open Go.RowKit

theorem lawRead_any (s : ByteArray) (a : Int) (w : World) (hm : s.size ≤ maxLen) :
    Calls Try.prog 4 #[.string s, .int .i64 a] w fun e w' => e = .returned (.bool true) ∧ Below w.heap.size w w' := by
  unfold maxLen at hm
  by_cases hs : s.size ≤ 1048576
  · by_cases h : a < 0 ∨ s.size < a
    · go_enter Try.func4, Try.ntmps4
      go_wp2_with fail
      refine (specRead_no s a _ hs h).mono ?_; rintro e w' ⟨rfl, rfl⟩
      go_wp2_with fail
      refine (implRead_no s a _ h).mono ?_; rintro e w' ⟨rfl, rfl⟩
      go_wp2
      go_ret
      exact ⟨rfl, Below.refl _ _⟩
    · obtain ⟨k, rfl⟩ : ∃ k : Nat, a = k := ⟨a.toNat, by omega⟩
      have ha : k ≤ s.size := by omega
      clear h
      cases hr : rv 5 (s.data.toList.drop k) 0 0 with
      | none =>
        have HR : Hid (rv 5 (s.data.toList.drop k) 0 0 = none) := hr
        clear hr
        go_enter Try.func4, Try.ntmps4
        go_wp2_with fail
        refine (specRead_any s k _ hs ha).mono ?_; rintro e w1 ⟨he, hb1⟩
        rw [HR.out] at he
        obtain rfl : e = .returned (.tuple #[.int .i64 0, .int .i64 0, .bool false]) := he
        go_wp2_with fail
        refine (implRead_any s k _ hs ha).mono ?_; rintro e w2 ⟨he, hb2⟩
        rw [HR.out] at he
        obtain rfl : e = .returned (.tuple #[.int .i64 0, .int .i64 0, .bool false]) := he
        go_wp2
        go_ret
        exact ⟨rfl, hb1.trans (hb2.mono hb1.size)⟩
      | some x =>
        obtain ⟨n, d⟩ := x
        have HR : Hid (rv 5 (s.data.toList.drop k) 0 0 = some (n, d)) := hr
        clear hr
        go_enter Try.func4, Try.ntmps4
        go_wp2_with fail
        refine (specRead_any s k _ hs ha).mono ?_; rintro e w1 ⟨he, hb1⟩
        rw [HR.out] at he
        obtain rfl : e = .returned (.tuple #[.int .i64 n, .int .i64 (k + d : Nat), .bool true]) := he
        go_wp2_with fail
        refine (implRead_any s k _ hs ha).mono ?_; rintro e w2 ⟨he, hb2⟩
        rw [HR.out] at he
        obtain rfl : e = .returned (.tuple #[.int .i64 n, .int .i64 (k + d : Nat), .bool true]) := he
        go_wp2
        go_ret
        exact ⟨rfl, hb1.trans (hb2.mono hb1.size)⟩
  · go_enter Try.func4, Try.ntmps4
    go_wp2
    go_ret
    exact ⟨rfl, Below.refl _ _⟩
end Go.Proofs.Ytpncaomghmeneah
