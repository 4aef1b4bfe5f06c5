/- Flags as a number, bit by bit. -/
import Derived.Test.YtegdejhgamkkbaaFlagOk
import Derived.Laws.ShiftsVarLaws
namespace Go.Proofs.Ytegdejhgamkkbaa
open Go.RowKit

/-- A bit of a number. -/
def bit (n : Int) (i : Nat) : Int := n / 2 ^ i % 2

theorem and_nat (X i : Nat) : X &&& 2 ^ i = X / 2 ^ i % 2 * 2 ^ i := nat_bit i X

theorem and_bits (n : Int) (m : Nat) (hm : m < 100) : bits .and .i64 n (m : Int) = IntKind.i64.wrap (((n % 18446744073709551616).toNat &&& m : Nat) : Int) := by
  show IntKind.i64.wrap ((BitVec.ofInt 64 n &&& BitVec.ofInt 64 (m : Int)).toNat : Int) = _
  rw [BitVec.toNat_and, BitVec.toNat_ofInt, BitVec.toNat_ofInt]
  rw [show ((2 ^ 64 : Nat) : Int) = 18446744073709551616 by rfl, show ((m : Int) % 18446744073709551616).toNat = m by omega]

theorem and_one (n : Int) : bits .and .i64 n 1 = n % 2 := by
  have h := and_bits n 1 (by decide)
  rw [show (1 : Nat) = 2 ^ 0 by rfl, and_nat] at h
  simp only [Nat.pow_zero, Nat.div_one, Nat.mul_one] at h
  refine Eq.trans (by exact h) ?_
  rw [IntKind.wrap_i64]; omega
theorem and_two (n : Int) : bits .and .i64 n 2 = n / 2 % 2 * 2 := by
  have h := and_bits n 2 (by decide)
  rw [show (2 : Nat) = 2 ^ 1 by rfl, and_nat] at h
  simp only [Nat.pow_one] at h
  refine Eq.trans (by exact h) ?_
  rw [IntKind.wrap_i64]; omega
theorem and_four (n : Int) : bits .and .i64 n 4 = n / 4 % 2 * 4 := by
  have h := and_bits n 4 (by decide)
  rw [show (4 : Nat) = 2 ^ 2 by rfl, and_nat] at h
  refine Eq.trans (by exact h) ?_
  rw [IntKind.wrap_i64, show (2 : Nat) ^ 2 = 4 by rfl]; omega

theorem val_end (x y : Int) (h : x = y) : Ending.returned (.int .i64 x) = Ending.returned (.int .i64 y) := by rw [h]

/-- The number of a list's flags, of its first i. -/
def fof (l : List R3) : Nat → Nat
  | 0 => 0
  | i + 1 => fof l i + (if ((l[i]?.map (·.1)).getD 0) % 2 = 1 then 2 ^ i else 0)
theorem fof_lt (l : List R3) (i : Nat) : fof l i < 2 ^ i := by
  induction i with
  | zero => simp [fof]
  | succ i ih =>
    simp only [fof, Nat.pow_succ]
    split <;> omega
theorem fof_odd (l : List R3) (i : Nat) (h : i < l.length) (ho : l[i].1 % 2 = 1) : fof l (i + 1) = fof l i + 2 ^ i := by
  simp [fof, h, ho]
theorem fof_even (l : List R3) (i : Nat) (h : i < l.length) (ho : l[i].1 % 2 = 0) : fof l (i + 1) = fof l i := by
  simp [fof, h, ho]
theorem tmod2 (v : Int) (h : v % 2 = 1) : (v.tmod 2 != 0) = true := by
  have : v.tmod 2 ≠ 0 := by
    intro e; have := Int.dvd_of_tmod_eq_zero e; omega
  simpa using this
theorem tmod2' (v : Int) (h : v % 2 = 0) : (v.tmod 2 != 0) = false := by
  have : v.tmod 2 = 0 := Int.tmod_eq_zero_of_dvd (by omega)
  simpa using this

end Go.Proofs.Ytegdejhgamkkbaa
