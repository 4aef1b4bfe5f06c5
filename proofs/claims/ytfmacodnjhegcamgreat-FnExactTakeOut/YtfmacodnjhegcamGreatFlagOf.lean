/- Flags as a number, bit by bit. -/
import Derived.Test.YtfmacodnjhegcamGreatFlagOk
import Derived.Laws.ShiftsVarLaws
namespace Go.Proofs.YtfmacodnjhegcamGreat
open Go.RowKit

/-- A bit of a number. -/
def bit (n : Int) (i : Nat) : Int := n / 2 ^ i % 2

theorem and_nat (X i : Nat) : X &&& 2 ^ i = X / 2 ^ i % 2 * 2 ^ i := nat_bit i X

theorem and_bits (n : Int) (m : Nat) (hm : m < 100) : bits .and .i64 n (m : Int) = IntKind.i64.wrap (((n % 18446744073709551616).toNat &&& m : Nat) : Int) := by
  show IntKind.i64.wrap ((BitVec.ofInt 64 n &&& BitVec.ofInt 64 (m : Int)).toNat : Int) = _
  rw [BitVec.toNat_and, BitVec.toNat_ofInt, BitVec.toNat_ofInt]
  rw [show ((2 ^ 64 : Nat) : Int) = 18446744073709551616 by rfl, show ((m : Int) % 18446744073709551616).toNat = m by omega]

theorem and_one (n : Int) : bits .and .i64 n 1 = n % 2 := by
  have h := and_bits n 1 (by decide)
  rw [show (1 : Nat) = 2 ^ 0 by rfl, and_nat] at h
  simp only [Nat.pow_zero, Nat.div_one, Nat.mul_one] at h
  refine Eq.trans (by exact h) ?_
  rw [IntKind.wrap_i64]; omega
theorem and_two (n : Int) : bits .and .i64 n 2 = n / 2 % 2 * 2 := by
  have h := and_bits n 2 (by decide)
  rw [show (2 : Nat) = 2 ^ 1 by rfl, and_nat] at h
  simp only [Nat.pow_one] at h
  refine Eq.trans (by exact h) ?_
  rw [IntKind.wrap_i64]; omega
theorem and_four (n : Int) : bits .and .i64 n 4 = n / 4 % 2 * 4 := by
  have h := and_bits n 4 (by decide)
  rw [show (4 : Nat) = 2 ^ 2 by rfl, and_nat] at h
  refine Eq.trans (by exact h) ?_
  rw [IntKind.wrap_i64, show (2 : Nat) ^ 2 = 4 by rfl]; omega

theorem val_end (x y : Int) (h : x = y) : Ending.returned (.int .i64 x) = Ending.returned (.int .i64 y) := by rw [h]

theorem valAt_any (n : Int) (i : Nat) (w : World) (hi : i < 3) :
    Calls Tryz.prog 62 #[.int .i64 n, .int .i64 (i : Int)] w fun e w' => e = .returned (.int .i64 (bit n i)) ∧ w' = w := by
  have h3 : i = 0 ∨ i = 1 ∨ i = 2 := by omega
  rcases h3 with rfl | rfl | rfl
  · have e := and_one n
    have E : Hid (bit n 0 = n % 2) := by show _ = _; simp [bit]
    by_cases h : n % 2 = 0
    · have HH := hid h
      have e' : bits .and .i64 n 1 = 0 := by omega
      clear e h
      go_enter Tryz.func62, Tryz.ntmps62
      go_wp2
      go_ret
      exact ⟨val_end _ _ (by rw [E.out, HH.out]), rfl⟩
    · have HH : Hid (n % 2 = 1) := by show _ = _; omega
      have e' : bits .and .i64 n 1 = 1 := by rw [e]; exact HH.out
      clear e h
      go_enter Tryz.func62, Tryz.ntmps62
      go_wp2
      go_ret
      exact ⟨val_end _ _ (by rw [E.out, HH.out]), rfl⟩
  · have e := and_two n
    have E : Hid (bit n 1 = n / 2 % 2) := by show _ = _; simp [bit]
    by_cases h : n / 2 % 2 = 0
    · have HH := hid h
      have e' : bits .and .i64 n 2 = 0 := by omega
      clear e h
      go_enter Tryz.func62, Tryz.ntmps62
      go_wp2
      go_ret
      exact ⟨val_end _ _ (by rw [E.out, HH.out]), rfl⟩
    · have HH : Hid (n / 2 % 2 = 1) := by show _ = _; omega
      have e' : bits .and .i64 n 2 = 2 := by rw [e, HH.out]; rfl
      clear e h
      go_enter Tryz.func62, Tryz.ntmps62
      go_wp2
      go_ret
      exact ⟨val_end _ _ (by rw [E.out, HH.out]), rfl⟩
  · have e := and_four n
    have E : Hid (bit n 2 = n / 4 % 2) := by show _ = _; simp [bit]
    by_cases h : n / 4 % 2 = 0
    · have HH := hid h
      have e' : bits .and .i64 n 4 = 0 := by omega
      clear e h
      go_enter Tryz.func62, Tryz.ntmps62
      go_wp2
      go_ret
      exact ⟨val_end _ _ (by rw [E.out, HH.out]), rfl⟩
    · have HH : Hid (n / 4 % 2 = 1) := by show _ = _; omega
      have e' : bits .and .i64 n 4 = 4 := by rw [e, HH.out]; rfl
      clear e h
      go_enter Tryz.func62, Tryz.ntmps62
      go_wp2
      go_ret
      exact ⟨val_end _ _ (by rw [E.out, HH.out]), rfl⟩

theorem right_flags (n : Int) (w : World) :
    Calls Tryz.prog 28 #[.int .i64 n] w fun e w' => e = .returned (.bool (decide (0 ≤ n ∧ n ≤ 7))) ∧ w' = w := by
  by_cases h : 0 ≤ n
  · go_enter Tryz.func28, Tryz.ntmps28
    go_wp2
    go_ret
    exact ⟨ret_bool (by simp [h]), rfl⟩
  · go_enter Tryz.func28, Tryz.ntmps28
    go_wp2
    go_ret
    exact ⟨ret_bool (by simp; omega), rfl⟩

/-- The number of a list's flags, of its first i. -/
def fof (l : List R3) : Nat → Nat
  | 0 => 0
  | i + 1 => fof l i + (if ((l[i]?.map (·.1)).getD 0) % 2 = 1 then 2 ^ i else 0)
theorem fof_lt (l : List R3) (i : Nat) : fof l i < 2 ^ i := by
  induction i with
  | zero => simp [fof]
  | succ i ih =>
    simp only [fof, Nat.pow_succ]
    split <;> omega
theorem fof_odd (l : List R3) (i : Nat) (h : i < l.length) (ho : l[i].1 % 2 = 1) : fof l (i + 1) = fof l i + 2 ^ i := by
  simp [fof, h, ho]
theorem fof_even (l : List R3) (i : Nat) (h : i < l.length) (ho : l[i].1 % 2 = 0) : fof l (i + 1) = fof l i := by
  simp [fof, h, ho]
theorem tmod2 (v : Int) (h : v % 2 = 1) : (v.tmod 2 != 0) = true := by
  have : v.tmod 2 ≠ 0 := by
    intro e; have := Int.dvd_of_tmod_eq_zero e; omega
  simpa using this
theorem tmod2' (v : Int) (h : v % 2 = 0) : (v.tmod 2 != 0) = false := by
  have : v.tmod 2 = 0 := Int.tmod_eq_zero_of_dvd (by omega)
  simpa using this

end Go.Proofs.YtfmacodnjhegcamGreat
