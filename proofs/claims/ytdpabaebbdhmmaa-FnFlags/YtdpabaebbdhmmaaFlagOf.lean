/- Flags as a number, bit by bit. -/
import Derived.Test.YtdpabaebbdhmmaaFlagOk
import Derived.Laws.ShiftsVarLaws
namespace Go.Proofs.Ytdpabaebbdhmmaa
open Go.RowKit

/-- A bit of a number. -/
def bit (n : Int) (i : Nat) : Int := n / 2 ^ i % 2

theorem and_nat (X i : Nat) : X &&& 2 ^ i = X / 2 ^ i % 2 * 2 ^ i := nat_bit i X

theorem and_bits (n : Int) (m : Nat) (hm : m < 100) : bits .and .i64 n (m : Int) = IntKind.i64.wrap (((n % 18446744073709551616).toNat &&& m : Nat) : Int) := by
  show IntKind.i64.wrap ((BitVec.ofInt 64 n &&& BitVec.ofInt 64 (m : Int)).toNat : Int) = _
  rw [BitVec.toNat_and, BitVec.toNat_ofInt, BitVec.toNat_ofInt]
  rw [show ((2 ^ 64 : Nat) : Int) = 18446744073709551616 by rfl, show ((m : Int) % 18446744073709551616).toNat = m by omega]

theorem and_one (n : Int) : bits .and .i64 n 1 = n % 2 := by
  have h := and_bits n 1 (by decide)
  rw [show (1 : Nat) = 2 ^ 0 by rfl, and_nat] at h
  simp only [Nat.pow_zero, Nat.div_one, Nat.mul_one] at h
  refine Eq.trans (by exact h) ?_
  rw [IntKind.wrap_i64]; omega
theorem and_two (n : Int) : bits .and .i64 n 2 = n / 2 % 2 * 2 := by
  have h := and_bits n 2 (by decide)
  rw [show (2 : Nat) = 2 ^ 1 by rfl, and_nat] at h
  simp only [Nat.pow_one] at h
  refine Eq.trans (by exact h) ?_
  rw [IntKind.wrap_i64]; omega
theorem and_four (n : Int) : bits .and .i64 n 4 = n / 4 % 2 * 4 := by
  have h := and_bits n 4 (by decide)
  rw [show (4 : Nat) = 2 ^ 2 by rfl, and_nat] at h
  refine Eq.trans (by exact h) ?_
  rw [IntKind.wrap_i64, show (2 : Nat) ^ 2 = 4 by rfl]; omega

theorem withFlag_any (s i : Nat) (w : World) (hi : i < 3) (hs : s < 2 ^ i) :
    Calls Try.prog 50 #[.int .i64 (s : Int), .int .i64 (i : Int)] w fun e w' => e = .returned (.int .i64 ((s + 2 ^ i : Nat) : Int)) ∧ w' = w := by
  have h : (i = 0 ∧ s = 0) ∨ (i = 1 ∧ s = 0) ∨ (i = 1 ∧ s = 1) ∨ (i = 2 ∧ s = 0) ∨ (i = 2 ∧ s = 1) ∨ (i = 2 ∧ s = 2) ∨ (i = 2 ∧ s = 3) := by
    have h3 : i = 0 ∨ i = 1 ∨ i = 2 := by omega
    rcases h3 with rfl | rfl | rfl <;> simp at hs <;> omega
  rcases h with ⟨rfl, rfl⟩ | ⟨rfl, rfl⟩ | ⟨rfl, rfl⟩ | ⟨rfl, rfl⟩ | ⟨rfl, rfl⟩ | ⟨rfl, rfl⟩ | ⟨rfl, rfl⟩
  all_goals
    go_enter Try.func50, Try.ntmps50
    go_wp2
    go_ret
    exact ⟨by kernel_rfl, rfl⟩

theorem val_end (x y : Int) (h : x = y) : Ending.returned (.int .i64 x) = Ending.returned (.int .i64 y) := by rw [h]

theorem valAt_any (n : Int) (i : Nat) (w : World) (hi : i < 3) :
    Calls Try.prog 48 #[.int .i64 n, .int .i64 (i : Int)] w fun e w' => e = .returned (.int .i64 (bit n i)) ∧ w' = w := by
  have h3 : i = 0 ∨ i = 1 ∨ i = 2 := by omega
  rcases h3 with rfl | rfl | rfl
  · have e := and_one n
    have E : Hid (bit n 0 = n % 2) := by show _ = _; simp [bit]
    by_cases h : n % 2 = 0
    · have HH := hid h
      have e' : bits .and .i64 n 1 = 0 := by omega
      clear e h
      go_enter Try.func48, Try.ntmps48
      go_wp2
      go_ret
      exact ⟨val_end _ _ (by rw [E.out, HH.out]), rfl⟩
    · have HH : Hid (n % 2 = 1) := by show _ = _; omega
      have e' : bits .and .i64 n 1 = 1 := by rw [e]; exact HH.out
      clear e h
      go_enter Try.func48, Try.ntmps48
      go_wp2
      go_ret
      exact ⟨val_end _ _ (by rw [E.out, HH.out]), rfl⟩
  · have e := and_two n
    have E : Hid (bit n 1 = n / 2 % 2) := by show _ = _; simp [bit]
    by_cases h : n / 2 % 2 = 0
    · have HH := hid h
      have e' : bits .and .i64 n 2 = 0 := by omega
      clear e h
      go_enter Try.func48, Try.ntmps48
      go_wp2
      go_ret
      exact ⟨val_end _ _ (by rw [E.out, HH.out]), rfl⟩
    · have HH : Hid (n / 2 % 2 = 1) := by show _ = _; omega
      have e' : bits .and .i64 n 2 = 2 := by rw [e, HH.out]; rfl
      clear e h
      go_enter Try.func48, Try.ntmps48
      go_wp2
      go_ret
      exact ⟨val_end _ _ (by rw [E.out, HH.out]), rfl⟩
  · have e := and_four n
    have E : Hid (bit n 2 = n / 4 % 2) := by show _ = _; simp [bit]
    by_cases h : n / 4 % 2 = 0
    · have HH := hid h
      have e' : bits .and .i64 n 4 = 0 := by omega
      clear e h
      go_enter Try.func48, Try.ntmps48
      go_wp2
      go_ret
      exact ⟨val_end _ _ (by rw [E.out, HH.out]), rfl⟩
    · have HH : Hid (n / 4 % 2 = 1) := by show _ = _; omega
      have e' : bits .and .i64 n 4 = 4 := by rw [e, HH.out]; rfl
      clear e h
      go_enter Try.func48, Try.ntmps48
      go_wp2
      go_ret
      exact ⟨val_end _ _ (by rw [E.out, HH.out]), rfl⟩

theorem right_flags (n : Int) (w : World) :
    Calls Try.prog 47 #[.int .i64 n] w fun e w' => e = .returned (.bool (decide (0 ≤ n ∧ n ≤ 7))) ∧ w' = w := by
  by_cases h : 0 ≤ n
  · go_enter Try.func47, Try.ntmps47
    go_wp2
    go_ret
    exact ⟨ret_bool (by simp [h]), rfl⟩
  · go_enter Try.func47, Try.ntmps47
    go_wp2
    go_ret
    exact ⟨ret_bool (by simp; omega), rfl⟩

/-- The number of a list's flags, of its first i. -/
def fof (l : List R3) : Nat → Nat
  | 0 => 0
  | i + 1 => fof l i + (if ((l[i]?.map (·.1)).getD 0) % 2 = 1 then 2 ^ i else 0)
theorem fof_lt (l : List R3) (i : Nat) : fof l i < 2 ^ i := by
  induction i with
  | zero => simp [fof]
  | succ i ih =>
    simp only [fof, Nat.pow_succ]
    split <;> omega
theorem fof_odd (l : List R3) (i : Nat) (h : i < l.length) (ho : l[i].1 % 2 = 1) : fof l (i + 1) = fof l i + 2 ^ i := by
  simp [fof, h, ho]
theorem fof_even (l : List R3) (i : Nat) (h : i < l.length) (ho : l[i].1 % 2 = 0) : fof l (i + 1) = fof l i := by
  simp [fof, h, ho]
theorem tmod2 (v : Int) (h : v % 2 = 1) : (v.tmod 2 != 0) = true := by
  have : v.tmod 2 ≠ 0 := by
    intro e; have := Int.dvd_of_tmod_eq_zero e; omega
  simpa using this
theorem tmod2' (v : Int) (h : v % 2 = 0) : (v.tmod 2 != 0) = false := by
  have : v.tmod 2 = 0 := Int.tmod_eq_zero_of_dvd (by omega)
  simpa using this

set_option maxHeartbeats 400000 in
set_option maxRecDepth 100000 in
theorem specFlagsOf_any (ao : Option Addr) (n cap : Nat) (l : List R3) (w : World) (hl : l.length = n) (hn : n ≤ 1048576) (hr : Rs w ao l) :
    Calls Try.prog 28 #[.slice ao n cap] w fun e w' => e = .returned (.int .i64 (fof l (min n 3) : Nat)) ∧ Below w.heap.size w w' := by
  have HR := hid hr
  have HL := hid hl
  clear hr hl
  go_enter Try.func28, Try.ntmps28
  go_wp2
  go_loop [3, 4] (fun nv iv => ∃ i : Nat, i ≤ n ∧ i ≤ 3 ∧ iv = .int .i64 (i : Int) ∧ nv = .int .i64 (fof l i : Nat)) (fun _ iv => n - (intOf iv).toNat)
  case atStart => exact ⟨0, Nat.zero_le _, by omega, rfl, rfl⟩
  case round =>
    obtain ⟨i, hi, hi3, rfl, rfl⟩ := hrel
    by_cases hlt : i < n
    · by_cases hlt3 : i < 3
      · have hil : i < l.length := by rw [HL.out]; exact hlt
        obtain ⟨k, o, rfl, hk, c⟩ := HR.out.at hil
        obtain ⟨s, hs⟩ : ∃ s, fof l i = s := ⟨_, rfl⟩
        have hsl := fof_lt l i
        rw [hs] at hsl ⊢
        have HS := hid hs
        by_cases ho : l[i].1 % 2 = 1
        · have HN := hid ((fof_odd l i hil ho).trans (by rw [HS.out]))
          have ho' := tmod2 _ ho
          obtain ⟨p, hp⟩ : ∃ p, l[i] = p := ⟨_, rfl⟩
          rw [hp] at c ho'
          clear ho hp hs
          have h3 : i = 0 ∨ i = 1 ∨ i = 2 := by omega
          rcases h3 with rfl | rfl | rfl
          all_goals
            simp only [Nat.reducePow] at hsl
            simp only [Nat.zero_mul, Nat.add_zero, Nat.one_mul, Nat.reduceMul] at c
            go_wp2
            go_round
            case rel => exact ⟨_ + 1, hlt, hlt3, by go_num, by rw [HN.out]; go_num⟩
            case measure => simp [intOf]; omega
        · have HN := hid ((fof_even l i hil (by omega)).trans HS.out)
          have ho' := tmod2' l[i].1 (by omega)
          obtain ⟨p, hp⟩ : ∃ p, l[i] = p := ⟨_, rfl⟩
          rw [hp] at c ho'
          clear ho hp hs hsl
          go_wp2
          go_round
          case rel => exact ⟨i + 1, hlt, hlt3, by go_num, by rw [HN.out]⟩
          case measure => simp [intOf]; omega
      · have HM : Hid (min n 3 = i) := by show _ = _; omega
        go_wp2
        go_ret
        exact ⟨by rw [HM.out]; rfl, bre _⟩
    · have HM : Hid (min n 3 = i) := by show _ = _; omega
      go_wp2
      go_ret
      exact ⟨by rw [HM.out]; rfl, bre _⟩

set_option maxHeartbeats 800000 in
set_option maxRecDepth 100000 in
theorem implFlagsOf_any (ao : Option Addr) (n cap : Nat) (l : List R3) (w : World) (hl : l.length = n) (hn : n ≤ 1048576) (hc : n ≤ cap) (hr : Rs w ao l) :
    Calls Try.prog 25 #[.slice ao n cap] w fun e w' => e = .returned (.int .i64 (fof l (min n 3) : Nat)) ∧ Below w.heap.size w w' := by
  have HR := hid hr
  have HL := hid hl
  have hmx : max (3 : Int) 0 = 3 := rfl
  clear hr hl
  by_cases h : (n : Int) ≤ 3
  · have hN3 : n ≤ 3 := by omega
    go_enter Try.func25, Try.ntmps25
    go_wp2
    clear h hmx
    go_loopw [3, 12] (fun nv iv wr => ∃ i : Nat, i ≤ n ∧ iv = .int .i64 (i : Int) ∧ nv = .int .i64 (fof l i : Nat) ∧ Below w.heap.size w wr) (fun _ iv _ => n - (intOf iv).toNat)
    case atStart => exact ⟨0, Nat.zero_le _, rfl, rfl, bre _⟩
    case round =>
      obtain ⟨i, hi, rfl, rfl, hb⟩ := hrel
      have HB := hid hb
      clear hb
      by_cases hlt : i < n
      · have hil : i < l.length := by rw [HL.out]; omega
        have hi3 : i < 3 := by omega
        obtain ⟨k, o, rfl, hk, c⟩ := (HR.out.later HB.out).at hil
        obtain ⟨s, hs⟩ : ∃ s, fof l i = s := ⟨_, rfl⟩
        have hsl := fof_lt l i
        rw [hs] at hsl ⊢
        have HS := hid hs
        have HSL := hid hsl
        clear hsl
        by_cases ho : l[i].1 % 2 = 1
        · have HN := hid ((fof_odd l i hil ho).trans (by rw [HS.out]))
          have ho' := tmod2 _ ho
          obtain ⟨p, hp⟩ : ∃ p, l[i] = p := ⟨_, rfl⟩
          rw [hp] at c ho'
          clear ho hp hs
          go_wp2_with fail
          refine (withFlag_any s i _ hi3 HSL.out).mono ?_; rintro e w1 ⟨rfl, rfl⟩
          rw [← HN.out]
          go_wp2
          go_roundw
          case rel => exact ⟨i + 1, hlt, by go_num, rfl, bpush HB.out _⟩
          case measure => simp [intOf]; omega
        · have HN := hid ((fof_even l i hil (by omega)).trans HS.out)
          have ho' := tmod2' l[i].1 (by omega)
          obtain ⟨p, hp⟩ : ∃ p, l[i] = p := ⟨_, rfl⟩
          rw [hp] at c ho'
          clear ho hp hs
          go_wp2
          go_roundw
          case rel => exact ⟨i + 1, hlt, by go_num, by rw [HN.out], bpush HB.out _⟩
          case measure => simp [intOf]; omega
      · have HM : Hid (min n 3 = i) := by show _ = _; omega
        go_wp2
        go_ret
        exact ⟨by rw [HM.out]; rfl, HB.out⟩
  · have hN3 : 3 < n := by omega
    have h : (3 : Int) < n := by omega
    go_enter Try.func25, Try.ntmps25
    go_wp2
    clear h hmx
    go_loopw [3, 12] (fun nv iv wr => ∃ i : Nat, i ≤ 3 ∧ iv = .int .i64 (i : Int) ∧ nv = .int .i64 (fof l i : Nat) ∧ Below w.heap.size w wr) (fun _ iv _ => 3 - (intOf iv).toNat)
    case atStart => exact ⟨0, Nat.zero_le _, rfl, rfl, bre _⟩
    case round =>
      obtain ⟨i, hi, rfl, rfl, hb⟩ := hrel
      have HB := hid hb
      clear hb
      by_cases hlt : i < 3
      · have hil : i < l.length := by rw [HL.out]; omega
        have hi3 : i < 3 := by omega
        obtain ⟨k, o, rfl, hk, c⟩ := (HR.out.later HB.out).at hil
        obtain ⟨s, hs⟩ : ∃ s, fof l i = s := ⟨_, rfl⟩
        have hsl := fof_lt l i
        rw [hs] at hsl ⊢
        have HS := hid hs
        have HSL := hid hsl
        clear hsl
        by_cases ho : l[i].1 % 2 = 1
        · have HN := hid ((fof_odd l i hil ho).trans (by rw [HS.out]))
          have ho' := tmod2 _ ho
          obtain ⟨p, hp⟩ : ∃ p, l[i] = p := ⟨_, rfl⟩
          rw [hp] at c ho'
          clear ho hp hs
          go_wp2_with fail
          refine (withFlag_any s i _ hi3 HSL.out).mono ?_; rintro e w1 ⟨rfl, rfl⟩
          rw [← HN.out]
          go_wp2
          go_roundw
          case rel => exact ⟨i + 1, hlt, by go_num, rfl, bpush HB.out _⟩
          case measure => simp [intOf]; omega
        · have HN := hid ((fof_even l i hil (by omega)).trans HS.out)
          have ho' := tmod2' l[i].1 (by omega)
          obtain ⟨p, hp⟩ : ∃ p, l[i] = p := ⟨_, rfl⟩
          rw [hp] at c ho'
          clear ho hp hs
          go_wp2
          go_roundw
          case rel => exact ⟨i + 1, hlt, by go_num, by rw [HN.out], bpush HB.out _⟩
          case measure => simp [intOf]; omega
      · have HM : Hid (min n 3 = i) := by show _ = _; omega
        go_wp2
        go_ret
        exact ⟨by rw [HM.out]; rfl, HB.out⟩
end Go.Proofs.Ytdpabaebbdhmmaa
