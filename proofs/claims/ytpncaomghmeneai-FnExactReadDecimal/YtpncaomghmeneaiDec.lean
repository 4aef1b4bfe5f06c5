/- Decimal figures: the plain part, and the walk of the model's function that writes them (numbers from 0 on). -/
import Derived.Test.YtpncaomghmeneaiFigs
import Derived.Lib.ItoaNum
namespace Go.Proofs.Ytpncaomghmeneai
open Go.RowKit

/-- Decimal figures of a number: the library's own word for them. -/
def dg (n : Nat) : List UInt8 := Lib.decDigits n
theorem dg_small (n : Nat) (h : n < 10) : dg n = [UInt8.ofNat (48 + n)] := by unfold dg; rw [Lib.decDigits, dif_pos h]
theorem dg_big (n : Nat) (h : ¬ n < 10) : dg n = dg (n / 10) ++ [UInt8.ofNat (48 + n % 10)] := by unfold dg; rw [Lib.decDigits, dif_neg h]
theorem dg_len : ∀ (k n : Nat), n < 10 ^ (k + 1) → (dg n).length ≤ k + 1
  | 0, n, h => by rw [dg_small n (by simpa using h)]; simp
  | k + 1, n, h => by
    by_cases hn : n < 10
    · rw [dg_small n hn]; simp
    · rw [dg_big n hn]
      have := dg_len k (n / 10) (by rw [Nat.pow_succ] at h; omega)
      simp; omega

/-- The figures of what is left, nothing of 0. -/
def dgz (n : Nat) : List UInt8 := if n = 0 then [] else dg n
theorem dgz_zero : dgz 0 = [] := rfl
theorem dgz_pos (n : Nat) (h : n ≠ 0) : dgz n = dg n := by simp [dgz, h]
theorem dgz_step (m : Nat) (h : m ≠ 0) : dgz m = dgz (m / 10) ++ [UInt8.ofNat (48 + m % 10)] := by
  rw [dgz_pos m h]
  by_cases h1 : m < 10
  · rw [dg_small m h1, show m / 10 = 0 by omega, dgz_zero, show m % 10 = m by omega]; rfl
  · rw [dg_big m h1, dgz_pos _ (by omega)]

theorem u8_48 (x : Nat) (h : x < 10) : ((UInt8.ofNat (48 + x)).toNat : Int) = 48 + (x : Int) := by rw [u8_nat _ (by omega)]; omega

theorem figure_dec (x : Nat) (b : UInt8) (w : World) (h : x < 10) (hb : b = UInt8.ofNat (48 + x)) :
    Calls Try.prog 12 #[.int .i64 x] w fun e w' => e = .returned (.int .u8 b.toNat) ∧ w = w' := by
  subst hb
  go_enter Try.func12, Try.ntmps12
  go_wp2
  go_ret
  exact ⟨ret_int (by rw [u8_48 x h]), rfl⟩

theorem run_one (b : UInt8) (w : World) : (convert 27 9 (.slice (some ⟨w.heap.size, 0, none⟩) 1 1)).run Try.prog (w.alloc (.cells #[.int .u8 (b.toNat : Int)] 5)) = .ok (.string ⟨#[b]⟩) (w.alloc (.cells #[.int .u8 (b.toNat : Int)] 5)) :=
  run_string_own (P := Try.prog) _ 27 9 5 Try.underlying27 Try.underlying5 Try.underlying9 [b] (World.ownsRow_lit (base := 0) w #[bv b] 1 (Nat.zero_le _) (by decide) rfl)

theorem ba_cons (b : UInt8) (t : List UInt8) : (⟨#[b]⟩ ++ ⟨t.toArray⟩ : ByteArray) = ⟨(b :: t).toArray⟩ := by
  apply ByteArray.ext
  rw [ByteArray.data_append]
  simp

theorem ret_str {a b : ByteArray} (h : a = b) : Ending.returned (.string a) = .returned (.string b) := by rw [h]

set_option maxHeartbeats 400000 in
theorem decimal_any (n : Nat) (w : World) (hn : n ≤ 1000000000000) :
    Calls Try.prog 11 #[.int .i64 n] w fun e w' => e = .returned (.string ⟨(dg n).toArray⟩) ∧ Below w.heap.size w w' := by
  by_cases h0 : n = 0
  · subst h0
    go_enter Try.func11, Try.ntmps11
    go_wp2
    go_ret
    exact ⟨ret_str (by rw [dg_small 0 (by decide)]; rfl), Below.refl _ _⟩
  · have h0' : ((n : Int) == 0) = false := by simp; omega
    have hl := dg_len 12 n (by omega)
    go_enter Try.func11, Try.ntmps11
    go_wp2
    go_loopw [0, 4] (fun nv sv wr => ∃ (m : Nat) (t : List UInt8), nv = .int .i64 (m : Int) ∧ sv = .string ⟨t.toArray⟩ ∧ m ≤ n ∧ dgz m ++ t = dg n ∧ Below w.heap.size w wr) (fun nv _ _ => (intOf nv).toNat)
    case atStart => exact ⟨n, [], rfl, rfl, Nat.le_refl _, by rw [dgz_pos n h0]; simp, Below.refl _ _⟩
    case round =>
      clear h0'
      obtain ⟨m, t, rfl, rfl, hm, ht, hb⟩ := hrel
      have hsz := hb.size
      have htl : t.length ≤ 13 := by have := congrArg List.length ht; simp at this; omega
      have HT := (show Hid (dgz m ++ t = dg n) from ht)
      clear ht hl
      by_cases hz : m = 0
      · have hz' : ((m : Int) != 0) = false := by simp; omega
        have HZ := (show Hid (m = 0) from hz)
        clear hz
        go_wp2
        go_ret
        exact ⟨ret_str (by rw [← HT.out, HZ.out]; rfl), hb⟩
      · have hz' : ((m : Int) != 0) = true := by simp; omega
        obtain ⟨d, hd⟩ : ∃ d : Nat, m % 10 = d := ⟨_, rfl⟩
        have hdi : (m : Int) % 10 = (d : Int) := by omega
        have hdb : d < 10 := by omega
        have HD := (show Hid (m % 10 = d) from hd)
        obtain ⟨b, hbb⟩ : ∃ b, b = UInt8.ofNat (48 + d) := ⟨_, rfl⟩
        have HBB := (show Hid (b = UInt8.ofNat (48 + d)) from hbb)
        have hone := run_one b wr
        clear hd hbb
        go_wp2_with fail
        refine (figure_dec d b _ hdb HBB.out).mono ?_; rintro e w1 ⟨rfl, rfl⟩
        go_wp2
        go_roundw
        case rel => exact ⟨m / 10, b :: t, by go_num, by rw [ba_cons], by omega, by rw [← HT.out, dgz_step m hz, HD.out, ← HBB.out]; simp, hb.alloc hsz _⟩
        case measure => simp [intOf]; omega
end Go.Proofs.Ytpncaomghmeneai
