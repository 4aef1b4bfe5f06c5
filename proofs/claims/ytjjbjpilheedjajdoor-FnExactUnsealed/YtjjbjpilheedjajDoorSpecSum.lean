/- The walk of the model's sum, and of the laws over sums. -/
import Derived.Test.YtjjbjpilheedjajDoorSum
namespace Go.Proofs.YtjjbjpilheedjajDoor
open Go.RowKit

def stN : Nat → Nat → Nat
  | 0, x => x
  | k + 1, x => st (stN k x)
theorem stN_lt : ∀ (k : Nat) {x : Nat}, x < 4294967296 → stN k x < 4294967296
  | 0, _, h => h
  | k + 1, _, h => st_lt (stN_lt k h)

theorem specMore_any (x : Nat) (s : ByteArray) (w : World) (hx : x < 4294967296) (hs : s.size ≤ 1048577) :
    Calls Tryd.prog 14 #[.int .u32 (x : Int), .string s] w fun e w' => e = .returned (.int .u32 (smore x s.data.toList : Nat)) ∧ w = w' := by
  go_enter Tryd.func14, Tryd.ntmps14
  go_wp2
  go_loop [0, 5] (fun sv iv => ∃ (k y : Nat), k ≤ s.size ∧ y = smore x (s.data.toList.take k) ∧ sv = .int .u32 (y : Int) ∧ iv = .int .i64 (k : Int)) (fun _ iv => s.size - (intOf iv).toNat)
  case atStart => exact ⟨0, x, Nat.zero_le _, rfl, rfl, rfl⟩
  case round =>
    obtain ⟨k, y, hk, hy, rfl, rfl⟩ := hrel
    have hyl : y < 4294967296 := by rw [hy]; exact smore_lt _ hx
    have HY := hide hy
    clear hy
    by_cases hlt : k < s.size
    · obtain ⟨c, hcx⟩ : ∃ c : Nat, s[k].toNat = c := ⟨_, rfl⟩
      have hcb : c < 256 := by rw [← hcx]; exact s[k].toNat_lt
      have HC := hide hcx
      have hI : (0 : Int) ≤ (k : Int) ∧ (k : Int) < (s.size : Int) := by omega
      obtain ⟨z, hz⟩ : ∃ z : Nat, y ^^^ c = z := ⟨_, rfl⟩
      have hzl : z < 4294967296 := by rw [← hz]; exact Nat.xor_lt_two_pow (n := 32) (by omega) (by omega)
      have hxr : bits .xor .u32 (y : Int) (c : Int) = (z : Int) := by rw [u32_xor_nat y c hyl (by omega), hz]
      have HZ := hide hz
      clear hz
      go_wp2
      go_loop [0, 6] (fun sv iv => ∃ (j v : Nat), j ≤ 8 ∧ v = stN j z ∧ sv = .int .u32 (v : Int) ∧ iv = .int .i64 (j : Int)) (fun _ iv => 8 - (intOf iv).toNat)
      case atStart => exact ⟨0, z, by omega, rfl, rfl, rfl⟩
      case round =>
        obtain ⟨j, v, hj, hv, rfl, rfl⟩ := hrel
        have hvl : v < 4294967296 := by rw [hv]; exact stN_lt j hzl
        have HV := hide hv
        clear hv
        by_cases hj8 : j < 8
        · obtain ⟨q, hq⟩ : ∃ q : Nat, v / 2 = q := ⟨_, rfl⟩
          have hqi : (v : Int) / 2 = (q : Int) := by omega
          have hql : q < 4294967296 := by omega
          have HQ := hide hq
          clear hq
          by_cases ho : v % 2 = 1
          · have hoi : ((v : Int) % 2 == 1) = true := by simp; omega
            obtain ⟨r, hr⟩ : ∃ r : Nat, q ^^^ 3558460437 = r := ⟨_, rfl⟩
            have hri : bits .xor .u32 (q : Int) 3558460437 = (r : Int) := by rw [← hr]; exact u32_xor_nat q 3558460437 hql (by omega)
            have HR := hide hr
            have HO := hide ho
            clear hr ho
            go_wp2
            go_round
            case rel => exact ⟨j + 1, r, by omega, by rw [stN, ← unhide HV, st, if_pos (unhide HO), unhide HQ, unhide HR], rfl, by go_num⟩
            case measure => simp [intOf]; omega
          · have hoi : ((v : Int) % 2 == 1) = false := by simp; omega
            have HO := hide ho
            clear ho
            go_wp2
            go_round
            case rel => exact ⟨j + 1, q, by omega, by rw [stN, ← unhide HV, st, if_neg (unhide HO), unhide HQ], rfl, by go_num⟩
            case measure => simp [intOf]; omega
        · have hj' : j = 8 := by omega
          subst hj'
          go_wp2
          go_round
          case rel => exact ⟨k + 1, v, by omega, by rw [smore_step x s k hlt, ← unhide HY, unhide HC, unhide HZ, unhide HV]; rfl, rfl, by go_num⟩
          case measure => simp [intOf]; omega
    · go_wp2
      go_ret
      exact ⟨ret_int (by rw [unhide HY, List.take_of_length_le (by rw [Array.length_toList]; exact Nat.le_of_not_lt hlt)]), rfl⟩

theorem specOf_any (s : ByteArray) (w : World) (hs : s.size ≤ 1048577) :
    Calls Tryd.prog 10 #[.string s] w fun e w' => e = .returned (.int .u32 (smore 4294967295 s.data.toList : Nat)) ∧ w = w' := by
  go_enter Tryd.func10, Tryd.ntmps10
  go_wp2_with fail
  refine (specMore_any 4294967295 s _ (by decide) hs).mono ?_; rintro e w' ⟨rfl, rfl⟩
  go_wp2
  go_ret
  exact ⟨rfl, rfl⟩

end Go.Proofs.YtjjbjpilheedjajDoor
